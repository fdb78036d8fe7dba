package tests

import (
	"math"
	"slices"
	"strings"
	"testing"

	"loop.example/g01137/impl"
)

func deskIn(a arguments) impl.Desk { return impl.Desk{Space: a.space, Known: a.number} }

func canBeLine(a arguments) bool {
	return isOwnSet(a) && len(a.text) <= 3000 && !strings.Contains(a.text, "\n")
}

func isScript(a arguments) bool { return isScriptOf(a.text) }

// Known is told by the number of an argument, lines and scripts by the text.
var chapter10 = chapter{inSpaces: []demanding{
	{function{"IsDesk", func(a arguments) (any, bool) { ok := impl.IsDesk(deskIn(a)); return ok, ok }}, isOwnSet},
	{function{"DeskLine", func(a arguments) (any, bool) {
		behind, reply, ok := impl.DeskLine(deskIn(a), a.text)
		return outcome{behind, reply}, ok
	}}, canBeLine},
}, withoutSpace: []demanding{
	{function{"FirstDesk", func(arguments) (any, bool) { return impl.FirstDesk(), true }}, always},
	{function{"RunScript", func(a arguments) (any, bool) { return result(impl.RunScript(a.text)) }}, isScript},
	{function{"DeskAfter", func(a arguments) (any, bool) { return result(impl.DeskAfter(a.text)) }}, isScript},
	{function{"FailedLines", func(a arguments) (any, bool) { return result(impl.FailedLines(a.text)) }}, isScript},
}}

// tableTexts returns a line of each kind of the chapter's table, and some more.
func tableTexts() []string {
	return append(tableLines(), "", " ", "fly", "learn 9", "know 999999", "space 3:0,7", "learn 1", "forget 0", "free 7")
}

func TestLinesOnInvalidSpacesFail(t *testing.T) {
	for _, s := range invalidSpaces() {
		for _, known := range append(farNumbers(), 0, 1, 2, 3, 7, 127) {
			for _, text := range []string{"", "show", "free 3", "space 1:0,1", "learn 0", "ask", "fly"} {
				chapter10.wantCalls(t, arguments{space: s, number: known, text: text})
			}
		}
	}
}

func TestLinesAtSetsThatAreNoneFail(t *testing.T) {
	for _, s := range pathSamples() {
		for _, known := range append(farNumbers(), 1<<s.Items, 1<<s.Items+1) {
			for _, name := range []string{"IsDesk", "DeskLine"} {
				wantFailure(t, chapter10.named(name), arguments{space: s, number: known, text: "show"})
				wantFailure(t, chapter10.named(name), arguments{space: s, number: known, text: "free 2"})
			}
		}
		for known := range 1 << s.Items {
			a := arguments{space: s, number: known, text: "known"}
			if slices.Contains(s.Sets, known) {
				wantSuccess(t, chapter10.named("DeskLine"), a)
			} else {
				wantFailure(t, chapter10.named("DeskLine"), a)
			}
		}
	}
}

func TestLinesWithNewlinesOrTooLongFail(t *testing.T) {
	f := chapter10.named("DeskLine")
	for _, s := range []impl.Space{freeOf(1), turning, lineOf(7)} {
		for _, line := range tableTexts() {
			a := arguments{space: s, number: s.Sets[1], text: line}
			wantSuccess(t, f, a)
			for place := range len(line) + 1 {
				a.text = line[:place] + "\n" + line[place:]
				wantFailure(t, f, a)
			}
			a.text = line + strings.Repeat("x", 3000-len(line))
			wantSuccess(t, f, a)
			for _, more := range []string{"x", " ", "0", "\x00", "\n", strings.Repeat("x", 100000)} {
				longer := a
				longer.text += more
				wantFailure(t, f, longer)
			}
			a.text = line + strings.Repeat("x", 2999-len(line)) + "\n"
			wantFailure(t, f, a)
		}
	}
}

func TestTextsThatAreNoScriptFail(t *testing.T) {
	for _, text := range []string{"x", " ", "show", "\nshow", "show\nknown", "show\r", strings.Repeat("\n", 51), strings.Repeat("show\n", 51),
		strings.Repeat("x", 3000), strings.Repeat("x", 3000) + "\n", strings.Repeat("\n", 3001), strings.Repeat("\n", 50) + "x",
		strings.Repeat("show\n", 100000), strings.Repeat("\xff", 100000)} {
		wantFailures(t, chapter10, []string{"RunScript", "DeskAfter", "FailedLines"}, arguments{text: text})
	}
	for _, text := range []string{"", "\n", "show\n", strings.Repeat("\n", 50), strings.Repeat("x", 2999) + "\n", "\xff\n", "\x00\n"} {
		chapter10.wantCalls(t, arguments{text: text})
		chapter10.wantCalls(t, arguments{space: turning, number: 3, text: text})
	}
}

// validDeskCalls returns arguments with which each function of chapter 10 succeeds, and some with which it fails.
func validDeskCalls() []arguments {
	calls := []arguments{
		{space: freeOf(1), number: 0, text: ""},
		{space: freeOf(1), number: 2, text: ""},
		{space: turning, number: 3, text: "behind\n"},
		{space: turning, number: 4, text: "show\nfly\nlearn 0\nlearn 0\nspace 1:0,1\n\nwithin\n"},
		{space: lineOf(7), number: math.MinInt, text: "learn 0\nbehind"},
		{space: impl.Space{Items: 2, Sets: []int{3, 1, 0}}, number: 1, text: "show"},
		{},
	}
	for _, text := range tableTexts() {
		for _, d := range append(fewDesks(), tableDesk, impl.Desk{Space: with200, Known: 57}) {
			a := arguments{space: d.Space, number: d.Known, text: text}
			calls = append(calls, a)
			a.text += "\n"
			calls = append(calls, a)
		}
	}
	return calls
}

func TestDeskArgumentsAreKept(t *testing.T) {
	for _, a := range validDeskCalls() {
		chapter10.wantCalls(t, a)
	}
}

func TestValidDeskCallsSucceed(t *testing.T) {
	chapter10.wantSuccesses(t, validDeskCalls())
}

// The desk behind a line that leaves it as it is has a memory of its own, too.
func TestDeskResultsAreNewMemory(t *testing.T) {
	chapter10.wantNewMemory(t, validDeskCalls())
	c := chance(123)
	for _, d := range deskSamples() {
		for _, line := range []string{"known", c.madeLine()} {
			chapter10.wantNewMemory(t, []arguments{{space: d.Space, number: d.Known, text: line}})
		}
	}
}

// A change of one desk changes no other one.
func TestDesksAreTheirOwn(t *testing.T) {
	script := "learn 0\nfly\n"
	for _, call := range []func() impl.Desk{
		impl.FirstDesk,
		func() impl.Desk { d, _ := impl.DeskAfter(""); return d },
		func() impl.Desk { d, _ := impl.DeskAfter(script); return d },
		func() impl.Desk { d, _ := impl.DeskAfter("free 3\n"); return d },
		func() impl.Desk { d, _, _ := impl.DeskLine(impl.FirstDesk(), "show"); return d },
		func() impl.Desk { d, _, _ := impl.DeskLine(impl.FirstDesk(), "space 2:0,1,3"); return d },
	} {
		first, second := call(), call()
		want := impl.Desk{Space: impl.Space{Items: second.Space.Items, Sets: slices.Clone(second.Space.Sets)}, Known: second.Known}
		overwrite(first.Space.Sets)
		third := call()
		if !sameDesk(second, want) || !sameDesk(third, want) {
			t.Errorf("%s, then %s, then %s", deskText(want), deskText(second), deskText(third))
		}
	}
	d := impl.FirstDesk()
	for _, line := range []string{"show", "learn 0", "forget 0", "know 7", "fly", ""} {
		behind, _, _ := impl.DeskLine(d, line)
		again, _, _ := impl.DeskLine(d, line)
		overwrite(behind.Space.Sets)
		if !sameDesk(d, impl.FirstDesk()) || !sameSpace(again.Space, d.Space) {
			t.Errorf("behind the line %q: %s, and %s", line, deskText(d), deskText(again))
		}
	}
}

func TestRepliesAreTheirOwn(t *testing.T) {
	script := "show\nfly\nlearn 0\n"
	want := []string{"3:0,1,2,3,5,6,7", "what", "1"}
	first, _ := impl.RunScript(script)
	second, _ := impl.RunScript(script)
	clear(first[:cap(first)])
	if !slices.Equal(second, want) {
		t.Errorf("RunScript: %q", second)
	}
	wantReplies(t, script, want)
}

// What is behind the length of Sets does not belong to them.
func TestSpareCapacityIsNoPartOfADesk(t *testing.T) {
	sets := append(slices.Clone(turning.Sets), 16, -1)
	d := impl.Desk{Space: impl.Space{Items: 4, Sets: sets[:len(turning.Sets)]}, Known: 3}
	for _, line := range tableTexts() {
		wantLine(t, d, line)
		behind, _, _ := impl.DeskLine(d, line)
		_ = append(behind.Space.Sets, -99)
		if sets[len(turning.Sets)] != 16 {
			t.Errorf("behind %q the spare capacity is handed out", line)
		}
	}
	d.Space.Sets = d.Space.Sets[:len(turning.Sets)-1]
	for _, name := range []string{"IsDesk", "DeskLine"} {
		wantFailure(t, chapter10.named(name), arguments{space: d.Space, number: 3, text: "show"})
	}
}

// anyScript returns lines, with some bytes that are changed.
func (c *chance) anyScript() string {
	var text []byte
	for range c.below(5) {
		text = append(text, c.madeLine()...)
		if c.below(4) > 0 {
			text = append(text, '\n')
		}
	}
	for range c.below(3) {
		place := c.below(len(text) + 1)
		text = slices.Insert(text, place, byte(c.below(256)))
	}
	return string(text)
}

func TestAnyArgumentsOfConsole(t *testing.T) {
	c := chance(124)
	for range 2000 {
		a := arguments{space: c.anySpace(), number: c.anyNumber(), text: c.anyScript()}
		chapter10.wantCalls(t, a)
		a.text = c.madeLine()
		if len(a.space.Sets) > 0 {
			a.number = a.space.Sets[c.below(len(a.space.Sets))]
		}
		chapter10.wantCalls(t, a)
		a.text += "\n"
		chapter10.wantCalls(t, a)
	}
}

// Each byte may be in a line, at each place.
func TestEachByteInALine(t *testing.T) {
	for _, d := range []impl.Desk{impl.FirstDesk(), {Space: turning, Known: 3}} {
		for number := range 256 {
			text := string([]byte{byte(number)})
			for _, line := range []string{text, "show" + text, text + "show", "learn" + text + "0", "learn " + text, "know 1" + text,
				"space 1:0,1" + text, "space 1" + text + "0,1"} {
				a := arguments{space: d.Space, number: d.Known, text: line}
				chapter10.wantCalls(t, a)
				if canBeLine(a) {
					wantLine(t, d, line)
				}
			}
		}
	}
}
