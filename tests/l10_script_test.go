package tests

import (
	"fmt"
	"slices"
	"strings"
	"testing"

	"loop.example/g01137/impl"
)

// isScriptOf reports whether a text is a script, as the document defines it.
func isScriptOf(s string) bool {
	return s == "" || len(s) <= 3000 && strings.HasSuffix(s, "\n") && strings.Count(s, "\n") <= 50
}

func wantReplies(t *testing.T, script string, want []string) {
	t.Helper()
	if replies, ok := impl.RunScript(script); !ok || !slices.Equal(replies, want) {
		t.Errorf("RunScript(%.200q): %q %v, want %q", script, replies, ok, want)
	}
}

func wantDeskAfter(t *testing.T, script string, want impl.Desk) {
	t.Helper()
	if d, ok := impl.DeskAfter(script); !ok || !sameDesk(d, want) {
		t.Errorf("DeskAfter(%.200q): %s %v, want %s", script, deskText(d), ok, deskText(want))
	}
}

// wantScript wants the script of some lines to do what its lines should do, and what DeskLine of them does in turn.
func wantScript(t *testing.T, lines []string) {
	t.Helper()
	d := impl.Desk{Space: impl.Space{Items: 3, Sets: []int{0, 1, 2, 3, 5, 6, 7}}}
	stepped := impl.FirstDesk()
	var replies []string
	var failed []int
	for i, line := range lines {
		done := outcomeOf(d, line)
		d = done.desk
		replies = append(replies, done.reply)
		if done.reply == "no" || done.reply == "what" {
			failed = append(failed, i+1)
		}
		behind, reply, ok := impl.DeskLine(stepped, line)
		if !ok || reply != done.reply {
			t.Errorf("the line %d, %.80q: %q %v, want %q", i+1, line, reply, ok, done.reply)
		}
		stepped = behind
	}
	script := strings.Join(append(slices.Clone(lines), ""), "\n")
	wantReplies(t, script, replies)
	wantDeskAfter(t, script, d)
	wantDeskAfter(t, script, stepped)
	numbers, ok := impl.FailedLines(script)
	wantWord(t, fmt.Sprintf("FailedLines(%.200q)", script), numbers, ok, failed, true)
}

func wantNoScript(t *testing.T, s string) {
	t.Helper()
	replies, ok := impl.RunScript(s)
	if ok || len(replies) > 0 {
		t.Errorf("RunScript of %d bytes, %.80q: %q %v", len(s), s, replies, ok)
	}
	if d, ok := impl.DeskAfter(s); ok || !sameDesk(d, impl.Desk{}) {
		t.Errorf("DeskAfter of %d bytes, %.80q: %s %v", len(s), s, deskText(d), ok)
	}
	failed, ok := impl.FailedLines(s)
	wantWord(t, fmt.Sprintf("FailedLines of %d bytes, %.80q", len(s), s), failed, ok, nil, false)
}

func TestEmptyScript(t *testing.T) {
	wantReplies(t, "", nil)
	wantDeskAfter(t, "", impl.FirstDesk())
	failed, ok := impl.FailedLines("")
	wantWord(t, "FailedLines of the empty script", failed, ok, nil, true)
}

func TestScriptsOfOneLine(t *testing.T) {
	for _, line := range tableLines() {
		wantScript(t, []string{line})
	}
	for _, line := range []string{"", " ", "fly", "learn 2", "learn", "show\r", "\xff\x00", "space 3:0,7"} {
		wantScript(t, []string{line})
	}
	wantReplies(t, "\n", []string{"what"})
	wantReplies(t, "known\n", []string{"0"})
	wantReplies(t, "show\n", []string{"3:0,1,2,3,5,6,7"})
	wantReplies(t, "learn 0\n", []string{"1"})
	wantReplies(t, "learn 2\n", []string{"no"})
	wantDeskAfter(t, "learn 0\n", impl.Desk{Space: impl.FirstDesk().Space, Known: 1})
}

func TestScriptsOfMaxLines(t *testing.T) {
	for _, line := range []string{"", "known", "fly", "learn 0", "behind", "free 7", "ask"} {
		for _, count := range []int{2, 49, 50} {
			wantScript(t, slices.Repeat([]string{line}, count))
		}
		for _, count := range []int{51, 52, 100, 3000} {
			wantNoScript(t, strings.Repeat(line+"\n", count))
		}
		wantNoScript(t, strings.Repeat(line+"\n", 50)+"x")
	}
	failed, ok := impl.FailedLines(strings.Repeat("known\n", 49) + "fly\n")
	wantWord(t, "FailedLines", failed, ok, []int{50}, true)
	failed, ok = impl.FailedLines(strings.Repeat("known\n", 50))
	wantWord(t, "FailedLines", failed, ok, nil, true)
}

func TestTextsWithoutTheLastNewline(t *testing.T) {
	for _, s := range []string{"x", " ", "show", "learn 0", "\nshow", "show\nknown", "show\n\nknown", "show\n ", "\n\n\n ", "show\r",
		"show\nknown\r", "show\n\x00", "\u2028", "\u0085", strings.Repeat("x", 2999), strings.Repeat("x", 3000), strings.Repeat("\n", 49) + "x",
		strings.Repeat("\n", 50) + "show"} {
		wantNoScript(t, s)
	}
}

func TestTextsOfMaxScriptBytes(t *testing.T) {
	for _, lines := range [][]string{{}, {"learn 0"}, {"learn 0", "behind"}, {"free 4", "known", "know 5", "", "show"},
		slices.Repeat([]string{"next"}, 49)} {
		for _, at := range []int{0, len(lines)} {
			left := impl.MaxScript - len(strings.Join(append(slices.Clone(lines), ""), "\n")) - 1
			for _, more := range []string{"x", " ", "\xff"} {
				wantScript(t, slices.Insert(slices.Clone(lines), at, strings.Repeat(more, left)))
				wantScript(t, slices.Insert(slices.Clone(lines), at, strings.Repeat(more, left-1)))
				longer := slices.Insert(slices.Clone(lines), at, strings.Repeat(more, left+1))
				wantNoScript(t, strings.Join(longer, "\n")+"\n")
			}
		}
	}
	wantNoScript(t, strings.Repeat("\n", 3001))
	wantNoScript(t, strings.Repeat("x", 3000)+"\n")
	wantNoScript(t, strings.Repeat("x\n", 100000))
	wantNoScript(t, strings.Repeat("x", 1000000))
}

// Returns and other bytes are part of a line.
func TestJustNewlinesEndLines(t *testing.T) {
	wantReplies(t, "show\r\nknown\n", []string{"what", "0"})
	wantReplies(t, "show\rknown\n", []string{"what"})
	wantReplies(t, "known\x00known\n", []string{"what"})
	wantReplies(t, "known\u2028known\n", []string{"what"})
	wantReplies(t, "\n\nknown\n\n", []string{"what", "what", "0", "what"})
	failed, ok := impl.FailedLines("\n\nknown\n\nknown\n")
	wantWord(t, "FailedLines", failed, ok, []int{1, 2, 4}, true)
}

func TestScriptOfAllKindsOfLines(t *testing.T) {
	var lines, replies []string
	for _, step := range [][2]string{{"show", "3:0,1,2,3,5,6,7"}, {"words", "4"}, {"ask", "0,1"}, {"worst", "3"}, {"learn 0", "1"}, {"learn 1", "3"},
		{"last", "3"}, {"rest", "1"}, {"forget 1", "1"}, {"know 6", "6"}, {"hull 1", "1"}, {"free 3", "3:0,1,2,3,4,5,6,7"}, {"word 5", "210"},
		{"learn 2", "4"}, {"behind", "2:0,1,2,3"}, {"known", "0"}, {"line 4", "4:0,1,3,7,8,9,11,12,13,14,15"}, {"known", "0"}, {"learn 0", "1"},
		{"learn 3", "9"}, {"within", "2:0,1,2,3"}, {"paths", "1,2"}, {"space 2:0,2,3", "2:0,2,3"}, {"next", "2"}, {"word 0", "10"}, {"fly", "what"},
		{"word 1", "no"}} {
		lines, replies = append(lines, step[0]), append(replies, step[1])
	}
	script := strings.Join(lines, "\n") + "\n"
	wantScript(t, lines)
	wantReplies(t, script, replies)
	failed, ok := impl.FailedLines(script)
	wantWord(t, "FailedLines", failed, ok, []int{26, 27}, true)
}

func TestMadeScripts(t *testing.T) {
	c := chance(121)
	made := 0
	for range 600 {
		var lines []string
		length := 0
		for range c.below(51) {
			line := c.madeLine()
			length += len(line) + 1
			if length > impl.MaxScript {
				break
			}
			lines = append(lines, line)
		}
		wantScript(t, lines)
		made += len(lines)
	}
	if made < 5000 {
		t.Errorf("the scripts have just %d lines", made)
	}
}

// What is learnt along any full word ends with all items, and what is forgotten along it, backwards, with none.
func TestScriptsThatLearnAndForgetAll(t *testing.T) {
	c := chance(122)
	for _, s := range askSamples() {
		if len(textOf(s)) > 2000 {
			continue
		}
		word, _ := impl.WordWith(s, c.below(countOf(s)))
		lines := []string{"space " + textOf(s)}
		replies := []string{textOf(s)}
		for i, item := range word {
			lines = append(lines, fmt.Sprint("learn ", item))
			replies = append(replies, fmt.Sprint(setOf(word[:i+1])))
		}
		for i, item := range slices.Backward(word) {
			lines = append(lines, "rest", fmt.Sprint("forget ", item))
			replies = append(replies, fmt.Sprint(countedFrom(s.Items, marksOf(s.Sets), setOf(word[:i+1]))), fmt.Sprint(setOf(word[:i])))
		}
		wantReplies(t, strings.Join(lines, "\n")+"\n", replies)
		wantDeskAfter(t, strings.Join(lines, "\n")+"\n", impl.Desk{Space: s})
		wantDeskAfter(t, strings.Join(lines[:1+len(word)], "\n")+"\n", impl.Desk{Space: s, Known: fullOf(s.Items)})
	}
}
