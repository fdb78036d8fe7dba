package tests

import (
	"fmt"
	"math"
	"regexp"
	"slices"
	"strconv"
	"strings"
	"testing"

	"loop.example/g01137/impl"
)

// outcome is the desk behind a line, and the reply.
type outcome struct {
	desk  impl.Desk
	reply string
}

func sameDesk(a impl.Desk, b impl.Desk) bool {
	return a.Known == b.Known && sameSpace(a.Space, b.Space)
}

func deskText(d impl.Desk) string { return fmt.Sprint(textOf(d.Space), " at ", d.Known) }

// onDesk tells what a line should do on a desk by the result of a call.
type onDesk struct{ desk impl.Desk }

func (on onDesk) no() outcome { return outcome{on.desk, "no"} }

func (on onDesk) text(text string, ok bool) outcome {
	if !ok {
		return on.no()
	}
	return outcome{on.desk, text}
}

func (on onDesk) number(number int, ok bool) outcome { return on.text(fmt.Sprint(number), ok) }

func (on onDesk) list(list []int, ok bool) outcome {
	text := strings.ReplaceAll(strings.Trim(fmt.Sprint(list), "[]"), " ", ",")
	if text == "" {
		text = "-"
	}
	return on.text(text, ok)
}

func (on onDesk) space(s impl.Space, ok bool) outcome {
	if !ok {
		return on.no()
	}
	return outcome{impl.Desk{Space: s}, textOf(s)}
}

func (on onDesk) known(known int, ok bool) outcome {
	if !ok {
		return on.no()
	}
	return outcome{impl.Desk{Space: on.desk.Space, Known: known}, fmt.Sprint(known)}
}

var (
	wordLines   = []string{"behind", "within", "show", "known", "next", "last", "words", "rest", "paths", "ask", "worst"}
	numberLines = []string{"line", "free", "learn", "forget", "know", "hull", "word"}
	wordLine    = regexp.MustCompile(`^(` + strings.Join(wordLines, "|") + `)$`)
	numberLine  = regexp.MustCompile(`^(` + strings.Join(numberLines, "|") + `) (0|[1-9][0-9]{0,5})$`)
	spaceLine   = regexp.MustCompile(`^space ([1-7]):([0-9,]+)$`)
)

// wordOutcome tells by the calls that the document names what a line of one word does.
func wordOutcome(d impl.Desk, word string) outcome {
	on := onDesk{d}
	switch word {
	case "behind":
		return on.space(impl.BehindSet(d.Space, d.Known))
	case "within":
		return on.space(impl.RestrictTo(d.Space, d.Known))
	case "show":
		return on.text(impl.SpaceText(d.Space))
	case "known":
		return on.number(d.Known, true)
	case "next":
		return on.number(impl.OuterFringe(d.Space, d.Known))
	case "last":
		return on.number(impl.InnerFringe(d.Space, d.Known))
	case "words":
		return on.number(impl.CountWords(d.Space))
	case "rest":
		return on.number(impl.CountFrom(d.Space, d.Known))
	case "paths":
		return on.list(impl.PathsOf(d.Space))
	case "ask":
		return on.list(impl.AskRun(d.Space, d.Known))
	}
	return on.number(impl.LeastWorst(d.Space, 0, 0))
}

// numberOutcome tells by the calls that the document names, or by the fringes, what a line with a number does.
func numberOutcome(d impl.Desk, word string, number int) outcome {
	on := onDesk{d}
	inner, outer := fringesIn(d.Space, d.Known)
	switch word {
	case "line":
		return on.space(impl.LineSpace(number))
	case "free":
		return on.space(impl.FreeSpace(number))
	case "learn":
		return on.known(d.Known|1<<number, slices.Contains(pointsOf(outer), number))
	case "forget":
		return on.known(d.Known&^(1<<number), slices.Contains(pointsOf(inner), number))
	case "know":
		return on.known(impl.GreatestWithin(d.Space, number))
	case "hull":
		return on.number(impl.HullOf(d.Space, number))
	}
	found, ok := impl.WordWith(d.Space, number)
	if !ok {
		return on.no()
	}
	return on.text(impl.WordText(found))
}

// spaceIn returns the space with a text of a number of items and of sets.
func spaceIn(items string, sets string) (impl.Space, bool) {
	n, _ := strconv.Atoi(items)
	s := impl.Space{Items: n}
	for _, text := range strings.Split(sets, ",") {
		set, err := strconv.Atoi(text)
		if err != nil {
			return impl.Space{}, false
		}
		s.Sets = append(s.Sets, set)
	}
	return s, isDefined(s) && textOf(s) == items+":"+sets
}

// outcomeOf returns what a line should do on a desk.
func outcomeOf(d impl.Desk, line string) outcome {
	if wordLine.MatchString(line) {
		return wordOutcome(d, line)
	}
	if parts := numberLine.FindStringSubmatch(line); parts != nil {
		number, _ := strconv.Atoi(parts[2])
		return numberOutcome(d, parts[1], number)
	}
	if parts := spaceLine.FindStringSubmatch(line); parts != nil {
		if s, ok := spaceIn(parts[1], parts[2]); ok {
			return outcome{impl.Desk{Space: s}, textOf(s)}
		}
	}
	return outcome{d, "what"}
}

func wantOutcome(t *testing.T, d impl.Desk, line string, want outcome) {
	t.Helper()
	behind, reply, ok := impl.DeskLine(d, line)
	if !ok || reply != want.reply || !sameDesk(behind, want.desk) {
		t.Errorf("DeskLine(%s, %.80q): %s %q %v, want %s %q", deskText(d), line, deskText(behind), reply, ok, deskText(want.desk), want.reply)
	}
}

func wantLine(t *testing.T, d impl.Desk, line string) {
	t.Helper()
	wantOutcome(t, d, line, outcomeOf(d, line))
}

// wantStay wants a line to leave the desk as it is.
func wantStay(t *testing.T, d impl.Desk, line string, reply string) {
	t.Helper()
	wantOutcome(t, d, line, outcome{d, reply})
}

func fewDesks() []impl.Desk {
	return []impl.Desk{impl.FirstDesk(), {Space: freeOf(1)}, {Space: freeOf(1), Known: 1}, {Space: turning, Known: 3}, {Space: lineOf(7), Known: 127}}
}

// deskSamples returns desks with all Sets of spaces of at most 4 items, and with some Sets of spaces of more.
func deskSamples() []impl.Desk {
	c := chance(118)
	var all []impl.Desk
	for i, s := range askSamples() {
		known := s.Sets
		if s.Items > 4 {
			known = []int{0, fullOf(s.Items), s.Sets[c.below(len(s.Sets))], s.Sets[c.below(len(s.Sets))]}
		}
		if s.Items == 4 && i%10 > 0 {
			continue
		}
		for _, set := range known {
			all = append(all, impl.Desk{Space: s, Known: set})
		}
	}
	return all
}

// numbersFor returns items, sets and ranks of a space, and what is none.
func numbersFor(c *chance, s impl.Space) []int {
	count := countOf(s)
	full := fullOf(s.Items)
	numbers := []int{0, 1, 2, 3, 4, 5, 6, 7, 8, 9, 63, 64, 65, full, full + 1, full + 2, count - 1, count, 999999}
	for range 4 {
		numbers = append(numbers, c.below(1<<s.Items), c.below(count))
	}
	return numbers
}

func TestExampleOfChapter10(t *testing.T) {
	d := impl.FirstDesk()
	lines := []string{"next", "learn 2", "learn 0", "next", "words", "paths", "behind", "fly"}
	replies := []string{"3", "no", "1", "6", "4", "1,2,5,6", "2:0,1,2,3", "what"}
	known := []int{0, 0, 1, 1, 1, 1, 0, 0}
	for i, line := range lines {
		want := impl.Desk{Space: d.Space, Known: known[i]}
		if line == "behind" {
			want.Space = freeOf(2)
		}
		wantOutcome(t, d, line, outcome{want, replies[i]})
		d = want
	}
	script := strings.Join(lines, "\n") + "\n"
	wantReplies(t, script, replies)
	wantDeskAfter(t, script, impl.Desk{Space: freeOf(2)})
	failed, ok := impl.FailedLines(script)
	wantWord(t, "FailedLines of the example", failed, ok, []int{2, 8}, true)
}

func TestFirstDesk(t *testing.T) {
	d := impl.FirstDesk()
	if textOf(d.Space) != "3:0,1,2,3,5,6,7" || d.Known != 0 || !impl.IsDesk(d) {
		t.Errorf("FirstDesk: %s", deskText(d))
	}
}

func TestIsDeskByDefinition(t *testing.T) {
	for _, s := range askSamples() {
		in := marksOf(s.Sets)
		for known := -2; known <= fullOf(s.Items)+2; known++ {
			if d := (impl.Desk{Space: s, Known: known}); impl.IsDesk(d) != in[known] {
				t.Errorf("IsDesk(%s): not %v", deskText(d), in[known])
			}
		}
		for _, known := range append(farNumbers(), 2*fullOf(s.Items)+1) {
			if d := (impl.Desk{Space: s, Known: known}); impl.IsDesk(d) {
				t.Errorf("IsDesk(%s)", deskText(d))
			}
		}
	}
	for _, s := range invalidSpaces() {
		for _, known := range append(farNumbers(), append(s.Sets[:len(s.Sets):len(s.Sets)], 0, 1, 2, 3, 7, 15, 127)...) {
			if d := (impl.Desk{Space: s, Known: known}); impl.IsDesk(d) {
				t.Errorf("IsDesk(%s)", deskText(d))
			}
		}
	}
}

// Promise 10: each line does what the call does that it names.
func TestLinesDoWhatTheirCallsDo(t *testing.T) {
	c := chance(119)
	replies := map[string]bool{}
	for _, d := range deskSamples() {
		numbers := numbersFor(&c, d.Space)
		if d.Space.Items <= 3 {
			for number := range 10 {
				numbers = append(numbers, number)
			}
		}
		for _, word := range wordLines {
			wantLine(t, d, word)
		}
		for _, word := range numberLines {
			for _, number := range numbers {
				line := fmt.Sprint(word, " ", number)
				wantLine(t, d, line)
				replies[fmt.Sprint(word, outcomeOf(d, line).reply == "no")] = true
			}
		}
	}
	if len(replies) != 2*len(numberLines) {
		t.Errorf("of the lines with numbers some always, or never, have the reply no: %v", replies)
	}
}

// The same once more without the calls: all lines on one desk, and their replies.
func TestLinesOfOneDesk(t *testing.T) {
	space := impl.Space{Items: 3, Sets: []int{0, 1, 4, 5, 7}}
	d := impl.Desk{Space: space, Known: 5}
	for line, want := range map[string]outcome{
		"space 1:0,1":       {impl.Desk{Space: freeOf(1)}, "1:0,1"},
		"space 3:0,1,4,5,7": {impl.Desk{Space: space}, "3:0,1,4,5,7"},
		"line 3":            {impl.Desk{Space: lineOf(3)}, "3:0,1,3,4,5,6,7"},
		"free 2":            {impl.Desk{Space: freeOf(2)}, "2:0,1,2,3"},
		"free 3":            {impl.Desk{Space: freeOf(3)}, "3:0,1,2,3,4,5,6,7"},
		"behind":            {impl.Desk{Space: freeOf(1)}, "1:0,1"},
		"within":            {impl.Desk{Space: freeOf(2)}, "2:0,1,2,3"},
		"learn 1":           {impl.Desk{Space: space, Known: 7}, "7"},
		"forget 0":          {impl.Desk{Space: space, Known: 4}, "4"},
		"forget 2":          {impl.Desk{Space: space, Known: 1}, "1"},
		"know 0":            {impl.Desk{Space: space}, "0"},
		"know 3":            {impl.Desk{Space: space, Known: 1}, "1"},
		"know 6":            {impl.Desk{Space: space, Known: 4}, "4"},
		"know 7":            {impl.Desk{Space: space, Known: 7}, "7"},
		"show":              {d, "3:0,1,4,5,7"},
		"known":             {d, "5"},
		"next":              {d, "2"},
		"last":              {d, "5"},
		"hull 0":            {d, "0"},
		"hull 1":            {d, "3"},
		"hull 5":            {d, "7"},
		"words":             {d, "2"},
		"word 0":            {d, "021"},
		"word 1":            {d, "201"},
		"rest":              {d, "1"},
		"paths":             {d, "1,4,7"},
		"ask":               {d, "0,1,2"},
		"worst":             {d, "3"},
		"learn 0":           {d, "no"},
		"learn 3":           {d, "no"},
		"forget 1":          {d, "no"},
		"know 8":            {d, "no"},
		"hull 8":            {d, "no"},
		"word 2":            {d, "no"},
		"line 0":            {d, "no"},
		"free 8":            {d, "no"},
		"":                  {d, "what"},
		"fly":               {d, "what"},
		"know -1":           {d, "what"},
		"space 3:0,7":       {d, "what"},
	} {
		wantOutcome(t, d, line, want)
	}
}

func TestLearnAndForgetItemsOfTheFringes(t *testing.T) {
	for _, d := range deskSamples() {
		inner, outer := fringesIn(d.Space, d.Known)
		for _, item := range []int{0, 1, 2, 3, 4, 5, 6, 7, 8, 31, 32, 62, 63, 64, 65, 128, 999999} {
			learn, forget := fmt.Sprint("learn ", item), fmt.Sprint("forget ", item)
			if item < 7 && outer>>item&1 == 1 {
				known := d.Known + 1<<item
				wantOutcome(t, d, learn, outcome{impl.Desk{Space: d.Space, Known: known}, fmt.Sprint(known)})
			} else {
				wantStay(t, d, learn, "no")
			}
			if item < 7 && inner>>item&1 == 1 {
				known := d.Known - 1<<item
				wantOutcome(t, d, forget, outcome{impl.Desk{Space: d.Space, Known: known}, fmt.Sprint(known)})
			} else {
				wantStay(t, d, forget, "no")
			}
		}
	}
}

// What calls refuse is a number all the same.
func TestNumbersThatCallsRefuse(t *testing.T) {
	for _, d := range deskSamples() {
		full := fullOf(d.Space.Items)
		for _, number := range []int{full + 1, full + 2, 2*full + 1, 128, 255, 4095, 99999, 100000, 999998, 999999} {
			for _, word := range []string{"know", "hull", "learn", "forget"} {
				wantStay(t, d, fmt.Sprint(word, " ", number), "no")
			}
		}
		for _, number := range []int{0, 8, 9, 10, 63, 64, 100, 999999} {
			wantStay(t, d, fmt.Sprint("line ", number), "no")
			wantStay(t, d, fmt.Sprint("free ", number), "no")
		}
		for _, number := range []int{countOf(d.Space), countOf(d.Space) + 1, 5040, 999999} {
			wantStay(t, d, fmt.Sprint("word ", number), "no")
		}
	}
}

func noNumbers() []string {
	return []string{"", "00", "01", "007", "0000000", "+0", "+1", "-0", "-1", "--1", "-", "1000000", "1000001", "9999999", "0999999",
		"4294967296", "9223372036854775807", "9223372036854775808", "18446744073709551615", "18446744073709551616", "18446744073709551617",
		"-9223372036854775808", strings.Repeat("1", 1000), strings.Repeat("0", 100), "1_0", "0x1", "0b1", "1e1", "1.", "1.0", ".1", "a", "O", "l",
		"1a", "a1", "1,", "1,2", "1:", "3:0,1,3,7", "\t1", "1\t", "1\r", "1\x00", "\xff", "1\xff", "\u0661", "\uff11", "learn", "inf", "nil"}
}

func TestWordsThatAreNoNumbers(t *testing.T) {
	for _, d := range fewDesks() {
		for _, word := range numberLines {
			for _, text := range noNumbers() {
				wantStay(t, d, word+" "+text, "what")
			}
			wantStay(t, d, word, "what")
		}
	}
}

func TestWordsThatAreNoSpaceTexts(t *testing.T) {
	texts := []string{"", "3", "3:", ":", ":0,1", "1:0", "1:0,1,", "1:,0,1", "1:0,,1", "1:0,1:", "1::0,1", ":1:0,1", "1;0,1", "1:0;1", "01:0,1",
		"1:00,1", "1:0,01", "+1:0,1", "1:+0,1", "1:0,+1", "-1:0,1", "1:-0,1", "1:0,1,1", "1:1,0", "1:0,2", "2:0,3", "2:1,3", "2:0,1,2", "3:0,1,2,7",
		"3:0,1,4,7", "0:", "0:0", "8:" + strings.TrimPrefix(textOf(freeOf(7)), "7:"), "1:0,1\r", "1:0,1\t", "\t1:0,1", "1:0,1\x00", "a:0,1", "1:0,a",
		"1:0,9223372036854775808", "1:0,18446744073709551617", "18446744073709551617:0,1", "1:0,1" + strings.Repeat("1", 1000), "SHOW", "show"}
	for _, s := range invalidSpaces() {
		texts = append(texts, textOf(s))
	}
	for _, d := range fewDesks() {
		for _, text := range texts {
			if line := "space " + text; len(line) <= impl.MaxScript {
				wantStay(t, d, line, "what")
			}
		}
		wantStay(t, d, "space", "what")
	}
}

func TestEachSpaceCanBePut(t *testing.T) {
	for i, s := range askSamples() {
		d := impl.Desk{Space: turning, Known: turning.Sets[i%len(turning.Sets)]}
		wantOutcome(t, d, "space "+textOf(s), outcome{impl.Desk{Space: s}, textOf(s)})
	}
	for n := 1; n <= 7; n++ {
		d := impl.Desk{Space: turning, Known: 15}
		wantOutcome(t, d, fmt.Sprint("line ", n), outcome{impl.Desk{Space: lineOf(n)}, textOf(lineOf(n))})
		wantOutcome(t, d, fmt.Sprint("free ", n), outcome{impl.Desk{Space: freeOf(n)}, textOf(freeOf(n))})
	}
}

// tableDesk is a desk on which each of tableLines has an effect or a reply of its own.
var tableDesk = impl.Desk{Space: impl.Space{Items: 3, Sets: []int{0, 1, 2, 3, 5, 6, 7}}, Known: 3}

// tableLines returns a line of each kind.
func tableLines() []string {
	return append([]string{"space 2:0,1,3", "line 2", "free 1", "learn 2", "forget 1", "know 2", "hull 4", "word 3"}, wordLines...)
}

// Single blanks are between words, and nowhere else; words are as the table has them.
func TestBlanksAndOtherWords(t *testing.T) {
	d := tableDesk
	for _, line := range tableLines() {
		if want := outcomeOf(d, line); want.reply == "no" || want.reply == "what" {
			t.Errorf("the line %q is none to test with: %v", line, want)
		}
		wantLine(t, d, line)
		first := line[:1]
		others := []string{" " + line, line + " ", " " + line + " ", "  " + line, line + "  ", line + " 0", line + " " + line, line + " show",
			"0 " + line, strings.ReplaceAll(line, " ", "  "), strings.ReplaceAll(line, " ", ""), strings.ReplaceAll(line, " ", "\t"),
			strings.ToUpper(line), strings.ToUpper(first) + line[1:], line + "\r", line + "\t", "\t" + line, line + "\x00", "\x00" + line,
			line + "s", first + line, line[1:], line[:len(line)-1] + "?", line + ";", line + "\u00a0", line + ",0", "-" + line}
		for _, other := range others {
			if other != line {
				wantStay(t, d, other, "what")
			}
		}
		for place := range len(line) {
			cut := line[:place]
			wantLine(t, d, cut)
			wantLine(t, d, cut+" "+line[place:])
		}
	}
	for _, line := range []string{"", " ", "  ", "\t", "\r", "\x00", "\xff\xfe", "-", ":", "0", "3:0,1,3,7", "what", "no", "spaces", "learn learn",
		"say 0"} {
		for _, d := range fewDesks() {
			wantStay(t, d, line, "what")
		}
	}
}

// There is no empty list in a reply: each space has a path, and a question.
func TestListsInReplies(t *testing.T) {
	one := impl.Desk{Space: freeOf(1)}
	wantStay(t, one, "paths", "1")
	wantStay(t, one, "ask", "0")
	wantStay(t, one, "word 0", "0")
	wantStay(t, impl.Desk{Space: freeOf(2), Known: 2}, "paths", "1,2")
	wantStay(t, impl.Desk{Space: freeOf(2), Known: 2}, "ask", "0,1")
	wantStay(t, impl.Desk{Space: freeOf(2), Known: 2}, "word 1", "10")
	wantStay(t, impl.Desk{Space: freeOf(7), Known: 100}, "paths", "1,2,4,8,16,32,64")
	wantStay(t, impl.Desk{Space: freeOf(7), Known: 100}, "ask", "0,1,2,3,4,5,6")
	wantStay(t, impl.Desk{Space: freeOf(7), Known: 100}, "word 5039", "6543210")
	for _, s := range askSamples() {
		for _, line := range []string{"paths", "ask"} {
			_, reply, ok := impl.DeskLine(impl.Desk{Space: s}, line)
			if !ok || !regexp.MustCompile(`^[0-9]+(,[0-9]+)*$`).MatchString(reply) {
				t.Errorf("the reply to %q on %s: %q %v", line, textOf(s), reply, ok)
			}
		}
	}
}

func TestNextAndLastWithNoAndWithAllItems(t *testing.T) {
	for _, s := range askSamples() {
		empty, all := impl.Desk{Space: s}, impl.Desk{Space: s, Known: fullOf(s.Items)}
		_, next := fringesIn(s, 0)
		last, _ := fringesIn(s, fullOf(s.Items))
		wantStay(t, empty, "last", "0")
		wantStay(t, empty, "next", fmt.Sprint(next))
		wantStay(t, all, "next", "0")
		wantStay(t, all, "last", fmt.Sprint(last))
		wantStay(t, empty, "known", "0")
		wantStay(t, all, "known", fmt.Sprint(fullOf(s.Items)))
		wantStay(t, all, "rest", "1")
		wantStay(t, empty, "rest", fmt.Sprint(countOf(s)))
		// What is behind all items, or within none, is no space.
		wantStay(t, all, "behind", "no")
		wantStay(t, empty, "within", "no")
		wantOutcome(t, empty, "behind", outcome{empty, textOf(s)})
		wantOutcome(t, all, "within", outcome{empty, textOf(s)})
	}
}

func TestWordsByTheirRanks(t *testing.T) {
	for i, s := range askSamples() {
		if s.Items > 4 && i%4 > 0 {
			continue
		}
		words := fullWordsOf(s)
		d := impl.Desk{Space: s, Known: s.Sets[i%len(s.Sets)]}
		for _, rank := range []int{0, len(words) / 2, len(words) - 1} {
			text := ""
			for _, item := range words[rank] {
				text += fmt.Sprint(item)
			}
			wantStay(t, d, fmt.Sprint("word ", rank), text)
		}
		wantStay(t, d, fmt.Sprint("word ", len(words)), "no")
		wantStay(t, d, fmt.Sprint("word ", len(words)+1), "no")
		wantStay(t, d, "words", fmt.Sprint(len(words)))
	}
}

// The lines after behind and within ask for the new space, and nothing is known of it.
func TestWordsBehindAndWithin(t *testing.T) {
	for _, d := range deskSamples() {
		for _, line := range []string{"behind", "within"} {
			behind, reply, ok := impl.DeskLine(d, line)
			if !ok || reply == "no" {
				continue
			}
			kept := d.Known
			if line == "behind" {
				kept = fullOf(d.Space.Items) - d.Known
			}
			in := map[int]bool{}
			for _, set := range d.Space.Sets {
				if line == "within" || isPart(d.Known, set) {
					in[anew(set, kept)] = true
				}
			}
			want := impl.Space{Items: sizeOf(kept), Sets: sortedKeys(in)}
			if !sameDesk(behind, impl.Desk{Space: want}) || reply != textOf(want) {
				t.Errorf("%s on %s: %s %q, want %s", line, deskText(d), deskText(behind), reply, textOf(want))
			}
			last := countOf(want) - 1
			for _, next := range []string{"word 0", fmt.Sprint("word ", last), fmt.Sprint("word ", last+1), "words", "next", "known", "paths"} {
				wantLine(t, behind, next)
			}
		}
	}
	// First two items are learnt, then one, then none is left.
	d := impl.Desk{Space: turning, Known: 1}
	for _, step := range [][2]string{{"behind", "3:0,1,3,4,5,7"}, {"word 0", "012"}, {"word 1", "021"}, {"word 2", "201"}, {"word 3", "no"},
		{"learn 2", "4"}, {"learn 0", "5"}, {"within", "2:0,1,2,3"}, {"word 1", "10"}, {"word 2", "no"}, {"learn 1", "2"}, {"behind", "1:0,1"},
		{"word 0", "0"}, {"learn 0", "1"}, {"behind", "no"}, {"within", "1:0,1"}, {"within", "no"}, {"behind", "1:0,1"}} {
		behind, reply, ok := impl.DeskLine(d, step[0])
		if !ok || reply != step[1] {
			t.Errorf("%s on %s: %q %v, want %q", step[0], deskText(d), reply, ok, step[1])
		}
		d = behind
	}
}

func TestQuestionsOnFewItems(t *testing.T) {
	for n := 1; n <= 3; n++ {
		for _, s := range spacesOf(n) {
			a := newAsker(s)
			for _, set := range s.Sets {
				d := impl.Desk{Space: s, Known: set}
				want := onDesk{d}.list(a.askRun(set), true)
				wantOutcome(t, d, "ask", want)
				wantStay(t, d, "worst", fmt.Sprint(a.leastWorst(0, 0)))
			}
		}
	}
	// The call fails for what is no desk, and so does the line.
	for _, d := range []impl.Desk{{}, {Space: freeOf(1), Known: 2}, {Space: turning, Known: 4}} {
		for _, line := range []string{"ask", "worst"} {
			if behind, reply, ok := impl.DeskLine(d, line); ok || reply != "" || !sameDesk(behind, impl.Desk{}) {
				t.Errorf("%s on %s: %s %q %v", line, deskText(d), deskText(behind), reply, ok)
			}
		}
	}
}

func TestLineOfMaxScriptBytes(t *testing.T) {
	d := impl.Desk{Space: turning, Known: 3}
	for _, start := range []string{"", "show", "show ", "learn 0", "learn ", "space 1:0,1", "\xff"} {
		for _, more := range []string{"x", " ", "0", "\x00", ","} {
			line := start + strings.Repeat(more, impl.MaxScript-len(start))
			wantStay(t, d, line, "what")
			wantStay(t, d, line[:impl.MaxScript-1], "what")
			if behind, reply, ok := impl.DeskLine(d, line+more); ok || reply != "" || !sameDesk(behind, impl.Desk{}) {
				t.Errorf("a line of %d bytes: %s %q %v", len(line)+1, deskText(behind), reply, ok)
			}
		}
	}
}

// madeLine returns a line that is made of words by chance.
func (c *chance) madeLine() string {
	switch c.below(8) {
	case 0:
		return "space " + c.anyText()
	case 1:
		return "space " + textOf(madeSpace(c, 1+c.below(7), 1+c.below(3)))
	case 2, 3:
		return wordLines[c.below(len(wordLines))]
	case 4:
		texts := noNumbers()
		words := slices.Concat(wordLines, numberLines, []string{"space", "0", "", texts[c.below(len(texts))]})
		line := words[c.below(len(words))]
		for range c.below(3) {
			line += " " + words[c.below(len(words))]
		}
		return line
	}
	return fmt.Sprint(numberLines[c.below(len(numberLines))], " ", []int{c.below(8), c.below(130), c.below(1000001)}[min(c.below(12)/5, 2)])
}

func TestMadeLines(t *testing.T) {
	c := chance(120)
	desks := deskSamples()
	for range 20000 {
		wantLine(t, desks[c.below(len(desks))], c.madeLine())
	}
}

func TestNumbersAtTheLimit(t *testing.T) {
	d := impl.FirstDesk()
	for _, word := range numberLines {
		wantStay(t, d, word+" 999999", "no")
		wantStay(t, d, word+" 1000000", "what")
		wantStay(t, d, fmt.Sprint(word, " ", math.MaxInt), "what")
	}
}
