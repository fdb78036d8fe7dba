package tests

import (
	"fmt"
	"maps"
	"math"
	"slices"
	"testing"

	"loop.example/g01137/impl"
)

// manyRuns is the greatest number of full runs that the tests look at one by one.
const manyRuns = 300

var (
	// longest has full runs of 43 moves. No chips have full runs of 44..60 moves: all lines and all numbers of chips were tried.
	longest = impl.Chips{Lines: linesOf(5, []int{0, 3, 1}, []int{0, 4, 1}, []int{1, 2, 3}, []int{1, 3, 2}, []int{2, 3, 2}), At: []int{0, 0, 0, 0, 13}}
	// fewEnough and tooMany are next to 1000000000 full runs: no chips have more up to that, or fewer beyond it.
	fewEnough = impl.Chips{Lines: longest.Lines, At: []int{4, 0, 0, 1, 8}}
	tooMany   = impl.Chips{Lines: longest.Lines, At: []int{8, 0, 0, 0, 5}}
)

// valueOf makes one value of a number for each place.
func valueOf(numbers []int) [5]int {
	var value [5]int
	copy(value[:], numbers)
	return value
}

// isEndlessIn looks at all chips that some run of 0, 1, .., 60 moves leaves: they are endless if each of them can go on.
func isEndlessIn(c impl.Chips) bool {
	layer := map[[5]int]impl.Chips{valueOf(c.At): c}
	for range 61 {
		next := map[[5]int]impl.Chips{}
		for _, there := range layer {
			places := movableIn(there)
			if len(places) == 0 {
				return false
			}
			for _, place := range places {
				behind := movedIn(there, place)
				next[valueOf(behind.At)] = behind
			}
		}
		layer = next
	}
	return true
}

// reached is what lies behind runs that make as many moves at each place, and how many runs these are: at most 1 << 60.
type reached struct {
	chips impl.Chips
	runs  int
}

// allReached returns what all runs of chips that are not endless reach, by the numbers of their moves at each place.
func allReached(c impl.Chips) map[[5]int]reached {
	all := map[[5]int]reached{}
	layer := map[[5]int]reached{{}: {c, 1}}
	for len(layer) > 0 {
		maps.Copy(all, layer)
		next := map[[5]int]reached{}
		for counts, there := range layer {
			for _, place := range movableIn(there.chips) {
				more := counts
				more[place]++
				next[more] = reached{movedIn(there.chips, place), min(next[more].runs+there.runs, 1<<60)}
			}
		}
		layer = next
	}
	return all
}

// fullOnes returns those of all that is reached behind which no place can be moved.
func fullOnes(all map[[5]int]reached) map[[5]int]reached {
	full := maps.Clone(all)
	maps.DeleteFunc(full, func(_ [5]int, there reached) bool { return len(movableIn(there.chips)) > 0 })
	return full
}

func countRunsIn(c impl.Chips) int {
	count := 0
	for _, there := range fullOnes(allReached(c)) {
		count += there.runs
	}
	return count
}

// fullRunsIn returns all full runs of chips that are not endless, in order.
func fullRunsIn(c impl.Chips) [][]int {
	places := movableIn(c)
	if len(places) == 0 {
		return [][]int{nil}
	}
	var all [][]int
	for _, place := range places {
		for _, rest := range fullRunsIn(movedIn(c, place)) {
			all = append(all, append([]int{place}, rest...))
		}
	}
	return all
}

// runByIn returns the full run that choices tell, as the document defines it; it fails if it has more than 60 moves.
func runByIn(c impl.Chips, choices []int) ([]int, bool) {
	var run []int
	for step := 0; ; step++ {
		places := movableIn(c)
		if len(places) == 0 {
			return run, true
		}
		if step == 60 {
			return nil, false
		}
		place := places[0]
		if step < len(choices) {
			place = places[choices[step]%len(places)]
		}
		run = append(run, place)
		c = movedIn(c, place)
	}
}

// movesOf returns how often each of n places is moved in a run.
func movesOf(n int, run []int) []int {
	counts := make([]int, n)
	for _, place := range run {
		counts[place]++
	}
	return counts
}

// endlessChips are chips that never end: some chosen ones, of many chips and in parts too, and all small ones.
func endlessChips() []impl.Chips {
	all := []impl.Chips{
		{Lines: wayLines(3, 1), At: []int{0, 2, 0}},
		{Lines: wayLines(2, 1), At: []int{0, 1}},
		{Lines: wayLines(2, 3), At: []int{3, 0}},
		{Lines: wayLines(2, 3), At: []int{2, 3}},
		{Lines: linesOf(5, []int{3, 4, 1}, []int{0, 1, 3}), At: []int{2, 0, 20, 0, 1}},
		{Lines: linesOf(5, []int{0, 1, 3}, []int{1, 2, 3}, []int{3, 4, 1}), At: []int{5, 0, 0, 1, 1}},
		{Lines: allLines(3, 1), At: []int{2, 1, 0}},
		{Lines: allLines(5, 1), At: []int{30, 0, 0, 0, 0}},
		{Lines: allLines(5, 1), At: []int{4, 4, 4, 4, 0}},
		{Lines: allLines(4, 2), At: []int{5, 6, 5, 5}},
		{Lines: wayLines(5, 3), At: []int{0, 0, 30, 0, 0}},
		{Lines: wayLines(5, 1), At: []int{6, 6, 6, 6, 6}},
	}
	for _, c := range smallChips() {
		if isEndlessIn(c) {
			all = append(all, c)
		}
	}
	return all
}

// slowChips are chips of which one or two at a time go from some places, with few lines, to others, with many.
func slowChips() []impl.Chips {
	var all []impl.Chips
	for _, lines := range [][][]int{linesOf(4, []int{0, 2, 1}, []int{1, 2, 3}, []int{1, 3, 1}), linesOf(4, []int{0, 3, 1}, []int{1, 2, 3}, []int{1, 3, 2}),
		linesOf(4, []int{0, 1, 1}, []int{0, 2, 2}, []int{2, 3, 3}), linesOf(5, []int{0, 4, 1}, []int{1, 4, 1}, []int{2, 4, 1}, []int{3, 4, 3})} {
		for _, at := range heaps(len(lines), 7) {
			all = append(all, impl.Chips{Lines: lines, At: at})
		}
	}
	return all
}

// endingChips are chips that are not endless.
func endingChips() []impl.Chips {
	all := slices.DeleteFunc(smallChips(), isEndlessIn)
	for _, c := range append(greatChips(), slowChips()...) {
		if _, ok := runByIn(c, nil); ok {
			all = append(all, c)
		}
	}
	return append(all, longest, impl.Chips{Lines: longest.Lines, At: []int{2, 0, 0, 0, 9}}, impl.Chips{Lines: wayLines(5, 2), At: []int{0, 0, 7, 0, 0}})
}

// listedChips are those whose full runs can be looked at one by one.
func listedChips() []impl.Chips {
	return slices.DeleteFunc(endingChips(), func(c impl.Chips) bool {
		run, _ := runByIn(c, nil)
		return len(run) > 16 || countRunsIn(c) > manyRuns
	})
}

func TestNeverEndsByDefinition(t *testing.T) {
	for _, c := range smallChips() {
		is, ok := impl.NeverEnds(c)
		wantAnswer(t, chipsText("NeverEnds", c), is, ok, isEndlessIn(c))
	}
	for _, c := range endingChips() {
		is, ok := impl.NeverEnds(c)
		wantAnswer(t, chipsText("NeverEnds", c), is, ok, false)
	}
	for _, c := range slowChips() {
		is, ok := impl.NeverEnds(c)
		wantAnswer(t, chipsText("NeverEnds", c), is, ok, isEndlessIn(c))
	}
}

// If all places are joined, fewer chips than lines end at some time, and more than twice the lines less the places never do.
func TestNumbersOfChipsThatEndOrNot(t *testing.T) {
	c := chance(95)
	for range 400 {
		chips := madeChips(&c, 2+c.below(4), 3, 30)
		n, lines, count := len(chips.At), sumOf(degreesIn(chips))/2, sumOf(chips.At)
		isJoined := !slices.Contains(chips.Lines[0][1:], 0)
		is, ok := impl.NeverEnds(chips)
		if isJoined && count < lines {
			wantAnswer(t, chipsText("NeverEnds", chips), is, ok, false)
		}
		if isJoined && count > 2*lines-n {
			wantAnswer(t, chipsText("NeverEnds", chips), is, ok, true)
		}
	}
}

func TestEndlessChipsFail(t *testing.T) {
	for _, c := range endlessChips() {
		is, ok := impl.NeverEnds(c)
		wantAnswer(t, chipsText("NeverEnds", c), is, ok, true)
		a := arguments{rows: c.Lines, list: c.At}
		for _, second := range [][]int{nil, {0}, make([]int, len(c.At)), make([]int, 60)} {
			a.second = second
			wantFailures(t, chapter8, ofEnding, a)
		}
	}
}

// Promise 8: full runs have the same moves in any order, and end with the same chips.
func TestFullRunsHaveTheSameMoves(t *testing.T) {
	for _, c := range endingChips() {
		counts, ok := impl.MoveCounts(c)
		if !ok || len(counts) != len(c.At) {
			t.Errorf("%s: %v %v", chipsText("MoveCounts", c), counts, ok)
		}
		full := fullOnes(allReached(c))
		end, is := full[valueOf(counts)]
		if len(full) != 1 || !is {
			t.Errorf("%s: %v, want those of %v", chipsText("MoveCounts", c), counts, full)
		}
		final, ok := impl.FinalChips(c)
		wantChips(t, chipsText("FinalChips", c), final, ok, end.chips, true)
	}
}

func TestEachFullRunHasTheMoves(t *testing.T) {
	for _, c := range listedChips() {
		counts, ok := impl.MoveCounts(c)
		final, fine := impl.FinalChips(c)
		for _, run := range fullRunsIn(c) {
			wantWord(t, chipsText("MoveCounts", c), counts, ok, movesOf(len(c.At), run), true)
			end, _ := behindIn(c, run)
			wantChips(t, chipsText("FinalChips", c), final, fine, end, true)
			behind, ok := impl.RunChips(c, run)
			wantChips(t, chipsText("RunChips", c), behind, ok, end, true)
		}
	}
}

func TestLongFullRuns(t *testing.T) {
	c := chance(96)
	for _, chips := range endingChips() {
		first, ok := impl.FirstRun(chips)
		counts, fine := impl.MoveCounts(chips)
		final, there := impl.FinalChips(chips)
		for range 3 {
			run := c.runIn(chips, 61)
			wantWord(t, chipsText("MoveCounts", chips), counts, fine, movesOf(len(chips.At), run), true)
			wantWord(t, chipsText("FirstRun", chips), movesOf(len(chips.At), first), ok, counts, true)
			end, _ := behindIn(chips, run)
			wantChips(t, chipsText("FinalChips", chips), final, there, end, true)
		}
	}
	run, ok := impl.FirstRun(longest)
	wantCount(t, "moves of the longest full run", len(run), ok, 43)
}

func TestFullRunsOfNoMoves(t *testing.T) {
	for n := 1; n <= 5; n++ {
		for _, c := range []impl.Chips{{Lines: linesOf(n), At: make([]int, n)}, {Lines: linesOf(n), At: slices.Repeat([]int{6}, n)},
			{Lines: allLines(n, 3), At: make([]int, n)}, {Lines: wayLines(n, 3), At: slices.Repeat([]int{2}, n)}} {
			run, ok := impl.FirstRun(c)
			wantWord(t, "FirstRun", run, ok, nil, true)
			run, ok = impl.RunBy(c, []int{5, 3})
			wantWord(t, "RunBy", run, ok, nil, true)
			counts, ok := impl.MoveCounts(c)
			wantWord(t, "MoveCounts", counts, ok, make([]int, n), true)
			final, ok := impl.FinalChips(c)
			wantChips(t, "FinalChips", final, ok, c, true)
			count, ok := impl.CountRuns(c)
			wantCount(t, "CountRuns", count, ok, 1)
			is, ok := impl.NeverEnds(c)
			wantAnswer(t, "NeverEnds", is, ok, false)
		}
	}
}

func TestFirstRunByDefinition(t *testing.T) {
	for _, c := range endingChips() {
		want, _ := runByIn(c, nil)
		run, ok := impl.FirstRun(c)
		wantWord(t, chipsText("FirstRun", c), run, ok, want, true)
	}
	for _, c := range listedChips() {
		run, ok := impl.FirstRun(c)
		wantWord(t, chipsText("FirstRun", c), run, ok, fullRunsIn(c)[0], true)
	}
}

// choicesFor returns choices: none, as many as moves, fewer and more, as many as there may be, small ones and great ones.
func (c *chance) choicesFor(moves int) [][]int {
	all := [][]int{nil, {}, make([]int, 60), {math.MaxInt, math.MaxInt - 1, math.MaxInt - 2, 1 << 62, 1<<62 + 1}, slices.Repeat([]int{math.MaxInt}, 60)}
	for _, count := range []int{moves, moves - 1, moves / 2, moves + 1, 59, 60} {
		small, great := make([]int, max(count, 0)), make([]int, max(count, 0))
		for i := range small {
			small[i], great[i] = c.below(6), c.below(1<<30)
		}
		all = append(all, small, great)
	}
	return all
}

func TestRunByByDefinition(t *testing.T) {
	c := chance(97)
	for _, chips := range endingChips() {
		first, _ := runByIn(chips, nil)
		for _, choices := range c.choicesFor(len(first)) {
			want, _ := runByIn(chips, choices)
			run, ok := impl.RunBy(chips, choices)
			wantWord(t, chipsText("RunBy", chips)+fmt.Sprint(choices), run, ok, want, true)
		}
	}
}

// Each full run is that of some choices.
func TestChoicesTellEachFullRun(t *testing.T) {
	for _, c := range listedChips() {
		for _, want := range fullRunsIn(c) {
			there := c
			var choices []int
			for _, place := range want {
				choices = append(choices, slices.Index(movableIn(there), place))
				there = movedIn(there, place)
			}
			run, ok := impl.RunBy(c, choices)
			wantWord(t, chipsText("RunBy", c)+fmt.Sprint(choices), run, ok, want, true)
		}
	}
}

func TestChoicesThatAreNoneFail(t *testing.T) {
	for _, c := range listedChips() {
		for _, choices := range [][]int{make([]int, 61), make([]int, 100000), {-1}, {0, -1}, {math.MinInt}, append(make([]int, 59), -1),
			slices.Repeat([]int{-1}, 60), {math.MaxInt, math.MinInt}} {
			run, ok := impl.RunBy(c, choices)
			wantWord(t, chipsText("RunBy", c), run, ok, nil, false)
		}
	}
}

func TestCountRunsByDefinition(t *testing.T) {
	for _, c := range listedChips() {
		count, ok := impl.CountRuns(c)
		wantCount(t, chipsText("CountRuns", c), count, ok, len(fullRunsIn(c)))
	}
	for _, c := range endingChips() {
		want := countRunsIn(c)
		count, ok := impl.CountRuns(c)
		if want > 1000000000 {
			want = 0
		}
		if ok != (want > 0) || count != want {
			t.Errorf("%s: %d %v, want %d", chipsText("CountRuns", c), count, ok, want)
		}
	}
}

// Chips stay in their part of a net: one that never ends makes all endless, and one without moves does not.
func TestRunsInSeveralParts(t *testing.T) {
	c := impl.Chips{Lines: linesOf(5, []int{0, 1, 1}, []int{1, 2, 3}, []int{3, 4, 2}), At: []int{2, 0, 0, 1, 1}}
	run, ok := impl.FirstRun(c)
	wantWord(t, "FirstRun", run, ok, []int{0, 0}, true)
	final, ok := impl.FinalChips(c)
	wantChips(t, "FinalChips", final, ok, impl.Chips{Lines: c.Lines, At: []int{0, 2, 0, 1, 1}}, true)
	c.At = []int{2, 0, 0, 2, 0}
	is, ok := impl.NeverEnds(c)
	wantAnswer(t, "NeverEnds", is, ok, true)
	for _, moves := range [][]int{{0, 0, 3}, {3, 0, 0}, {0, 3, 4, 0, 3}} {
		wantRun(t, c, moves)
		is, ok := impl.IsRun(c, moves)
		wantAnswer(t, "IsRun", is, ok, true)
	}
}

func TestCountRunsAtItsLimit(t *testing.T) {
	for _, want := range []struct {
		chips impl.Chips
		count int
		ok    bool
	}{
		{fewEnough, 927457662, true}, {tooMany, 0, false}, {longest, 0, false},
		{impl.Chips{Lines: longest.Lines, At: []int{0, 0, 0, 0, 12}}, 785462196, true},
		{impl.Chips{Lines: longest.Lines, At: []int{0, 0, 0, 1, 12}}, 0, false},
	} {
		count, ok := impl.CountRuns(want.chips)
		if count != want.count || ok != want.ok {
			t.Errorf("%s: %d %v, want %d %v", chipsText("CountRuns", want.chips), count, ok, want.count, want.ok)
		}
	}
	for c, want := range map[*impl.Chips]int{&fewEnough: 927457662, &tooMany: 1023469040, &longest: 8194898324} {
		if count := countRunsIn(*c); count != want {
			t.Errorf("%s: %d", chipsText("full runs", *c), count)
		}
	}
}
