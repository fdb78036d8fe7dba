package tests

import (
	"fmt"
	"math"
	"slices"
	"testing"

	"loop.example/g01137/impl"
)

// linesOf returns the lines between n places; each of the lists has two places and the number of the lines between them.
func linesOf(n int, lists ...[]int) [][]int {
	lines := make([][]int, n)
	for i := range lines {
		lines[i] = make([]int, n)
	}
	for _, list := range lists {
		lines[list[0]][list[1]], lines[list[1]][list[0]] = list[2], list[2]
	}
	return lines
}

// wayLines returns the lines between n places in a row.
func wayLines(n int, count int) [][]int {
	var lists [][]int
	for i := 1; i < n; i++ {
		lists = append(lists, []int{i - 1, i, count})
	}
	return linesOf(n, lists...)
}

// allLines returns the lines between n places if there are as many between each two of them.
func allLines(n int, count int) [][]int {
	lines := linesOf(n)
	for i := range n {
		for j := range n {
			if i != j {
				lines[i][j] = count
			}
		}
	}
	return lines
}

// netsOfLines returns the lines between n places in all ways, of at most limit between two of them.
func netsOfLines(n int, limit int) [][][]int {
	all := [][][]int{linesOf(n)}
	for _, p := range allPairs(n) {
		var more [][][]int
		for _, lines := range all {
			for count := range limit + 1 {
				copied := copyOf(lines)
				copied[p[0]][p[1]], copied[p[1]][p[0]] = count, count
				more = append(more, copied)
			}
		}
		all = more
	}
	return all
}

// heaps returns all lists of n numbers, at least 0, of at most limit in all.
func heaps(n int, limit int) [][]int {
	if n == 0 {
		return [][]int{nil}
	}
	var all [][]int
	for last := range limit + 1 {
		for _, shorter := range heaps(n-1, limit-last) {
			all = append(all, append(slices.Clone(shorter), last))
		}
	}
	return all
}

func sumOf(numbers []int) int {
	sum := 0
	for _, number := range numbers {
		sum += number
	}
	return sum
}

// madeChips returns n places with some lines, of at most limit between two of them, and at most count chips.
func madeChips(c *chance, n int, limit int, count int) impl.Chips {
	made := impl.Chips{Lines: linesOf(n), At: make([]int, n)}
	thin := 1 + c.below(4)
	for i := range n {
		for j := range i {
			if c.below(4) < thin {
				lines := c.below(limit + 1)
				made.Lines[i][j], made.Lines[j][i] = lines, lines
			}
		}
	}
	for range c.below(count + 1) {
		made.At[c.below(n)]++
	}
	return made
}

// smallChips are all chips on one place, all of few chips and few lines on up to three, and some on up to five.
func smallChips() []impl.Chips {
	all := []impl.Chips{{Lines: wayLines(3, 1), At: []int{0, 2, 0}}, {Lines: wayLines(3, 1), At: []int{1, 0, 0}}}
	for chips := range 31 {
		all = append(all, impl.Chips{Lines: [][]int{{0}}, At: []int{chips}})
	}
	for n, limits := range [][]int{{}, {}, {3, 6}, {2, 4}} {
		if n < 2 {
			continue
		}
		for _, lines := range netsOfLines(n, limits[0]) {
			for _, at := range heaps(n, limits[1]) {
				all = append(all, impl.Chips{Lines: lines, At: at})
			}
		}
	}
	c := chance(91)
	for range 150 {
		all = append(all, madeChips(&c, 3, 3, 8), madeChips(&c, 4, 3, 7), madeChips(&c, 5, 2, 6))
	}
	return all
}

// greatChips are chips near the limits: of many chips and many lines, in one part or in several.
func greatChips() []impl.Chips {
	var all []impl.Chips
	for n := 2; n <= 5; n++ {
		for count := range 4 {
			heap := make([]int, n)
			heap[n-1] = 30
			spread := slices.Repeat([]int{30 / n}, n)
			all = append(all, impl.Chips{Lines: allLines(n, count), At: heap}, impl.Chips{Lines: allLines(n, count), At: spread},
				impl.Chips{Lines: wayLines(n, count), At: heap}, impl.Chips{Lines: wayLines(n, count), At: make([]int, n)})
		}
	}
	parts := linesOf(5, []int{0, 3, 1}, []int{1, 4, 3})
	all = append(all, impl.Chips{Lines: parts, At: []int{0, 7, 20, 1, 2}}, impl.Chips{Lines: parts, At: []int{0, 3, 20, 0, 2}})
	c := chance(92)
	for range 200 {
		all = append(all, madeChips(&c, 2+c.below(4), 3, 30))
	}
	return all
}

// areChipsOf reports whether lines and numbers are chips, as the document defines it.
func areChipsOf(lines [][]int, at []int) bool {
	n := len(at)
	if n < 1 || n > 5 || len(lines) != n {
		return false
	}
	left := 30
	for _, chips := range at {
		if chips < 0 || chips > left {
			return false
		}
		left -= chips
	}
	for i, row := range lines {
		for j := range n {
			if len(row) != n || len(lines[j]) != n || row[j] < 0 || row[j] > 3 || row[j] != lines[j][i] || i == j && row[j] != 0 {
				return false
			}
		}
	}
	return true
}

func degreesIn(c impl.Chips) []int {
	var degrees []int
	for _, row := range c.Lines {
		degrees = append(degrees, sumOf(row))
	}
	return degrees
}

func canMoveIn(c impl.Chips, place int) bool {
	degree := sumOf(c.Lines[place])
	return degree >= 1 && c.At[place] >= degree
}

// movableIn returns all places that can be moved, as the document defines it.
func movableIn(c impl.Chips) []int {
	var places []int
	for place := range c.At {
		if canMoveIn(c, place) {
			places = append(places, place)
		}
	}
	return places
}

// movedIn returns the chips behind a move: one chip goes over each line.
func movedIn(c impl.Chips, place int) impl.Chips {
	at := slices.Clone(c.At)
	for other, lines := range c.Lines[place] {
		for range lines {
			at[place]--
			at[other]++
		}
	}
	return impl.Chips{Lines: c.Lines, At: at}
}

// behindIn returns the chips behind a list of moves, if it is a run.
func behindIn(c impl.Chips, moves []int) (impl.Chips, bool) {
	for _, place := range moves {
		if !isBelow(place, len(c.At)) || !canMoveIn(c, place) {
			return impl.Chips{}, false
		}
		c = movedIn(c, place)
	}
	return c, true
}

// runIn returns a run of at most limit moves, any of those that can be made.
func (c *chance) runIn(chips impl.Chips, limit int) []int {
	var run []int
	for len(run) < limit {
		places := movableIn(chips)
		if len(places) == 0 {
			return run
		}
		run = append(run, places[c.below(len(places))])
		chips = movedIn(chips, run[len(run)-1])
	}
	return run
}

func sameChips(a impl.Chips, b impl.Chips) bool {
	return sameWords(a.Lines, b.Lines) && slices.Equal(a.At, b.At)
}

func chipsText(what string, c impl.Chips) string {
	return fmt.Sprint(what, " ", c.Lines, " ", c.At, " ")
}

func wantChips(t *testing.T, what string, got impl.Chips, ok bool, want impl.Chips, fine bool) {
	t.Helper()
	if ok != fine || !sameChips(got, want) {
		t.Errorf("%s: %v %v, want %v %v", what, got, ok, want, fine)
	}
}

func TestExampleOfChapter8(t *testing.T) {
	back := impl.Chips{Lines: wayLines(3, 1), At: []int{0, 2, 0}}
	for _, step := range []struct{ at, places, run []int }{
		{[]int{0, 2, 0}, []int{1}, nil},
		{[]int{1, 0, 1}, []int{0, 2}, []int{1}},
		{[]int{0, 1, 1}, []int{2}, []int{1, 0}},
		{[]int{1, 1, 0}, []int{0}, []int{1, 2}},
		{[]int{0, 2, 0}, []int{1}, []int{1, 0, 2}},
		{[]int{0, 2, 0}, []int{1}, []int{1, 2, 0}},
		{[]int{1, 0, 1}, []int{0, 2}, []int{1, 2, 0, 1}},
	} {
		behind, ok := impl.RunChips(back, step.run)
		wantChips(t, fmt.Sprint("RunChips ", step.run), behind, ok, impl.Chips{Lines: back.Lines, At: step.at}, true)
		places, ok := impl.CanMove(behind)
		wantWord(t, fmt.Sprint("CanMove ", step.at), places, ok, step.places, true)
	}
	is, ok := impl.NeverEnds(back)
	wantAnswer(t, "NeverEnds", is, ok, true)
	one := impl.Chips{Lines: wayLines(3, 1), At: []int{1, 0, 0}}
	run, ok := impl.FirstRun(one)
	wantWord(t, "FirstRun", run, ok, []int{0}, true)
	count, ok := impl.CountRuns(one)
	wantCount(t, "CountRuns", count, ok, 1)
	is, ok = impl.NeverEnds(one)
	wantAnswer(t, "NeverEnds", is, ok, false)
	final, ok := impl.FinalChips(one)
	wantChips(t, "FinalChips", final, ok, impl.Chips{Lines: one.Lines, At: []int{0, 1, 0}}, true)
}

func wantAreChips(t *testing.T, lines [][]int, at []int, want bool) {
	t.Helper()
	if areChipsOf(lines, at) != want {
		t.Errorf("the tests' own definition fails: %v %v", lines, at)
	}
	if is := impl.AreChips(impl.Chips{Lines: lines, At: at}); is != want {
		t.Errorf("AreChips %v %v: %v, want %v", lines, at, is, want)
	}
}

func TestAreChipsByDefinition(t *testing.T) {
	for _, c := range append(smallChips(), greatChips()...) {
		wantAreChips(t, c.Lines, c.At, true)
	}
	for n := 1; n <= 5; n++ {
		for place := range n {
			for chips, want := range map[int]bool{0: true, 1: true, 29: true, 30: true, 31: false, 32: false, 60: false, -1: false, -30: false,
				math.MaxInt: false, math.MinInt: false} {
				at := make([]int, n)
				at[place] = chips
				wantAreChips(t, wayLines(n, 1), at, want)
				if n > 1 {
					at[(place+1)%n] = 1
					wantAreChips(t, wayLines(n, 1), at, want && chips < 30)
				}
			}
		}
		wantAreChips(t, allLines(n, 3), slices.Repeat([]int{30 / n}, n), true)
		wantAreChips(t, allLines(n, 3), slices.Repeat([]int{30/n + 1}, n), false)
	}
	for n := range 10 {
		for m := range 10 {
			wantAreChips(t, allLines(n, 1), make([]int, m), n == m && isBetween(1, n, 5))
		}
	}
}

// Sums of great numbers may look small.
func TestGreatNumbersAreNoChips(t *testing.T) {
	for _, at := range [][]int{{math.MaxInt, math.MaxInt, 2}, {1 << 62, 1 << 62, 1 << 62, 1 << 62}, {math.MinInt, math.MinInt}, {-5, 5},
		{math.MaxInt, math.MinInt, 1}, {1 << 32, 0}, {256, 0}, {31, -1}, {-1, 31}, {0, -1, 0}} {
		wantAreChips(t, wayLines(len(at), 1), at, false)
	}
	for _, number := range []int{-1, 4, 5, -3, 256, 257, 1 << 32, 1<<32 + 1, 1 << 62, math.MaxInt, math.MinInt} {
		wantAreChips(t, linesOf(2, []int{0, 1, number}), []int{0, 1}, false)
		wantAreChips(t, linesOf(3, []int{0, 1, 1}, []int{1, 2, number}), []int{0, 1, 0}, false)
	}
}

// A change in one place makes chips none: lines that differ both ways, or from a place to itself.
func TestLinesThatDifferBothWaysAreNoChips(t *testing.T) {
	for n := 1; n <= 5; n++ {
		for count := range 4 {
			for i := range n {
				for j := range n {
					for number := -1; number <= 4; number++ {
						lines := allLines(n, count)
						if number != lines[i][j] {
							lines[i][j] = number
							wantAreChips(t, lines, make([]int, n), false)
						}
					}
				}
			}
		}
	}
}

func TestRowsOfOtherLengthsAreNoChips(t *testing.T) {
	for n := 1; n <= 5; n++ {
		for i := range n {
			for _, row := range [][]int{nil, {}, make([]int, n-1), make([]int, n+1), make([]int, 5+n)} {
				lines := linesOf(n)
				lines[i] = row
				wantAreChips(t, lines, make([]int, n), false)
			}
		}
		wantAreChips(t, make([][]int, n), make([]int, n), false)
		wantAreChips(t, linesOf(n)[1:], make([]int, n), false)
		wantAreChips(t, append(linesOf(n), nil), make([]int, n), false)
		wantAreChips(t, append(linesOf(n), make([]int, n)), make([]int, n), false)
		wantAreChips(t, nil, make([]int, n), false)
		wantAreChips(t, linesOf(n), nil, false)
	}
	wantAreChips(t, nil, nil, false)
	wantAreChips(t, linesOf(6), make([]int, 6), false)
	wantAreChips(t, [][]int{{}}, []int{0}, false)
}

func TestMovesByDefinition(t *testing.T) {
	for _, c := range append(smallChips(), greatChips()...) {
		degrees, ok := impl.DegreesOf(c)
		wantWord(t, chipsText("DegreesOf", c), degrees, ok, degreesIn(c), true)
		places, ok := impl.CanMove(c)
		wantWord(t, chipsText("CanMove", c), places, ok, movableIn(c), true)
		for place := -1; place <= len(c.At); place++ {
			behind, ok := impl.MoveChips(c, place)
			if isBelow(place, len(c.At)) && canMoveIn(c, place) {
				wantChips(t, chipsText(fmt.Sprint("MoveChips ", place), c), behind, ok, movedIn(c, place), true)
			} else {
				wantChips(t, chipsText(fmt.Sprint("MoveChips ", place), c), behind, ok, impl.Chips{}, false)
			}
		}
	}
}

// As many chips as lines are enough, one chip less is not; without lines nothing is enough.
func TestMovesAtTheirLimits(t *testing.T) {
	for n := 2; n <= 5; n++ {
		for count := range 4 {
			degree := (n - 1) * count
			for place := range n {
				for chips := range 31 {
					c := impl.Chips{Lines: allLines(n, count), At: make([]int, n)}
					c.At[place] = chips
					can := degree > 0 && chips >= degree
					is, ok := impl.IsRun(c, []int{place})
					wantAnswer(t, chipsText("IsRun", c), is, ok, can)
					behind, ok := impl.MoveChips(c, place)
					if ok != can || ok && (behind.At[place] != chips-degree || behind.At[(place+1)%n] != count) {
						t.Error(chipsText("MoveChips", c), behind, ok)
					}
				}
			}
		}
	}
}

func wantRun(t *testing.T, c impl.Chips, moves []int) {
	t.Helper()
	want, fine := behindIn(c, moves)
	behind, ok := impl.RunChips(c, moves)
	wantChips(t, chipsText("RunChips", c)+fmt.Sprint(moves), behind, ok, want, fine)
	is, ok := impl.IsRun(c, moves)
	wantAnswer(t, chipsText("IsRun", c)+fmt.Sprint(moves), is, ok, fine)
}

func TestRunsByDefinition(t *testing.T) {
	c := chance(93)
	for _, chips := range append(smallChips(), greatChips()...) {
		n := len(chips.At)
		run := c.runIn(chips, c.below(121))
		wantRun(t, chips, nil)
		wantRun(t, chips, []int{})
		wantRun(t, chips, run)
		for place := -1; place <= n && len(run) < 120; place++ {
			wantRun(t, chips, append(slices.Clone(run), place))
		}
		if len(run) == 0 {
			continue
		}
		for range 3 {
			changed := slices.Clone(run)
			changed[c.below(len(run))] = c.below(n)
			wantRun(t, chips, changed)
			changed[c.below(len(run))] = []int{-1, n, 5, 64, math.MaxInt, math.MinInt}[c.below(6)]
			wantRun(t, chips, changed)
			i, j := c.below(len(run)), c.below(len(run))
			swapped := slices.Clone(run)
			swapped[i], swapped[j] = run[j], run[i]
			wantRun(t, chips, swapped)
		}
		wantRun(t, chips, run[1:])
		wantRun(t, chips, run[:c.below(len(run))])
	}
}

func TestAllShortListsAsRuns(t *testing.T) {
	for _, chips := range []impl.Chips{{Lines: wayLines(3, 1), At: []int{0, 2, 0}}, {Lines: allLines(3, 1), At: []int{3, 1, 0}},
		{Lines: linesOf(3, []int{0, 1, 2}), At: []int{2, 1, 5}}, {Lines: wayLines(2, 3), At: []int{3, 3}}, {Lines: linesOf(2), At: []int{30, 0}},
		{Lines: linesOf(1), At: []int{30}}} {
		for length := range 6 {
			for _, moves := range lists(length, len(chips.At)) {
				wantRun(t, chips, moves)
			}
		}
	}
}

// A run may have 2 MaxMoves moves. With one more it is too long, whether it could be made or not.
func TestLongestRuns(t *testing.T) {
	c := chance(94)
	for _, chips := range []impl.Chips{{Lines: wayLines(2, 1), At: []int{1, 0}}, {Lines: wayLines(3, 1), At: []int{0, 2, 0}},
		{Lines: allLines(5, 1), At: []int{6, 6, 6, 6, 6}}, {Lines: wayLines(5, 3), At: []int{30, 0, 0, 0, 0}}, {Lines: allLines(4, 2), At: []int{9, 9, 9, 3}}} {
		run := c.runIn(chips, 122)
		if len(run) != 122 {
			t.Errorf("%s: %d moves", chipsText("no long run", chips), len(run))
		}
		for _, length := range []int{59, 60, 61, 119, 120} {
			wantRun(t, chips, run[:length])
		}
		broken := slices.Clone(run[:120])
		broken[119] = len(chips.At)
		wantRun(t, chips, broken)
		for _, moves := range [][]int{run[:121], run, make([]int, 121), make([]int, 100000), slices.Repeat([]int{-1}, 121)} {
			behind, ok := impl.RunChips(chips, moves)
			wantChips(t, "RunChips of too many moves", behind, ok, impl.Chips{}, false)
			if is, ok := impl.IsRun(chips, moves); is || ok {
				t.Errorf("IsRun of %d moves: %v %v", len(moves), is, ok)
			}
		}
	}
}
