package tests

import (
	"math"
	"slices"
	"testing"

	"loop.example/g01137/impl"
)

// Lines are told by the rows of an argument, numbers of chips by the list, moves, choices and counts by the second one, and
// places by the number.
func chipsIn(a arguments) impl.Chips { return impl.Chips{Lines: a.rows, At: a.list} }

func areChips(a arguments) bool { return areChipsOf(a.rows, a.list) }

func isPlaceToMove(a arguments) bool {
	return areChips(a) && isBelow(a.number, len(a.list)) && canMoveIn(chipsIn(a), a.number)
}

func areFewMoves(a arguments) bool { return areChips(a) && len(a.second) <= 120 }

func isRunOf(a arguments) bool {
	if !areFewMoves(a) {
		return false
	}
	_, ok := behindIn(chipsIn(a), a.second)
	return ok
}

func doEnd(a arguments) bool {
	if !areChips(a) {
		return false
	}
	_, ok := runByIn(chipsIn(a), nil)
	return ok
}

func areFewRuns(a arguments) bool { return doEnd(a) && countRunsIn(chipsIn(a)) <= 1000000000 }

func isRunToName(a arguments) bool {
	if !doEnd(a) {
		return false
	}
	run, _ := runByIn(chipsIn(a), nil)
	return isBetween(1, len(run), 7)
}

func areRunChoices(a arguments) bool {
	return doEnd(a) && len(a.second) <= 60 && !slices.ContainsFunc(a.second, func(choice int) bool { return choice < 0 })
}

func areMoveCounts(a arguments) bool {
	return doEnd(a) && len(a.second) == len(a.list) && !slices.ContainsFunc(a.second, func(count int) bool { return !isBetween(0, count, 60) })
}

// spaceOfMoves makes one value of both results of SpaceOfRuns.
type spaceOfMoves struct {
	space  impl.Space
	places []int
}

var chapter8 = chapter{withoutSpace: []demanding{
	{function{"AreChips", func(a arguments) (any, bool) { ok := impl.AreChips(chipsIn(a)); return ok, ok }}, areChips},
	{function{"DegreesOf", func(a arguments) (any, bool) { return result(impl.DegreesOf(chipsIn(a))) }}, areChips},
	{function{"CanMove", func(a arguments) (any, bool) { return result(impl.CanMove(chipsIn(a))) }}, areChips},
	{function{"MoveChips", func(a arguments) (any, bool) { return result(impl.MoveChips(chipsIn(a), a.number)) }}, isPlaceToMove},
	{function{"RunChips", func(a arguments) (any, bool) { return result(impl.RunChips(chipsIn(a), a.second)) }}, isRunOf},
	{function{"IsRun", func(a arguments) (any, bool) { return result(impl.IsRun(chipsIn(a), a.second)) }}, areFewMoves},
	{function{"FinalChips", func(a arguments) (any, bool) { return result(impl.FinalChips(chipsIn(a))) }}, doEnd},
	{function{"MoveCounts", func(a arguments) (any, bool) { return result(impl.MoveCounts(chipsIn(a))) }}, doEnd},
	{function{"FirstRun", func(a arguments) (any, bool) { return result(impl.FirstRun(chipsIn(a))) }}, doEnd},
	{function{"RunBy", func(a arguments) (any, bool) { return result(impl.RunBy(chipsIn(a), a.second)) }}, areRunChoices},
	{function{"CountRuns", func(a arguments) (any, bool) { return result(impl.CountRuns(chipsIn(a))) }}, areFewRuns},
	{function{"NeverEnds", func(a arguments) (any, bool) { return result(impl.NeverEnds(chipsIn(a))) }}, areChips},
	{function{"SpaceOfRuns", func(a arguments) (any, bool) {
		space, places, ok := impl.SpaceOfRuns(chipsIn(a))
		return spaceOfMoves{space, places}, ok
	}}, isRunToName},
	{function{"ReachedBy", func(a arguments) (any, bool) { return result(impl.ReachedBy(chipsIn(a), a.second)) }}, areMoveCounts},
}}

var (
	// ofEnding are the functions that fail if full runs are endless.
	ofEnding = []string{"FinalChips", "MoveCounts", "FirstRun", "RunBy", "CountRuns", "SpaceOfRuns", "ReachedBy"}
	// ofChips are all functions: each one takes chips.
	ofChips = append([]string{"AreChips", "DegreesOf", "CanMove", "MoveChips", "RunChips", "IsRun", "NeverEnds"}, ofEnding...)
)

func wantNoChips(t *testing.T, lines [][]int, at []int) {
	t.Helper()
	for _, second := range [][]int{nil, {0}, make([]int, min(len(at), 6)), {0, 0, 0, 0}} {
		for number := range 2 {
			wantFailures(t, chapter8, ofChips, arguments{rows: lines, list: at, second: second, number: number})
		}
	}
}

func TestInvalidChipsFail(t *testing.T) {
	for n := range 10 {
		for m := range 10 {
			if n != m || !isBetween(1, n, 5) {
				wantNoChips(t, linesOf(n), make([]int, m))
				wantNoChips(t, wayLines(n, 1), make([]int, m))
			}
		}
		wantNoChips(t, nil, make([]int, n))
		wantNoChips(t, linesOf(n), nil)
		wantNoChips(t, make([][]int, n), make([]int, n))
	}
	wantNoChips(t, make([][]int, 100000), make([]int, 100000))
	wantNoChips(t, [][]int{make([]int, 100000)}, []int{0})
	wantNoChips(t, [][]int{{0, 1}, {1, 0}}, make([]int, 100000))
	for _, at := range [][]int{{31, 0}, {30, 1}, {-1, 1}, {0, -1}, {16, 15}, {math.MaxInt, math.MinInt}, {math.MinInt, 0}, {1 << 62, 1 << 62},
		{math.MaxInt, math.MaxInt, 2}, {1 << 62, 1 << 62, 1 << 62, 1 << 62}, {7, 7, 7, 7, 7}, {31}, {-1}, {math.MinInt}} {
		wantNoChips(t, wayLines(len(at), 1), at)
	}
}

// One number that is changed makes chips none.
func TestChipsThatAreChangedFail(t *testing.T) {
	far := []int{-1, -2, -3, 4, 5, 31, 32, 64, 256, 1 << 32, 1 << 62, math.MaxInt, math.MaxInt - 1, math.MinInt, math.MinInt + 1}
	for n := 1; n <= 5; n++ {
		at := make([]int, n)
		at[n-1] = 30
		for i := range n {
			wantNoChips(t, wayLines(n, 1), append(slices.Clone(at[:i]), append([]int{31}, at[i+1:]...)...))
			for _, number := range far {
				changed := slices.Clone(at)
				changed[i] = number
				if number < 0 || number > 30 || i < n-1 {
					wantNoChips(t, wayLines(n, 1), changed)
				}
				for j := range n {
					lines := wayLines(n, 1)
					lines[i][j] = number
					wantNoChips(t, lines, at)
					lines[j][i] = number
					wantNoChips(t, lines, at)
				}
			}
			for _, row := range [][]int{nil, make([]int, n-1), make([]int, n+1)} {
				lines := linesOf(n)
				lines[i] = row
				wantNoChips(t, lines, at)
			}
		}
	}
}

func TestPlacesThatAreNoneFail(t *testing.T) {
	for _, c := range append(listedChips(), endlessChips()[:12]...) {
		a := arguments{rows: c.Lines, list: c.At}
		for _, number := range append(farNumbers(), len(c.At), 5, 6, 7, 63, 64, 65) {
			a.number, a.second = number, []int{number}
			wantFailures(t, chapter8, []string{"MoveChips", "RunChips"}, a)
			is, ok := impl.IsRun(c, a.second)
			wantAnswer(t, "IsRun", is, ok, false)
		}
	}
}

// validWaitCalls returns arguments with which each function of chapter 8 succeeds, and some with which it fails.
func validWaitCalls() []arguments {
	way := [][]int{{0, 1, 0}, {1, 0, 1}, {0, 1, 0}}
	return []arguments{
		{rows: way, list: []int{1, 0, 0}, second: []int{0}, number: 0},
		{rows: way, list: []int{0, 0, 1}, second: []int{0, 0, 1}, number: 2},
		{rows: way, list: []int{0, 2, 0}, second: []int{1, 0, 2, 1}, number: 1},
		{rows: way, list: []int{0, 2, 0}, second: []int{1, 1, -1}, number: 0},
		{rows: sevenMoves.Lines, list: sevenMoves.At, second: []int{0, 1, 0, 0}, number: 1},
		{rows: eightMoves.Lines, list: eightMoves.At, second: []int{0, 0, 0, 0}, number: 0},
		{rows: longest.Lines, list: longest.At, second: []int{4, 4, 4}, number: 4},
		{rows: longest.Lines, list: longest.At, second: make([]int, 60), number: 3},
		{rows: tooMany.Lines, list: tooMany.At, second: []int{0, 4, 0}, number: 0},
		{rows: allLines(5, 3), list: []int{12, 0, 0, 0, 11}, second: []int{1, 0, 0, 0, 60}, number: 0},
		{rows: allLines(5, 3), list: []int{0, 12, 0, 12, 0}, second: []int{1, 3}, number: 3},
		{rows: linesOf(5, []int{0, 3, 1}, []int{1, 4, 3}), list: []int{0, 3, 20, 0, 2}, second: []int{1}, number: 1},
		{rows: linesOf(5), list: []int{6, 6, 6, 6, 6}, second: []int{0, 0, 0, 0, 0}, number: 2},
		{rows: [][]int{{0}}, list: []int{30}, second: []int{61}, number: 0},
		{rows: [][]int{{0}}, list: []int{0}, second: nil, number: -1},
		{rows: [][]int{{0, 2}, {2, 0}}, list: []int{1, 1}, second: make([]int, 121), number: 1},
		{rows: [][]int{{0, 1}, {1, 0}}, list: []int{1, 0}, second: slices.Repeat([]int{0, 1}, 60), number: 0},
		{rows: [][]int{{0, 1}, {2, 0}}, list: []int{1, 0}, second: []int{0}, number: 0},
		{rows: nil, list: nil, second: nil, number: 0},
		{},
	}
}

func TestWaitArgumentsAreKept(t *testing.T) {
	for _, a := range validWaitCalls() {
		chapter8.wantCalls(t, a)
	}
}

func TestValidWaitCallsSucceed(t *testing.T) {
	chapter8.wantSuccesses(t, validWaitCalls())
}

func TestWaitResultsAreNewMemory(t *testing.T) {
	chapter8.wantNewMemory(t, validWaitCalls())
}

// The list of the rows of chips, too, is new memory.
func TestRowsOfChipsAreNewMemory(t *testing.T) {
	for _, a := range validWaitCalls() {
		for _, name := range []string{"MoveChips", "RunChips", "FinalChips"} {
			made := a.guarded()
			value, _ := chapter8.named(name).call(made)
			lines := value.(impl.Chips).Lines
			clear(lines[:cap(lines)])
			if !a.areKept(made) {
				t.Errorf("%s of %+v hands out its arguments", name, a)
			}
		}
	}
}

// A run of no moves leaves the same chips, but not the same memory.
func TestChipsThatStayAreNewMemory(t *testing.T) {
	for _, a := range validWaitCalls() {
		a.second = nil
		chapter8.wantCalls(t, a)
		chapter8.wantNewMemory(t, []arguments{a})
	}
}

// What is behind the length of a list does not belong to it.
func TestSpareCapacityIsNoPlace(t *testing.T) {
	lines, at := wayLines(3, 1), []int{1, 0, 0, 31}
	wantNoChips(t, lines[:2], at[:3])
	wantNoChips(t, lines, at[:2])
	wantNoChips(t, lines, at)
	wantNoChips(t, [][]int{lines[0][:2], lines[1], lines[2]}, at[:3])
	wantNoChips(t, lines[:2], at[:2])
	c := impl.Chips{Lines: [][]int{lines[0][:2], lines[1][:2], nil}[:2], At: []int{1, 0, -1}[:2]}
	is, ok := impl.NeverEnds(c)
	wantAnswer(t, "NeverEnds", is, ok, true)
	behind, ok := impl.RunChips(c, []int{0, 0}[:1])
	wantChips(t, "RunChips", behind, ok, impl.Chips{Lines: wayLines(2, 1), At: []int{0, 1}}, true)
	c = impl.Chips{Lines: wayLines(3, 1), At: at[:3]}
	run, ok := impl.RunBy(c, []int{0, -1}[:1])
	wantWord(t, "RunBy", run, ok, []int{0}, true)
	is, ok = impl.ReachedBy(c, []int{1, 0, 0, 61}[:3])
	wantAnswer(t, "ReachedBy", is, ok, true)
	wantFailure(t, chapter8.named("ReachedBy"), arguments{rows: c.Lines, list: c.At, second: []int{1, 0, 0}[:2]})
}

// nearChips returns chips, or lists like them.
func (c *chance) nearChips() impl.Chips {
	if c.below(8) == 0 {
		return impl.Chips{Lines: c.anyRows(), At: c.anyList()}
	}
	n := 1 + c.below(5)
	near := madeChips(c, n, 1+c.below(3), []int{4, 10, 30}[c.below(3)])
	if c.below(8) == 0 {
		near.Lines[c.below(n)][c.below(n)] = c.below(4)
	}
	if c.below(12) == 0 {
		i, j := c.below(n), c.below(n)
		near.Lines[i][j] = c.anyNumber()
		near.Lines[j][i] = near.Lines[i][j]
	}
	if c.below(12) == 0 {
		near.At[c.below(n)] = c.anyNumber()
	}
	if c.below(12) == 0 {
		near.Lines[c.below(n)] = c.anyList()
	}
	return near
}

func TestAnyArgumentsOfWaitingMoves(t *testing.T) {
	c := chance(100)
	for range 3000 {
		chips := c.nearChips()
		a := arguments{rows: chips.Lines, list: chips.At, second: c.anyList(), number: c.anyNumber()}
		chapter8.wantCalls(t, a)
		if !areChips(a) {
			continue
		}
		a.number, a.second = c.below(len(a.list)), c.runIn(chips, c.below(125))
		chapter8.wantCalls(t, a)
		a.second = movesOf(len(a.list), a.second)
		chapter8.wantCalls(t, a)
	}
}
