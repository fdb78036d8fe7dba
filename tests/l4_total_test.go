package tests

import (
	"fmt"
	"math"
	"slices"
	"testing"

	"loop.example/g01137/impl"
)

// Nets are told by the list of an argument, orders by the second one, points and pairs by the rows, and sets, numbers of
// items and points of a net by the numbers.
func netIn(a arguments) impl.Net { return impl.Net{Near: a.list} }

func isNet(a arguments) bool     { return isNetOf(a.list) }
func isTree(a arguments) bool    { return isTreeOf(a.list) }
func arePoints(a arguments) bool { return arePointsOf(a.rows) }

func hasElimination(a arguments) bool { return isNet(a) && canTakeAll(a.list, fullOf(len(a.list))) }

func isBelow(number int, limit int) bool { return 0 <= number && number < limit }

func isWay(a arguments) bool {
	return isTree(a) && isBelow(a.number, len(a.list)) && isBelow(a.item, len(a.list))
}

func isSetOfPoints(a arguments) bool { return arePoints(a) && isBelow(a.number, 1<<len(a.rows)) }

// arePairsOf reports whether rows are at most 40 pairs of different ones of n items.
func arePairsOf(rows [][]int, n int) bool {
	return len(rows) <= 40 && !slices.ContainsFunc(rows, func(row []int) bool {
		return len(row) != 2 || !isBelow(row[0], n) || !isBelow(row[1], n) || row[0] == row[1]
	})
}

// areEnds reports whether rows are pairs by which no item is less than itself.
func areEnds(a arguments) bool {
	if a.number < 1 || a.number > 7 || !arePairsOf(a.rows, a.number) {
		return false
	}
	_, ok := endsSpaceOf(a.number, a.rows)
	return ok
}

var chapter4 = chapter{withoutSpace: []demanding{
	{function{"IsNet", func(a arguments) (any, bool) { ok := impl.IsNet(netIn(a)); return ok, ok }}, isNet},
	{function{"IsTree", func(a arguments) (any, bool) { return result(impl.IsTree(netIn(a))) }}, isNet},
	{function{"TreeSpace", func(a arguments) (any, bool) { return result(impl.TreeSpace(netIn(a))) }}, isTree},
	{function{"WayBetween", func(a arguments) (any, bool) { return result(impl.WayBetween(netIn(a), a.number, a.item)) }}, isWay},
	{function{"SimplicialOf", func(a arguments) (any, bool) { return result(impl.SimplicialOf(netIn(a), a.number)) }},
		func(a arguments) bool { return isNet(a) && isBelow(a.number, 1<<len(a.list)) }},
	{function{"IsElimination", func(a arguments) (any, bool) { return result(impl.IsElimination(netIn(a), a.second)) }}, isNet},
	{function{"EliminationOf", func(a arguments) (any, bool) { return result(impl.EliminationOf(netIn(a))) }}, hasElimination},
	{function{"ChordalSpace", func(a arguments) (any, bool) { return result(impl.ChordalSpace(netIn(a))) }}, hasElimination},
	{function{"ArePoints", func(a arguments) (any, bool) { ok := impl.ArePoints(a.rows); return ok, ok }}, arePoints},
	{function{"CornersOf", func(a arguments) (any, bool) { return result(impl.CornersOf(a.rows, a.number)) }}, isSetOfPoints},
	{function{"CoveredBy", func(a arguments) (any, bool) { return result(impl.CoveredBy(a.rows, a.number)) }}, isSetOfPoints},
	{function{"PointSpace", func(a arguments) (any, bool) { return result(impl.PointSpace(a.rows)) }}, arePoints},
	{function{"EndsSpace", func(a arguments) (any, bool) { return result(impl.EndsSpace(a.number, a.rows)) }}, areEnds},
	{function{"FreeTriples", func(a arguments) (any, bool) { return result(impl.FreeTriples(a.rows)) }}, arePoints},
}}

var (
	ofNets   = []string{"IsNet", "IsTree", "TreeSpace", "WayBetween", "SimplicialOf", "IsElimination", "EliminationOf", "ChordalSpace"}
	ofPoints = []string{"ArePoints", "CornersOf", "CoveredBy", "PointSpace", "FreeTriples"}
)

func wantFailures(t *testing.T, c chapter, names []string, a arguments) {
	t.Helper()
	for _, name := range names {
		wantFailure(t, c.named(name), a)
	}
}

func TestInvalidNetsFail(t *testing.T) {
	invalid := [][]int{
		nil, {}, {1}, {2}, {-1}, {math.MaxInt}, {math.MinInt}, // no point, a point by itself, numbers out of range
		{1, 2}, {3, 3}, {2, 3}, {3, 1}, {2, 5, 6}, // a point that is its own neighbour
		{2, 0}, {0, 1}, {2, 1, 1}, {2, 4, 2}, {6, 1, 0}, // a neighbour only one way
		{4, 0}, {6, 1}, {2, 5}, {2, 5, 10}, {8, 0, 0}, {2, 5, 2 + 64}, // a neighbour out of range
		{0, -1}, {-1, 0}, {-2, 1}, {-2, -1}, {0, 0, math.MinInt}, {2 + math.MinInt, 1}, {2, 1, 1 << 62},
		rowNet(8), netOf(8, nil), starNet(8, 0), netOf(8, allPairs(8)), make([]int, 63), make([]int, 64), make([]int, 100000),
	}
	for _, near := range invalid {
		for number := -1; number <= 8; number++ {
			for _, second := range [][]int{nil, {0}, pointsOf(fullOf(min(len(near), 9)))} {
				wantFailures(t, chapter4, ofNets, arguments{list: near, number: number, second: second})
			}
		}
	}
}

// A change in one place makes a net none: the other way of a line, or a point that is its own neighbour, is missing or
// too much.
func TestNetsThatAreChangedFail(t *testing.T) {
	for _, near := range netSamples() {
		for i := range near {
			for j := range near {
				changed := slices.Clone(near)
				changed[i] ^= 1 << j
				wantFailures(t, chapter4, ofNets, arguments{list: changed, second: pointsOf(fullOf(len(near)))})
			}
			for _, number := range append(farNumbers(), 1<<len(near), 1<<len(near)+near[i]) {
				changed := slices.Clone(near)
				changed[i] = number
				wantFailures(t, chapter4, ofNets, arguments{list: changed, second: pointsOf(fullOf(len(near)))})
			}
		}
	}
}

func TestNetsWithoutTreeOrEliminationFail(t *testing.T) {
	for _, near := range append(netSamples(), nets(5)...) {
		a := arguments{list: near}
		if !isTree(a) {
			wantFailures(t, chapter4, []string{"TreeSpace", "WayBetween"}, a)
		}
		if !hasElimination(a) {
			wantFailures(t, chapter4, []string{"EliminationOf", "ChordalSpace"}, a)
		}
	}
}

func TestPointsOutOfRangeFail(t *testing.T) {
	for _, near := range netSamples() {
		full := fullOf(len(near))
		for _, number := range append(farNumbers(), len(near), len(near)+1, 7, 8, 63, 64, 65) {
			for _, a := range []arguments{{number: number}, {item: number}, {number: number, item: number}} {
				a.list = near
				wantFailure(t, chapter4.named("WayBetween"), a)
			}
		}
		for _, number := range append(farNumbers(), full+1, full+2, 2*full+2) {
			wantFailure(t, chapter4.named("SimplicialOf"), arguments{list: near, number: number})
		}
	}
	for _, points := range pointSamples() {
		full := fullOf(len(points))
		for _, number := range append(farNumbers(), full+1, full+2, 2*full+2) {
			wantFailures(t, chapter4, []string{"CornersOf", "CoveredBy"}, arguments{rows: points, number: number})
		}
	}
}

// invalidPoints returns lists that are no points with others, which have the first one of these.
func invalidPoints(others [][]int) [][]int {
	invalid := [][]int{others[0], nil, {}, {0}, {0, 0, 0}, {1, 2, 3, 4}, make([]int, 100000)}
	for _, number := range []int{21, -21, 22, -41, 64, 128, 1 << 32, 1 << 62, math.MaxInt, math.MaxInt - 1, math.MinInt, math.MinInt + 1} {
		invalid = append(invalid, []int{number, 0}, []int{0, number}, []int{number, number})
	}
	return invalid
}

func TestInvalidPointsFail(t *testing.T) {
	for _, points := range [][][]int{nil, {}, inARow(8, 1, 0), inARow(8, 2, 1), make([][]int, 8), slices.Repeat([][]int{{0, 0}}, 100000)} {
		wantFailures(t, chapter4, ofPoints, arguments{rows: points})
	}
	for _, points := range pointSamples() {
		for _, row := range invalidPoints(points) {
			for number := range 3 {
				changed := slices.Clone(points)
				changed[len(changed)-1] = row
				if !arePointsOf(changed) {
					wantFailures(t, chapter4, ofPoints, arguments{rows: changed, number: number})
				}
				wantFailures(t, chapter4, ofPoints, arguments{rows: append(slices.Clone(points), row), number: number})
				wantFailures(t, chapter4, ofPoints, arguments{rows: append([][]int{row}, points...), number: number})
			}
		}
	}
}

// invalidPairs returns lists that are no pairs of three items, or too many of them.
func invalidPairs() [][][]int {
	return [][][]int{{nil}, {{}}, {{0}}, {{0, 1, 2}}, {{0, 1}, {1}}, {{0, 1}, nil}, {make([]int, 100000)}, // no pairs
		{{0, 3}}, {{3, 0}}, {{-1, 0}}, {{0, -1}}, {{0, 64}}, {{0, math.MaxInt}}, {{math.MinInt, 0}}, {{0, 1}, {1, 7}}, // out of range
		{{0, 0}}, {{2, 2}}, {{0, 1}, {1, 1}}, {{-1, -1}}, {{3, 3}}, // the same item twice
		slices.Repeat([][]int{{0, 1}}, 41), slices.Repeat([][]int{{0, 1}}, 100000), slices.Repeat([][]int{nil}, 40)}
}

func TestInvalidEndsFail(t *testing.T) {
	f := chapter4.named("EndsSpace")
	for _, n := range append(farNumbers(), 0, 8, 9, 63, 64, 65) {
		for _, pairs := range [][][]int{nil, {{0, 1}}, {{0, 0}}, {nil}} {
			wantFailure(t, f, arguments{number: n, rows: pairs})
		}
	}
	goingRound := [][][]int{{{0, 1}, {1, 0}}, {{0, 1}, {1, 2}, {2, 0}}, {{2, 1}, {0, 2}, {1, 0}}, {{0, 1}, {2, 1}, {1, 2}}}
	for _, pairs := range append(invalidPairs(), goingRound...) {
		wantFailure(t, f, arguments{number: 3, rows: pairs})
	}
	for n := 2; n <= 7; n++ {
		c := chance(n)
		order := c.order(n)
		var round [][]int
		for i, item := range order {
			round = append(round, []int{item, order[(i+1)%n]})
		}
		wantFailure(t, f, arguments{number: n, rows: round})
		wantSuccess(t, f, arguments{number: n, rows: round[1:]})
		wantSuccess(t, f, arguments{number: n, rows: round[:n-1]})
	}
	wantSuccess(t, f, arguments{number: 3, rows: slices.Repeat([][]int{{0, 1}}, 40)})
}

// validShellCalls returns arguments with which each function of chapter 4 succeeds, and some with which it fails.
func validShellCalls() []arguments {
	return []arguments{
		{list: []int{2, 5, 2}, second: []int{0, 1, 2}, rows: chapter4Points, number: 0, item: 2},
		{list: []int{2, 5, 2}, second: []int{1, 0, 2}, rows: [][]int{{0, 1}, {1, 2}}, number: 3, item: 1},
		{list: []int{6, 5, 3}, second: []int{2, 1, 0}, rows: edgePoints, number: 127, item: 0},
		{list: ringNet(5), second: []int{0, 1, 2, 3, 4}, rows: [][]int{{0, 0}}, number: 1, item: 1},
		{list: starNet(7, 3), second: []int{6, 5, 4, 3, 2, 1, 0}, rows: allPairs(7), number: 6, item: 6},
		{list: rowNet(7), second: nil, rows: append(allPairs(6), []int{0, 6}, []int{0, 6}), number: 7, item: 6},
		{list: netOf(7, allPairs(7)), second: []int{3, 4, 5, 6, 2, 1, 0}, rows: nil, number: 5},
		{list: []int{0}, second: []int{0}, rows: [][]int{{0, 0}, {1, 0}, {0, 1}}, number: 0, item: 0},
		{list: netOf(6, nil), second: []int{0, 1, math.MaxInt}, rows: inARow(7, 2, 1), number: 5, item: 7},
		{list: []int{2, 5, 3}, second: []int{0, 1, 2}, rows: [][]int{{0, 0}, {1, 1}, {0, 0}}, number: 2, item: -1},
		{list: []int{1}, second: []int{-1}, rows: [][]int{{1, 0}, {0}}, number: 2},
	}
}

func TestShellArgumentsAreKept(t *testing.T) {
	for _, a := range validShellCalls() {
		chapter4.wantCalls(t, a)
	}
}

func TestValidShellCallsSucceed(t *testing.T) {
	chapter4.wantSuccesses(t, validShellCalls())
}

func TestShellResultsAreNewMemory(t *testing.T) {
	chapter4.wantNewMemory(t, validShellCalls())
}

// What is behind the length of a list does not belong to it.
func TestSpareCapacityIsNoPoint(t *testing.T) {
	near, order := []int{2, 5, 2}, []int{0, 1, 2}
	wantFailures(t, chapter4, ofNets, arguments{list: near[:2], second: order[:2]})
	wantFailures(t, chapter4, ofNets, arguments{list: near[:0]})
	is, ok := impl.IsElimination(impl.Net{Near: near}, order[:2])
	wantAnswer(t, "IsElimination", is, ok, false)
	s, ok := impl.TreeSpace(impl.Net{Near: []int{2, 1, 0}[:2]})
	wantSpace(t, "TreeSpace", s, ok, freeOf(2), true)
	first, ok := impl.EliminationOf(impl.Net{Near: []int{0, 0}[:1]})
	wantWord(t, "EliminationOf", first, ok, []int{0}, true)
	points := inARow(3, 1, 1)
	wantFailures(t, chapter4, ofPoints, arguments{rows: points[:0]})
	wantFailures(t, chapter4, ofPoints, arguments{rows: [][]int{points[0][:1]}})
	wantFailures(t, chapter4, []string{"CornersOf", "CoveredBy"}, arguments{rows: points[:2], number: 4})
	s, ok = impl.PointSpace(points[:2])
	wantSpace(t, "PointSpace", s, ok, freeOf(2), true)
	s, ok = impl.PointSpace([][]int{[]int{0, 0, 5}[:2]})
	wantSpace(t, "PointSpace", s, ok, freeOf(1), true)
	pairs := [][]int{{0, 1}, {1, 2}, {2, 0}}
	s, ok = impl.EndsSpace(3, pairs[:2])
	wantSpace(t, "EndsSpace", s, ok, lineOf(3), true)
	wantFailure(t, chapter4.named("EndsSpace"), arguments{number: 3, rows: [][]int{pairs[0][:1]}})
}

// nearNet returns a net, or sets of neighbours like it.
func (c *chance) nearNet() []int {
	if c.below(6) == 0 {
		return c.anyList()
	}
	n := 1 + c.below(7)
	near := madeNet(c, n, c.below(1<<n)*c.below(2))
	if c.below(5) == 0 {
		near[c.below(n)] ^= 1 << c.below(n)
	}
	if c.below(10) == 0 {
		near[c.below(n)] = c.anyNumber()
	}
	return near
}

// nearPoints returns points of the plane, or lists like them.
func (c *chance) nearPoints() [][]int {
	points := madePoints(c, 1+c.below(7), []int{2, 3, 21}[c.below(3)])
	if c.below(4) == 0 {
		points[c.below(len(points))][c.below(2)] = c.anyNumber()
	}
	if c.below(8) == 0 {
		points[c.below(len(points))] = c.anyList()
	}
	return points
}

// nearOrder returns pairs of an order, or lists like them.
func (c *chance) nearOrder(n int) [][]int {
	pairs := madeOrder(c, n, c.below(8))
	if len(pairs) > 0 && c.below(4) == 0 {
		pairs[c.below(len(pairs))][c.below(2)] = c.below(n)
	}
	if len(pairs) > 0 && c.below(8) == 0 {
		pairs[c.below(len(pairs))][c.below(2)] = c.anyNumber()
	}
	if c.below(8) == 0 {
		pairs = slices.Repeat(pairs, 1+c.below(12))
	}
	return pairs
}

func TestAnyArgumentsOfShellings(t *testing.T) {
	c := chance(47)
	for range 4000 {
		a := arguments{list: c.nearNet(), second: c.anyList(), number: c.anyNumber(), item: c.anyNumber()}
		switch c.below(5) {
		case 0:
			a.rows = c.anyRows()
		case 1, 2:
			a.rows = c.nearPoints()
			a.number = c.below(1 << len(a.rows))
		default:
			a.number = 2 + c.below(6)
			a.rows = c.nearOrder(a.number)
		}
		chapter4.wantCalls(t, a)
		a.second, a.number, a.item = c.order(len(a.list)), c.below(8), c.below(7)
		chapter4.wantCalls(t, a)
		if is, ok := impl.IsElimination(netIn(a), a.second); ok && is != isEliminationOf(a.list, a.second) {
			t.Errorf("IsElimination %v %v: %v", a.list, a.second, is)
		}
		for _, f := range chapter4.withoutSpace {
			value, ok := f.call(a)
			if s, is := value.(impl.Space); ok && is && !isDefined(s) {
				t.Error(fmt.Sprint(f.name, " makes no space: ", textOf(s)))
			}
		}
	}
}
