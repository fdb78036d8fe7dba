package tests

import (
	"fmt"
	"slices"
	"testing"

	"loop.example/g01137/impl"
)

var chapter4Points = [][]int{{0, 0}, {4, 0}, {0, 4}, {1, 1}}

// edgePoints are at the limit on both sides.
var edgePoints = [][]int{{20, 20}, {-20, -20}, {20, -20}, {-20, 20}, {0, 20}, {20, 19}, {19, 20}}

// inARow returns n points in a row, each one further on than the one before it.
func inARow(n int, x int, y int) [][]int {
	var points [][]int
	for i := range n {
		points = append(points, []int{i*x - 9, i*y - 5})
	}
	return points
}

// madePoints returns n different points with numbers in -limit..limit.
func madePoints(c *chance, n int, limit int) [][]int {
	var points [][]int
	for len(points) < n {
		point := []int{c.below(2*limit+1) - limit, c.below(2*limit+1) - limit}
		if !slices.ContainsFunc(points, func(other []int) bool { return slices.Equal(other, point) }) {
			points = append(points, point)
		}
	}
	return points
}

// pointSamples are points with many in a row, on sides and within triangles, and points far apart.
func pointSamples() [][][]int {
	all := [][][]int{
		chapter4Points, edgePoints,
		{{0, 0}}, {{20, -20}}, {{0, 0}, {1, 0}}, {{3, 3}, {-3, -3}},
		{{0, 0}, {2, 0}, {1, 0}}, {{1, 1}, {0, 0}, {2, 2}}, {{0, 0}, {0, 1}, {1, 0}},
		{{0, 0}, {6, 0}, {0, 6}, {3, 0}, {0, 3}, {3, 3}, {2, 2}},                 // the middles of the sides, and one within
		{{0, 0}, {6, 0}, {0, 6}, {4, 3}, {7, 0}, {-1, 0}, {1, 1}},                // beside a side, and on its line
		{{0, 0}, {2, 0}, {0, 2}, {2, 2}, {1, 1}},                                 // where two lines meet
		{{0, 0}, {2, 0}, {4, 0}, {0, 2}, {4, 2}, {2, 4}, {2, 1}},                 // some in a row
		{{-20, -20}, {20, 19}, {0, 0}, {0, -1}, {20, 20}, {-20, -19}, {1, 1}},    // thin triangles
		{{2, 0}, {1, 2}, {-1, 2}, {-2, 0}, {-1, -2}, {1, -2}, {0, 0}},            // six corners round one
		{{10, 0}, {7, 7}, {0, 10}, {-7, 7}, {-10, 0}, {-7, -7}, {0, -10}},        // seven corners
		{{0, 20}, {-20, -20}, {20, -20}, {0, 10}, {-10, -15}, {10, -15}, {0, 0}}, // a triangle in a triangle
	}
	for n := 1; n <= 7; n++ {
		all = append(all, inARow(n, 1, 0), inARow(n, 0, 3), inARow(n, 2, 1), inARow(n, 3, -2), inARow(n, -1, -1))
	}
	c := chance(43)
	for n := 2; n <= 7; n++ {
		for _, limit := range []int{1, 1, 2, 2, 3, 5, 20, 20} {
			all = append(all, madePoints(&c, n, limit))
		}
	}
	return all
}

func arePointsOf(points [][]int) bool {
	if len(points) < 1 || len(points) > 7 {
		return false
	}
	for i, p := range points {
		if len(p) != 2 || max(p[0], p[1]) > 20 || min(p[0], p[1]) < -20 {
			return false
		}
		if slices.ContainsFunc(points[:i], func(other []int) bool { return slices.Equal(other, p) }) {
			return false
		}
	}
	return true
}

// isCoveredIn reports whether a point is covered by a set, in another way than the document tells it: the point is one of
// the set, or no straight line parts it from all of them, so that none of them is the first one as seen in less than a
// half turn.
func isCoveredIn(points [][]int, set int, point int) bool {
	if set == 0 || set>>point&1 == 1 {
		return set != 0
	}
	isFirst := func(a int) bool {
		ax, ay := points[a][0]-points[point][0], points[a][1]-points[point][1]
		return !slices.ContainsFunc(pointsOf(set), func(b int) bool {
			bx, by := points[b][0]-points[point][0], points[b][1]-points[point][1]
			turn := ax*by - ay*bx
			return turn < 0 || turn == 0 && ax*bx+ay*by < 0
		})
	}
	return !slices.ContainsFunc(pointsOf(set), isFirst)
}

func coveredIn(points [][]int, set int) int {
	covered := 0
	for point := range points {
		if isCoveredIn(points, set, point) {
			covered += 1 << point
		}
	}
	return covered
}

func cornersIn(points [][]int, set int) int {
	corners := 0
	for _, point := range pointsOf(set) {
		if !isCoveredIn(points, set-1<<point, point) {
			corners += 1 << point
		}
	}
	return corners
}

func pointSpaceOf(points [][]int) impl.Space {
	s := impl.Space{Items: len(points)}
	for set := range 1 << s.Items {
		if others := fullOf(s.Items) - set; coveredIn(points, others) == others {
			s.Sets = append(s.Sets, set)
		}
	}
	return s
}

func TestExampleOfPoints(t *testing.T) {
	corners, ok := impl.CornersOf(chapter4Points, 15)
	wantCount(t, "CornersOf", corners, ok, 7)
	covered, ok := impl.CoveredBy(chapter4Points, 7)
	wantCount(t, "CoveredBy", covered, ok, 15)
	triples, ok := impl.FreeTriples(chapter4Points)
	wantCount(t, "FreeTriples", triples, ok, 3)
	s, ok := impl.PointSpace(chapter4Points)
	want := impl.Space{Items: 4, Sets: []int{0, 1, 2, 3, 4, 5, 6, 7, 9, 10, 11, 12, 13, 14, 15}}
	wantSpace(t, "PointSpace", s, ok, want, true)
}

func TestPointsByDefinition(t *testing.T) {
	for _, points := range pointSamples() {
		if !impl.ArePoints(points) {
			t.Errorf("ArePoints %v", points)
		}
		triples := 0
		for set := range 1 << len(points) {
			corners, ok := impl.CornersOf(points, set)
			wantCount(t, fmt.Sprint("CornersOf ", points, set), corners, ok, cornersIn(points, set))
			covered, ok := impl.CoveredBy(points, set)
			wantCount(t, fmt.Sprint("CoveredBy ", points, set), covered, ok, coveredIn(points, set))
			if sizeOf(set) == 3 && cornersIn(points, set) == set && coveredIn(points, set) == set {
				triples++
			}
		}
		got, ok := impl.FreeTriples(points)
		wantCount(t, fmt.Sprint("FreeTriples ", points), got, ok, triples)
		s, ok := impl.PointSpace(points)
		wantSpace(t, fmt.Sprint("PointSpace ", points), s, ok, pointSpaceOf(points), true)
		if !isDefined(s) {
			t.Errorf("PointSpace %v is no space: %s", points, textOf(s))
		}
	}
}

// Promise 4: convex sets are those that cover no others, hulls what is covered, and extreme points corners.
func TestHullsOfPoints(t *testing.T) {
	for _, points := range pointSamples() {
		s, ok := impl.PointSpace(points)
		if !ok {
			t.Errorf("PointSpace %v fails", points)
		}
		for set := range 1 << len(points) {
			is, ok := impl.IsConvex(s, set)
			wantAnswer(t, fmt.Sprint("IsConvex ", points, set), is, ok, coveredIn(points, set) == set)
			wantNumber(t, askSet{"HullOf", impl.HullOf}, s, set, coveredIn(points, set))
			wantNumber(t, askSet{"ExtremeOf", impl.ExtremeOf}, s, set, cornersIn(points, set))
			corners, ok := impl.CornersOf(points, set)
			covered, fine := impl.CoveredBy(points, corners)
			all, third := impl.CoveredBy(points, set)
			if !ok || !fine || !third || covered != all {
				t.Errorf("%v: the corners %d of %d cover %d, the set %d", points, corners, set, covered, all)
			}
		}
	}
}

// A point is covered on a side and at its ends, but not beside it or behind its ends.
func TestCoveredBySomeSets(t *testing.T) {
	points := [][]int{{0, 0}, {6, 0}, {0, 6}, {2, 0}, {3, 3}, {1, 1}, {9, 0}}
	for _, c := range []struct{ set, covered, corners int }{
		{0, 0, 0}, {1, 1, 1}, {64, 64, 64},
		{3, 11, 3},             // the point 2 0 is between 0 0 and 6 0, the point 9 0 behind them
		{6, 22, 6},             // the point 3 3 is between 6 0 and 0 6, the point 1 1 beside them
		{17, 49, 17},           // the point 1 1 is between 0 0 and 3 3
		{7, 63, 7},             // all but 9 0
		{13, 45, 5 + 8},        // within 0 0, 0 6 and 2 0 is 1 1, but neither 3 3 nor 6 0
		{64 + 8, 74, 72},       // 6 0 is between 9 0 and 2 0
		{64 + 8 + 2, 74, 72},   // three in a row: the middle is no corner
		{127, 127, 1 + 4 + 64}, // 6 0 is no corner, either
		{32 + 16, 48, 48}, {8 + 16 + 32, 56, 56},
	} {
		covered, ok := impl.CoveredBy(points, c.set)
		wantCount(t, fmt.Sprint("CoveredBy ", c.set), covered, ok, c.covered)
		corners, ok := impl.CornersOf(points, c.set)
		wantCount(t, fmt.Sprint("CornersOf ", c.set), corners, ok, c.corners)
	}
}

func TestPointsInARow(t *testing.T) {
	for n := 1; n <= 7; n++ {
		for _, points := range [][][]int{inARow(n, 1, 0), inARow(n, 0, 3), inARow(n, 2, 1), inARow(n, 3, -2), inARow(n, -1, -1)} {
			s, ok := impl.PointSpace(points)
			wantSpace(t, fmt.Sprint("PointSpace ", points), s, ok, lineOf(n), true)
			corners, ok := impl.CornersOf(points, fullOf(n))
			wantCount(t, fmt.Sprint("CornersOf ", points), corners, ok, 1|1<<(n-1))
			covered, ok := impl.CoveredBy(points, 1|1<<(n-1))
			wantCount(t, fmt.Sprint("CoveredBy the ends of ", points), covered, ok, fullOf(n))
			triples, ok := impl.FreeTriples(points)
			wantCount(t, fmt.Sprint("FreeTriples ", points), triples, ok, 0)
		}
	}
}

// Of points that are all corners, each set is one of the space.
func TestPointsThatAreCorners(t *testing.T) {
	round := [][]int{{10, 0}, {7, 7}, {0, 10}, {-7, 7}, {-10, 0}, {-7, -7}, {0, -10}}
	for n := 1; n <= 7; n++ {
		s, ok := impl.PointSpace(round[:n])
		wantSpace(t, fmt.Sprint("PointSpace ", round[:n]), s, ok, freeOf(n), true)
		triples, ok := impl.FreeTriples(round[:n])
		wantCount(t, fmt.Sprint("FreeTriples ", round[:n]), triples, ok, n*(n-1)*(n-2)/6)
	}
	triples, ok := impl.FreeTriples([][]int{{0, 0}, {6, 0}, {0, 6}, {3, 0}})
	wantCount(t, "FreeTriples with one on a side", triples, ok, 2)
	triples, ok = impl.FreeTriples([][]int{{0, 0}, {9, 0}, {0, 9}, {3, 3}})
	wantCount(t, "FreeTriples with one within", triples, ok, 3)
	triples, ok = impl.FreeTriples([][]int{{0, 0}, {1, 0}, {0, 1}})
	wantCount(t, "FreeTriples of three", triples, ok, 1)
}

func TestOnePointAlone(t *testing.T) {
	one := [][]int{{-7, 20}}
	for set := range 2 {
		corners, ok := impl.CornersOf(one, set)
		wantCount(t, "CornersOf", corners, ok, set)
		covered, ok := impl.CoveredBy(one, set)
		wantCount(t, "CoveredBy", covered, ok, set)
	}
	s, ok := impl.PointSpace(one)
	wantSpace(t, "PointSpace", s, ok, freeOf(1), true)
	triples, ok := impl.FreeTriples(one)
	wantCount(t, "FreeTriples", triples, ok, 0)
}

func TestPointsAtTheirLimits(t *testing.T) {
	if !impl.ArePoints(edgePoints) || !impl.ArePoints(inARow(7, 1, 1)) {
		t.Error("ArePoints of seven points fails")
	}
	if impl.ArePoints(inARow(8, 1, 1)) {
		t.Error("ArePoints of eight points")
	}
	for _, far := range []int{20, -20} {
		for _, other := range []int{20, 0, -20} {
			for _, points := range [][][]int{{{far, other}}, {{other, far}}, {{1, 1}, {far, other}}, {{other, far}, {1, 1}}} {
				if !impl.ArePoints(points) {
					t.Errorf("ArePoints %v fails", points)
				}
			}
			past := far + far/20
			for _, points := range [][][]int{{{past, other}}, {{other, past}}, {{1, 1}, {past, other}}, {{other, past}, {1, 1}}} {
				if impl.ArePoints(points) {
					t.Errorf("ArePoints %v", points)
				}
			}
		}
	}
}

// greaterThan returns for each of n items what is greater than it by the order that follows from pairs.
func greaterThan(n int, pairs [][]int) []int {
	greater := make([]int, n)
	for range n {
		for _, pair := range pairs {
			greater[pair[0]] |= 1<<pair[1] | greater[pair[1]]
		}
	}
	return greater
}

// betweenIn returns the items of a set and all that are between two of them.
func betweenIn(greater []int, set int) int {
	all := set
	for item := range greater {
		above := slices.ContainsFunc(pointsOf(set), func(less int) bool { return greater[less]>>item&1 == 1 })
		if above && greater[item]&set != 0 {
			all |= 1 << item
		}
	}
	return all
}

func endsSpaceOf(n int, pairs [][]int) (impl.Space, bool) {
	greater := greaterThan(n, pairs)
	s := impl.Space{Items: n}
	for item := range n {
		if greater[item]>>item&1 == 1 {
			return impl.Space{}, false
		}
	}
	for set := range 1 << n {
		if left := fullOf(n) - set; betweenIn(greater, left) == left {
			s.Sets = append(s.Sets, set)
		}
	}
	return s, true
}

func wantEndsSpace(t *testing.T, n int, pairs [][]int) {
	t.Helper()
	want, fine := endsSpaceOf(n, pairs)
	got, ok := impl.EndsSpace(n, pairs)
	wantSpace(t, fmt.Sprint("EndsSpace ", n, pairs), got, ok, want, fine)
	if ok && !isDefined(got) {
		t.Errorf("EndsSpace %d %v is no space: %s", n, pairs, textOf(got))
	}
}

func bothWays(pairs [][]int) [][]int {
	var both [][]int
	for _, pair := range pairs {
		both = append(both, pair, []int{pair[1], pair[0]})
	}
	return both
}

// madeOrder returns some pairs of which the first item always comes before the second one in some order.
func madeOrder(c *chance, n int, count int) [][]int {
	order := c.order(n)
	var pairs [][]int
	for range count {
		i := c.below(n - 1)
		j := i + 1 + c.below(n-1-i)
		pairs = append(pairs, []int{order[i], order[j]})
	}
	return pairs
}

func TestEndsSpaceByDefinition(t *testing.T) {
	for n := 1; n <= 4; n++ {
		pairs := bothWays(allPairs(n))
		for marks := range 1 << len(pairs) {
			wantEndsSpace(t, n, chosen(pairs, marks))
		}
	}
	c := chance(44)
	for n := 5; n <= 7; n++ {
		for count := range 20 {
			pairs := madeOrder(&c, n, count)
			wantEndsSpace(t, n, pairs)
			wantEndsSpace(t, n, slices.Concat(pairs, pairs))
			i := c.below(n)
			wantEndsSpace(t, n, append(pairs, []int{i, (i + 1 + c.below(n-1)) % n}))
		}
	}
}

// Promise 4: hulls by an order have all between, and extreme items are the least and the greatest ones.
func TestHullsByOrders(t *testing.T) {
	c := chance(45)
	for n := 2; n <= 7; n++ {
		for count := range 12 {
			pairs := madeOrder(&c, n, count)
			greater := greaterThan(n, pairs)
			s, ok := impl.EndsSpace(n, pairs)
			if !ok {
				t.Errorf("EndsSpace %d %v fails", n, pairs)
			}
			for set := range 1 << n {
				wantNumber(t, askSet{"HullOf", impl.HullOf}, s, set, betweenIn(greater, set))
				extreme := 0
				for _, item := range pointsOf(set) {
					extreme |= 1 << item &^ betweenIn(greater, set-1<<item)
				}
				wantNumber(t, askSet{"ExtremeOf", impl.ExtremeOf}, s, set, extreme)
			}
		}
	}
}

func TestSpacesOfSomeOrders(t *testing.T) {
	for n := 1; n <= 7; n++ {
		for _, pairs := range [][][]int{nil, {}} {
			s, ok := impl.EndsSpace(n, pairs)
			wantSpace(t, fmt.Sprint("EndsSpace without pairs ", n), s, ok, freeOf(n), true)
		}
		var row, level [][]int
		for i := range n - 1 {
			row = append(row, []int{i, i + 1})
			level = append(level, []int{n - 1, i})
		}
		for _, pairs := range [][][]int{row, slices.Concat(row, row, row)} {
			s, ok := impl.EndsSpace(n, pairs)
			wantSpace(t, fmt.Sprint("EndsSpace ", n, pairs), s, ok, lineOf(n), true)
		}
		s, ok := impl.EndsSpace(n, level)
		wantSpace(t, fmt.Sprint("EndsSpace with nothing between ", n), s, ok, freeOf(n), true)
	}
	s, ok := impl.EndsSpace(4, [][]int{{2, 0}, {0, 1}})
	want := impl.Space{Items: 4, Sets: []int{0, 2, 3, 4, 5, 6, 7, 8, 10, 11, 12, 13, 14, 15}}
	wantSpace(t, "EndsSpace of 2, 0, 1 in a row", s, ok, want, true)
}

func TestEndsSpaceAtItsLimits(t *testing.T) {
	pairs := allPairs(7)
	for len(pairs) < 40 {
		pairs = append(pairs, []int{5, 6})
	}
	s, ok := impl.EndsSpace(7, pairs)
	wantSpace(t, "EndsSpace of 40 pairs", s, ok, lineOf(7), true)
	s, ok = impl.EndsSpace(7, append(pairs, []int{5, 6}))
	wantSpace(t, "EndsSpace of 41 pairs", s, ok, impl.Space{}, false)
	s, ok = impl.EndsSpace(2, slices.Repeat([][]int{{1, 0}}, 40))
	wantSpace(t, "EndsSpace of one pair, 40 times", s, ok, freeOf(2), true)
	s, ok = impl.EndsSpace(2, slices.Repeat([][]int{{1, 0}}, 41))
	wantSpace(t, "EndsSpace of one pair, 41 times", s, ok, impl.Space{}, false)
}
