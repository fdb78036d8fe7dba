package tests

import (
	"fmt"
	"math/bits"
	"slices"
	"testing"

	"loop.example/g01137/impl"
)

func sizeOf(set int) int { return bits.OnesCount(uint(set)) }

func fullOf(n int) int { return 1<<n - 1 }

// pointsOf returns the points of a set, increasing.
func pointsOf(set int) []int {
	var points []int
	for point := range bits.Len(uint(set)) {
		if set>>point&1 == 1 {
			points = append(points, point)
		}
	}
	return points
}

// allPairs returns all pairs i, j of numbers below n with i < j.
func allPairs(n int) [][]int {
	var pairs [][]int
	for j := range n {
		for i := range j {
			pairs = append(pairs, []int{i, j})
		}
	}
	return pairs
}

// netOf returns the sets of the neighbours of n points with lines between the points of pairs.
func netOf(n int, lines [][]int) []int {
	near := make([]int, n)
	for _, line := range lines {
		near[line[0]] |= 1 << line[1]
		near[line[1]] |= 1 << line[0]
	}
	return near
}

// nets returns all nets of n points.
func nets(n int) [][]int {
	lines := allPairs(n)
	var all [][]int
	for marks := range 1 << len(lines) {
		all = append(all, netOf(n, chosen(lines, marks)))
	}
	return all
}

// rowNet and ringNet have a line between each two neighbours in a row, or on a ring.
func rowNet(n int) []int {
	var lines [][]int
	for i := range n - 1 {
		lines = append(lines, []int{i, i + 1})
	}
	return netOf(n, lines)
}

func ringNet(n int) []int {
	near := rowNet(n)
	near[0] |= 1 << (n - 1)
	near[n-1] |= 1
	return near
}

func starNet(n int, middle int) []int {
	var lines [][]int
	for i := range n {
		if i != middle {
			lines = append(lines, []int{middle, i})
		}
	}
	return netOf(n, lines)
}

// madeNet joins each point, in some order, to one of those before it, and to those of its neighbours that marks choose:
// it is a tree if they choose none.
func madeNet(c *chance, n int, marks int) []int {
	order := c.order(n)
	near := make([]int, n)
	for i, point := range order[1:] {
		first := order[c.below(i+1)]
		joined := 1<<first | near[first]&marks
		for _, other := range pointsOf(joined) {
			near[point] |= 1 << other
			near[other] |= 1 << point
		}
	}
	return near
}

// netSamples are all nets of at most 4 points, and some of each greater number up to 7.
func netSamples() [][]int {
	var all [][]int
	for n := 1; n <= 4; n++ {
		all = append(all, nets(n)...)
	}
	c := chance(41)
	for n := 5; n <= 7; n++ {
		all = append(all, netOf(n, nil), netOf(n, allPairs(n)), rowNet(n), ringNet(n), starNet(n, 0), starNet(n, n-1))
		for range 12 {
			lines := allPairs(n)
			all = append(all, madeNet(&c, n, 0), madeNet(&c, n, c.below(1<<n)), netOf(n, chosen(lines, c.below(1<<len(lines)))))
		}
	}
	return all
}

// isNetOf reports whether sets of neighbours are a net, as the document defines it.
func isNetOf(near []int) bool {
	n := len(near)
	if n < 1 || n > 7 || slices.ContainsFunc(near, func(set int) bool { return set < 0 || set > fullOf(n) }) {
		return false
	}
	for i := range n {
		for j := range n {
			if near[i]>>j&1 != near[j]>>i&1 || i == j && near[i]>>j&1 == 1 {
				return false
			}
		}
	}
	return true
}

// waysIn returns the points of each way from a to b that stays within a set and comes to no point twice.
func waysIn(near []int, within int, a int, b int) []int {
	if within>>a&1 == 0 || within>>b&1 == 0 {
		return nil
	}
	if a == b {
		return []int{1 << a}
	}
	var ways []int
	for _, next := range pointsOf(near[a]) {
		for _, way := range waysIn(near, within-1<<a, next, b) {
			ways = append(ways, way+1<<a)
		}
	}
	return ways
}

func isTreeOf(near []int) bool {
	if !isNetOf(near) {
		return false
	}
	for _, pair := range allPairs(len(near)) {
		if len(waysIn(near, fullOf(len(near)), pair[0], pair[1])) != 1 {
			return false
		}
	}
	return true
}

func isJoinedIn(near []int, set int) bool {
	for _, a := range pointsOf(set) {
		for _, b := range pointsOf(set) {
			if len(waysIn(near, set, a, b)) == 0 {
				return false
			}
		}
	}
	return true
}

func isSimplicialIn(near []int, set int, point int) bool {
	for _, a := range pointsOf(near[point] & set) {
		for _, b := range pointsOf(near[point] & set) {
			if a != b && near[a]>>b&1 == 0 {
				return false
			}
		}
	}
	return true
}

func simplicialIn(near []int, set int) int {
	simplicial := 0
	for _, point := range pointsOf(set) {
		if isSimplicialIn(near, set, point) {
			simplicial += 1 << point
		}
	}
	return simplicial
}

// takenIn returns the longest beginning of an order whose points are simplicial each in what is not before them.
func takenIn(near []int, order []int) []int {
	left := fullOf(len(near))
	for i, point := range order {
		if point < 0 || left>>point&1 == 0 || !isSimplicialIn(near, left, point) {
			return order[:i]
		}
		left -= 1 << point
	}
	return order
}

func isEliminationOf(near []int, order []int) bool {
	return len(order) == len(near) && len(takenIn(near, order)) == len(near)
}

// canTakeAll reports whether all points of a set can be taken away, each one simplicial in what is left of it.
func canTakeAll(near []int, set int) bool {
	return set == 0 || slices.ContainsFunc(pointsOf(set), func(point int) bool {
		return isSimplicialIn(near, set, point) && canTakeAll(near, set-1<<point)
	})
}

func treeSpaceOf(near []int) (impl.Space, bool) {
	if !isTreeOf(near) {
		return impl.Space{}, false
	}
	s := impl.Space{Items: len(near)}
	for set := range 1 << s.Items {
		if isJoinedIn(near, fullOf(s.Items)-set) {
			s.Sets = append(s.Sets, set)
		}
	}
	return s, true
}

// The tests are worth what their nets are: of each number of points some are trees, some others have an elimination, and
// some have none.
func TestListsOfNets(t *testing.T) {
	for n, want := range []int{1, 2, 8, 61, 822} {
		count := 0
		for _, near := range nets(n + 1) {
			if _, ok := impl.EliminationOf(impl.Net{Near: near}); ok {
				count++
			}
		}
		if count != want {
			t.Errorf("%d nets of %d points with an elimination, want %d", count, n+1, want)
		}
	}
	kinds := map[[2]int]int{}
	for _, near := range netSamples() {
		kind := 0
		if isTreeOf(near) {
			kind = 2
		} else if canTakeAll(near, fullOf(len(near))) {
			kind = 1
		}
		kinds[[2]int{len(near), kind}]++
	}
	for n := 5; n <= 7; n++ {
		for kind := range 3 {
			if count := kinds[[2]int{n, kind}]; count < 4 {
				t.Errorf("%d nets of %d points are of the kind %d", count, n, kind)
			}
		}
	}
}

func netText(what string, near []int) string { return fmt.Sprint(what, " ", near) }

func TestExampleOfTrees(t *testing.T) {
	g := impl.Net{Near: []int{2, 5, 2}}
	is, ok := impl.IsTree(g)
	wantAnswer(t, "IsTree", is, ok, true)
	s, ok := impl.TreeSpace(g)
	wantSpace(t, "TreeSpace", s, ok, impl.Space{Items: 3, Sets: []int{0, 1, 3, 4, 5, 6, 7}}, true)
	leaves, ok := impl.OuterFringe(s, 0)
	wantCount(t, "leaves", leaves, ok, 5)
	has, ok := impl.HasSet(s, 2)
	wantAnswer(t, "HasSet of the middle", has, ok, false)
}

func TestTreesByDefinition(t *testing.T) {
	for n := 1; n <= 5; n++ {
		trees := 0
		for _, near := range nets(n) {
			wantTree(t, near)
			if isTreeOf(near) {
				trees++
			}
		}
		if want := []int{0, 1, 1, 3, 16, 125}[n]; trees != want {
			t.Errorf("%d trees of %d points, want %d", trees, n, want)
		}
	}
	for _, near := range netSamples() {
		wantTree(t, near)
	}
}

func wantTree(t *testing.T, near []int) {
	t.Helper()
	g := impl.Net{Near: near}
	want, fine := treeSpaceOf(near)
	if !impl.IsNet(g) {
		t.Error(netText("IsNet", near))
	}
	is, ok := impl.IsTree(g)
	wantAnswer(t, netText("IsTree", near), is, ok, fine)
	s, ok := impl.TreeSpace(g)
	wantSpace(t, netText("TreeSpace", near), s, ok, want, fine)
	if fine && !isDefined(s) {
		t.Errorf("TreeSpace %v is no space: %s", near, textOf(s))
	}
	for a := range near {
		for b := range near {
			way, ok := impl.WayBetween(g, a, b)
			if fine {
				wantCount(t, fmt.Sprint("WayBetween ", near, a, b), way, ok, waysIn(near, fullOf(len(near)), a, b)[0])
			} else if ok || way != 0 {
				t.Errorf("WayBetween %v, which is no tree: %d %v", near, way, ok)
			}
		}
	}
}

// treeHullOf returns all points on ways between points of a set.
func treeHullOf(near []int, set int) int {
	hull := 0
	for _, a := range pointsOf(set) {
		for _, b := range pointsOf(set) {
			hull |= waysIn(near, fullOf(len(near)), a, b)[0]
		}
	}
	return hull
}

// Promise 4: hulls in trees are all points on ways between, extreme points those that are not between the others, and
// the points that can be learnt next the leaves of what is left.
func TestHullsInTrees(t *testing.T) {
	for _, near := range netSamples() {
		if !isTreeOf(near) {
			continue
		}
		s, ok := impl.TreeSpace(impl.Net{Near: near})
		if !ok {
			t.Fatal(netText("TreeSpace fails for", near))
		}
		for set := range 1 << s.Items {
			wantNumber(t, askSet{"HullOf", impl.HullOf}, s, set, treeHullOf(near, set))
			extreme := 0
			for _, point := range pointsOf(set) {
				extreme |= 1 << point &^ treeHullOf(near, set-1<<point)
			}
			wantNumber(t, askSet{"ExtremeOf", impl.ExtremeOf}, s, set, extreme)
		}
		for _, set := range s.Sets {
			left, leaves := fullOf(s.Items)-set, 0
			for _, point := range pointsOf(left) {
				if sizeOf(near[point]&left) <= 1 {
					leaves += 1 << point
				}
			}
			wantNumber(t, askSet{"OuterFringe", impl.OuterFringe}, s, set, leaves)
		}
	}
}

func TestSpacesOfSomeTrees(t *testing.T) {
	for n := 1; n <= 7; n++ {
		s, ok := impl.TreeSpace(impl.Net{Near: rowNet(n)})
		wantSpace(t, fmt.Sprint("TreeSpace of a row of ", n), s, ok, lineOf(n), true)
		way, ok := impl.WayBetween(impl.Net{Near: rowNet(n)}, n-1, 0)
		wantCount(t, "WayBetween its ends", way, ok, fullOf(n))
		for middle := range n {
			g := impl.Net{Near: starNet(n, middle)}
			want := impl.Space{Items: n}
			for set := range 1 << n {
				if set>>middle&1 == 0 || n-sizeOf(set) <= 1 {
					want.Sets = append(want.Sets, set)
				}
			}
			s, ok := impl.TreeSpace(g)
			wantSpace(t, fmt.Sprint("TreeSpace of a star of ", n), s, ok, want, true)
			way, ok := impl.WayBetween(g, 0, n-1)
			wantCount(t, "WayBetween two points of a star", way, ok, 1|1<<middle|1<<(n-1))
		}
	}
}

// Nets that are not joined, and those with a ring, are no trees; as many lines as in a tree are not enough.
func TestNetsThatAreNoTrees(t *testing.T) {
	triangleApart := netOf(4, [][]int{{0, 1}, {1, 2}, {0, 2}})
	for _, near := range [][]int{{0, 0}, {2, 1, 0}, {6, 5, 3}, ringNet(4), ringNet(7), netOf(7, allPairs(7)), netOf(7, nil), triangleApart,
		netOf(7, [][]int{{0, 1}, {1, 2}, {0, 2}, {3, 4}, {4, 5}, {5, 6}})} {
		if isTreeOf(near) {
			t.Errorf("%v is a tree", near)
		}
		wantTree(t, near)
	}
}

func TestNetOfOnePoint(t *testing.T) {
	one := impl.Net{Near: []int{0}}
	if !impl.IsNet(one) {
		t.Error("IsNet fails")
	}
	is, ok := impl.IsTree(one)
	wantAnswer(t, "IsTree", is, ok, true)
	s, ok := impl.TreeSpace(one)
	wantSpace(t, "TreeSpace", s, ok, freeOf(1), true)
	way, ok := impl.WayBetween(one, 0, 0)
	wantCount(t, "WayBetween", way, ok, 1)
	for set := range 2 {
		simplicial, ok := impl.SimplicialOf(one, set)
		wantCount(t, "SimplicialOf", simplicial, ok, set)
	}
	is, ok = impl.IsElimination(one, []int{0})
	wantAnswer(t, "IsElimination", is, ok, true)
	is, ok = impl.IsElimination(one, nil)
	wantAnswer(t, "IsElimination of no points", is, ok, false)
	order, ok := impl.EliminationOf(one)
	wantWord(t, "EliminationOf", order, ok, []int{0}, true)
	s, ok = impl.ChordalSpace(one)
	wantSpace(t, "ChordalSpace", s, ok, freeOf(1), true)
}

func TestSimplicialOfByDefinition(t *testing.T) {
	for _, near := range append(netSamples(), nets(5)...) {
		for set := range 1 << len(near) {
			simplicial, ok := impl.SimplicialOf(impl.Net{Near: near}, set)
			wantCount(t, fmt.Sprint("SimplicialOf ", near, set), simplicial, ok, simplicialIn(near, set))
		}
	}
}

// wantEliminations compares what is told of eliminations with all orders of the points of a net.
func wantEliminations(t *testing.T, near []int, all [][]int) {
	t.Helper()
	g := impl.Net{Near: near}
	in := map[int]bool{0: true}
	var eliminations [][]int
	for _, order := range all {
		taken := takenIn(near, order)
		for _, set := range beginnings(taken) {
			in[set] = true
		}
		if len(taken) == len(near) {
			eliminations = append(eliminations, order)
		}
	}
	first, ok := impl.EliminationOf(g)
	s, fine := impl.ChordalSpace(g)
	if len(eliminations) == 0 {
		wantWord(t, netText("EliminationOf", near), first, ok, nil, false)
		wantSpace(t, netText("ChordalSpace", near), s, fine, impl.Space{}, false)
		return
	}
	wantWord(t, netText("EliminationOf", near), first, ok, slices.MinFunc(eliminations, slices.Compare[[]int]), true)
	want := impl.Space{Items: len(near), Sets: sortedKeys(in)}
	wantSpace(t, netText("ChordalSpace", near), s, fine, want, true)
	words, ok := impl.CountWords(s)
	wantCount(t, netText("CountWords of ChordalSpace", near), words, ok, len(eliminations))
	if !isDefined(s) {
		t.Errorf("ChordalSpace %v is no space: %s", near, textOf(s))
	}
}

func TestEliminationsByDefinition(t *testing.T) {
	var all [8][][]int
	for n := 1; n <= 7; n++ {
		all[n] = orders(n)
	}
	for _, near := range append(netSamples(), nets(5)...) {
		wantEliminations(t, near, all[len(near)])
	}
}

func TestIsEliminationByDefinition(t *testing.T) {
	c := chance(42)
	for _, near := range netSamples() {
		g := impl.Net{Near: near}
		lists := some(&c, orders(len(near)), 120)
		if first, ok := impl.EliminationOf(g); ok {
			point := first[0]
			lists = append(lists, first, first[:len(first)-1], first[1:], append(slices.Clone(first), point), append([]int{point}, first...))
			for i, number := range append(farNumbers(), len(near), 7, 8, 63, 64, 65) {
				changed := slices.Clone(first)
				changed[i%len(changed)] = number
				lists = append(lists, changed, append(slices.Clone(first), number))
			}
		}
		lists = append(lists, nil, []int{}, make([]int, len(near)), make([]int, 100000))
		for _, list := range lists {
			is, ok := impl.IsElimination(g, list)
			wantAnswer(t, fmt.Sprint("IsElimination ", near, list[:min(len(list), 9)]), is, ok, isEliminationOf(near, list))
		}
	}
}

// Promise 4: what can be taken away next are the simplicial points of what is left; in a tree these are the leaves.
func TestShellingsOfNets(t *testing.T) {
	for _, near := range netSamples() {
		if !canTakeAll(near, fullOf(len(near))) {
			continue
		}
		g := impl.Net{Near: near}
		s, ok := impl.ChordalSpace(g)
		if !ok {
			t.Fatal(netText("ChordalSpace fails for", near))
		}
		for _, set := range s.Sets {
			wantNumber(t, askSet{"OuterFringe", impl.OuterFringe}, s, set, simplicialIn(near, fullOf(s.Items)-set))
		}
		if tree, ok := impl.TreeSpace(g); ok {
			wantSpace(t, netText("ChordalSpace of a tree", near), s, true, tree, true)
		}
	}
}

// Rings of more than three points have no simplicial point; one that is beside a point that has been taken away has.
func TestNetsWithoutElimination(t *testing.T) {
	for n := 4; n <= 7; n++ {
		ring := ringNet(n)
		simplicial, ok := impl.SimplicialOf(impl.Net{Near: ring}, fullOf(n))
		wantCount(t, "SimplicialOf a ring", simplicial, ok, 0)
		simplicial, ok = impl.SimplicialOf(impl.Net{Near: ring}, fullOf(n-1))
		wantCount(t, "SimplicialOf a ring without a point", simplicial, ok, 1|1<<(n-2))
		all := orders(n)
		wantEliminations(t, ring, all)
		if first, ok := impl.EliminationOf(impl.Net{Near: ring}); ok {
			t.Errorf("EliminationOf a ring: %v", first)
		}
	}
	tailed := netOf(5, [][]int{{0, 1}, {1, 2}, {2, 3}, {3, 0}, {3, 4}})
	wantEliminations(t, tailed, orders(5))
	apart := netOf(7, [][]int{{0, 1}, {1, 2}, {2, 3}, {3, 0}, {4, 5}})
	wantEliminations(t, apart, orders(7))
}

func TestEliminationsOfSomeNets(t *testing.T) {
	for n := 1; n <= 7; n++ {
		increasing := pointsOf(fullOf(n))
		for _, near := range [][]int{netOf(n, nil), netOf(n, allPairs(n))} {
			s, ok := impl.ChordalSpace(impl.Net{Near: near})
			wantSpace(t, netText("ChordalSpace", near), s, ok, freeOf(n), true)
			first, ok := impl.EliminationOf(impl.Net{Near: near})
			wantWord(t, netText("EliminationOf", near), first, ok, increasing, true)
		}
		s, ok := impl.ChordalSpace(impl.Net{Near: rowNet(n)})
		wantSpace(t, "ChordalSpace of a row", s, ok, lineOf(n), true)
	}
	first, ok := impl.EliminationOf(impl.Net{Near: starNet(5, 0)})
	wantWord(t, "EliminationOf a star", first, ok, []int{1, 2, 3, 0, 4}, true)
	two := netOf(4, [][]int{{0, 1}, {0, 2}, {1, 2}, {1, 3}, {2, 3}})
	s, ok := impl.ChordalSpace(impl.Net{Near: two})
	want := impl.Space{Items: 4, Sets: []int{0, 1, 3, 5, 7, 8, 9, 10, 11, 12, 13, 14, 15}}
	wantSpace(t, "ChordalSpace of two triangles", s, ok, want, true)
}
