package tests

import (
	"fmt"
	"math/bits"
	"slices"
	"testing"

	"loop.example/g01137/impl"
)

// chapter3Example has the item 2 as the end of two paths.
var chapter3Example = impl.Space{Items: 3, Sets: []int{0, 1, 2, 3, 5, 6, 7}}

// manyClauses returns a space of 7 items with 35 paths: of 0..4 each is free, 5 asks for any two and 6 for any three.
func manyClauses() impl.Space {
	s := impl.Space{Items: 7}
	for set := range 128 {
		free := bits.OnesCount(uint(set & 31))
		if (set>>5&1 == 0 || free >= 2) && (set>>6&1 == 0 || free >= 3 || free == 2 && set>>5&1 == 1) {
			s.Sets = append(s.Sets, set)
		}
	}
	return s
}

// pathSamples are spaces of an order and others, with items that are the end of one path and of several.
func pathSamples() []impl.Space {
	return append(samples(), manyClauses(), with200, with201)
}

// endIn returns the end of a path; it fails if a set is none.
func endIn(s impl.Space, set int) (int, bool) {
	in := marksOf(s.Sets)
	inner := innerOf(s.Items, in, set)
	if !in[set] || bits.OnesCount(uint(inner)) != 1 {
		return 0, false
	}
	return bits.TrailingZeros(uint(inner)), true
}

// pathsIn returns those paths of a space that keep accepts, told with their ends.
func pathsIn(s impl.Space, keep func(path int, end int) bool) []int {
	var paths []int
	for _, set := range s.Sets {
		if end, ok := endIn(s, set); ok && keep(set, end) {
			paths = append(paths, set)
		}
	}
	return paths
}

func allPathsIn(s impl.Space) []int {
	return pathsIn(s, func(int, int) bool { return true })
}

func pathsInTo(s impl.Space, item int) []int {
	return pathsIn(s, func(_ int, end int) bool { return end == item })
}

// endsOfMany returns how many items are ends of more than one path.
func endsOfMany(s impl.Space) int {
	count := 0
	for item := range s.Items {
		if len(pathsInTo(s, item)) > 1 {
			count++
		}
	}
	return count
}

func clausesIn(s impl.Space) [][]int {
	var clauses [][]int
	for item := range s.Items {
		for _, path := range pathsInTo(s, item) {
			clauses = append(clauses, []int{item, path - 1<<item})
		}
	}
	return clauses
}

func wantRows(t *testing.T, what string, got [][]int, ok bool, want [][]int) {
	t.Helper()
	if !ok || !sameWords(got, want) {
		t.Errorf("%s: %v %v, want %v", what, got, ok, want)
	}
}

func TestExampleOfChapter3(t *testing.T) {
	s := chapter3Example
	paths, ok := impl.PathsOf(s)
	wantWord(t, "PathsOf", paths, ok, []int{1, 2, 5, 6}, true)
	count, ok := impl.DifferentEnds(s)
	wantCount(t, "DifferentEnds", count, ok, 1)
	paths, ok = impl.PathsTo(s, 2)
	wantWord(t, "PathsTo", paths, ok, []int{5, 6}, true)
	clauses, ok := impl.ClausesOf(s)
	wantRows(t, "ClausesOf", clauses, ok, [][]int{{0, 0}, {1, 0}, {2, 1}, {2, 2}})
}

// Promise 3: each set is the union of its paths.
func TestEachSetIsUnionOfItsPaths(t *testing.T) {
	for _, s := range pathSamples() {
		for _, set := range s.Sets {
			paths, ok := impl.PathsWithin(s, set)
			union := 0
			for _, path := range paths {
				is, fine := impl.IsPath(s, path)
				if !is || !fine || !isPart(path, set) {
					t.Errorf("PathsWithin %s %d has %d", textOf(s), set, path)
				}
				union |= path
			}
			if !ok || union != set {
				t.Errorf("PathsWithin %s %d: %v %v", textOf(s), set, paths, ok)
			}
		}
	}
}

// Promise 3: paths and clauses make the space again, in any order and more than once.
func TestPathsAndClausesMakeTheSpaceAgain(t *testing.T) {
	c := chance(31)
	for _, s := range pathSamples() {
		paths, ok := impl.PathsOf(s)
		clauses, fine := impl.ClausesOf(s)
		if !ok || !fine || len(paths) != len(clauses) {
			t.Errorf("%s has the paths %v %v and the clauses %v %v", textOf(s), paths, ok, clauses, fine)
		}
		var mixedPaths []int
		var mixedClauses [][]int
		for _, place := range c.order(len(paths)) {
			mixedPaths = append(mixedPaths, paths[place])
			mixedClauses = append(mixedClauses, clauses[place])
		}
		mixedPaths = append(mixedPaths, paths[0])
		mixedClauses = append(mixedClauses, clauses[0])
		for _, list := range [][]int{paths, mixedPaths} {
			made, ok := impl.SpaceOfPaths(s.Items, list)
			wantSpace(t, fmt.Sprint("SpaceOfPaths ", list), made, ok, s, true)
		}
		for _, rows := range [][][]int{clauses, mixedClauses} {
			made, ok := impl.SpaceOfClauses(s.Items, rows)
			wantSpace(t, fmt.Sprint("SpaceOfClauses ", rows), made, ok, s, true)
		}
	}
}

// No path can do without another one: the others do not make the space.
func TestNoPathIsLeftOut(t *testing.T) {
	for _, s := range pathSamples() {
		paths, clauses := allPathsIn(s), clausesIn(s)
		for i := range paths {
			made, ok := impl.SpaceOfPaths(s.Items, slices.Delete(slices.Clone(paths), i, i+1))
			if ok && sameSpace(made, s) {
				t.Errorf("SpaceOfPaths %s without %d", textOf(s), paths[i])
			}
			made, ok = impl.SpaceOfClauses(s.Items, slices.Delete(slices.Clone(clauses), i, i+1))
			if ok && sameSpace(made, s) {
				t.Errorf("SpaceOfClauses %s without %v", textOf(s), clauses[i])
			}
		}
	}
}

func TestPathsByDefinition(t *testing.T) {
	for _, s := range pathSamples() {
		paths, ok := impl.PathsOf(s)
		wantWord(t, "PathsOf "+textOf(s), paths, ok, allPathsIn(s), true)
		for set := range 1 << s.Items {
			end, want := endIn(s, set)
			is, ok := impl.IsPath(s, set)
			wantAnswer(t, fmt.Sprint("IsPath ", textOf(s), set), is, ok, want)
			got, ok := impl.EndOf(s, set)
			if ok != want || got != end {
				t.Errorf("EndOf %s %d: %d %v, want %d %v", textOf(s), set, got, ok, end, want)
			}
		}
		for _, set := range s.Sets {
			within, ok := impl.PathsWithin(s, set)
			want := pathsIn(s, func(path int, _ int) bool { return isPart(path, set) })
			wantWord(t, fmt.Sprint("PathsWithin ", textOf(s), set), within, ok, want, true)
		}
		for item := range s.Items {
			paths, ok := impl.PathsTo(s, item)
			wantWord(t, fmt.Sprint("PathsTo ", textOf(s), item), paths, ok, pathsInTo(s, item), true)
			if len(paths) == 0 {
				t.Errorf("PathsTo %s %d: none", textOf(s), item)
			}
		}
		clauses, ok := impl.ClausesOf(s)
		wantRows(t, "ClausesOf "+textOf(s), clauses, ok, clausesIn(s))
	}
}

func TestNumbersOfPathsByDefinition(t *testing.T) {
	for _, s := range pathSamples() {
		longest := 0
		for _, path := range allPathsIn(s) {
			longest = max(longest, bits.OnesCount(uint(path)))
		}
		got, ok := impl.LongestPath(s)
		wantCount(t, "LongestPath "+textOf(s), got, ok, longest)
		got, ok = impl.DifferentEnds(s)
		wantCount(t, "DifferentEnds "+textOf(s), got, ok, endsOfMany(s))
	}
}

func TestManyClauses(t *testing.T) {
	s := manyClauses()
	count, ok := impl.DifferentEnds(s)
	wantCount(t, "DifferentEnds", count, ok, 2)
	for item, want := range []int{1, 1, 1, 1, 1, 10, 20} {
		paths, ok := impl.PathsTo(s, item)
		wantCount(t, fmt.Sprint("PathsTo ", item), len(paths), ok, want)
	}
	longest, ok := impl.LongestPath(s)
	wantCount(t, "LongestPath", longest, ok, 4)
}

// An item may ask for nothing, and for nothing but one that does so.
func TestPathsOfFreeSpacesAndChains(t *testing.T) {
	for n := 1; n <= 7; n++ {
		c := chance(n)
		order := c.order(n)
		sets := beginnings(order)
		chain := impl.Space{Items: n, Sets: slices.Sorted(slices.Values(sets))}
		wantFree, wantChain := [][]int{}, make([][]int, n)
		for item := range n {
			wantFree = append(wantFree, []int{item, 0})
			wantChain[order[item]] = []int{order[item], sets[item]}
		}
		clauses, ok := impl.ClausesOf(freeOf(n))
		wantRows(t, fmt.Sprint("ClausesOf all sets of ", n), clauses, ok, wantFree)
		clauses, ok = impl.ClausesOf(chain)
		wantRows(t, fmt.Sprint("ClausesOf the chain ", order), clauses, ok, wantChain)
		longest, ok := impl.LongestPath(freeOf(n))
		wantCount(t, "LongestPath of all sets", longest, ok, 1)
		longest, ok = impl.LongestPath(chain)
		wantCount(t, "LongestPath of a chain", longest, ok, n)
		for _, s := range []impl.Space{freeOf(n), chain} {
			is, ok := impl.IsOrderSpace(s)
			wantAnswer(t, "IsOrderSpace "+textOf(s), is, ok, true)
			count, ok := impl.DifferentEnds(s)
			wantCount(t, "DifferentEnds "+textOf(s), count, ok, 0)
		}
	}
}

// In the space of a line each item but the first and the last one is the end of two paths: from the left and the right.
func TestPathsOfLines(t *testing.T) {
	for n := 1; n <= 7; n++ {
		count, ok := impl.DifferentEnds(lineOf(n))
		wantCount(t, fmt.Sprint("DifferentEnds of the line ", n), count, ok, max(n-2, 0))
		is, ok := impl.IsOrderSpace(lineOf(n))
		wantAnswer(t, fmt.Sprint("IsOrderSpace of the line ", n), is, ok, n <= 2)
	}
}

func TestPathsOfOneItem(t *testing.T) {
	one := freeOf(1)
	paths, ok := impl.PathsOf(one)
	wantWord(t, "PathsOf", paths, ok, []int{1}, true)
	is, ok := impl.IsPath(one, 0)
	wantAnswer(t, "IsPath of no items", is, ok, false)
	is, ok = impl.IsPath(one, 1)
	wantAnswer(t, "IsPath", is, ok, true)
	end, ok := impl.EndOf(one, 1)
	wantCount(t, "EndOf", end, ok, 0)
	paths, ok = impl.PathsTo(one, 0)
	wantWord(t, "PathsTo", paths, ok, []int{1}, true)
	paths, ok = impl.PathsWithin(one, 0)
	wantWord(t, "PathsWithin no items", paths, ok, nil, true)
	paths, ok = impl.PathsWithin(one, 1)
	wantWord(t, "PathsWithin", paths, ok, []int{1}, true)
	made, ok := impl.SpaceOfPaths(1, []int{1})
	wantSpace(t, "SpaceOfPaths", made, ok, one, true)
	clauses, ok := impl.ClausesOf(one)
	wantRows(t, "ClausesOf", clauses, ok, [][]int{{0, 0}})
	made, ok = impl.SpaceOfClauses(1, [][]int{{0, 0}})
	wantSpace(t, "SpaceOfClauses", made, ok, one, true)
	is, ok = impl.IsOrderSpace(one)
	wantAnswer(t, "IsOrderSpace", is, ok, true)
	covers, ok := impl.CoversOf(one)
	wantRows(t, "CoversOf", covers, ok, [][]int{{0, 1}})
	critical, ok := impl.CriticalOf(one)
	wantRows(t, "CriticalOf", critical, ok, nil)
	is, ok = impl.CanLearn(one, 0, 0)
	wantAnswer(t, "CanLearn", is, ok, true)
	count, ok := impl.DifferentEnds(one)
	wantCount(t, "DifferentEnds", count, ok, 0)
	longest, ok := impl.LongestPath(one)
	wantCount(t, "LongestPath", longest, ok, 1)
}

// arePathsToMake reports whether SpaceOfPaths has a result, as the document tells.
func arePathsToMake(n int, paths []int) bool {
	if n < 1 || n > 7 || len(paths) > 60 {
		return false
	}
	all := 0
	for _, path := range paths {
		if path < 0 || path >= 1<<n {
			return false
		}
		all |= path
	}
	return all == 1<<n-1 && !slices.ContainsFunc(paths, func(path int) bool { return !isEndedIn(n, paths, path) })
}

// isEndedIn reports whether a set is, for some item of it, this item with all of paths within it that do not have it.
func isEndedIn(n int, paths []int, path int) bool {
	for item := range n {
		union := 1 << item
		for _, part := range paths {
			if isPart(part, path) && part>>item&1 == 0 {
				union |= part
			}
		}
		if path>>item&1 == 1 && union == path {
			return true
		}
	}
	return false
}

func wantSpaceOfPaths(t *testing.T, n int, paths []int) {
	t.Helper()
	want, fine := impl.Space{}, arePathsToMake(n, paths)
	if fine {
		want = impl.Space{Items: n, Sets: unions(paths)}
	}
	got, ok := impl.SpaceOfPaths(n, paths)
	wantSpace(t, fmt.Sprint("SpaceOfPaths ", n, paths), got, ok, want, fine)
	if fine && !isDefined(got) {
		t.Errorf("SpaceOfPaths %d %v is no space: %s", n, paths, textOf(got))
	}
}

func TestSpaceOfPathsByDefinition(t *testing.T) {
	for n := 1; n <= 4; n++ {
		for _, f := range families(n) {
			wantSpaceOfPaths(t, n, f.Sets)
		}
	}
	c := chance(32)
	for _, s := range pathSamples() {
		paths := allPathsIn(s)
		for range 3 {
			changed := slices.Clone(paths)
			changed[c.below(len(paths))] = c.below(1 << s.Items)
			wantSpaceOfPaths(t, s.Items, changed)
			wantSpaceOfPaths(t, s.Items, append(changed, c.below(1<<s.Items), c.below(1<<s.Items)))
		}
		wantSpaceOfPaths(t, s.Items, slices.Delete(slices.Clone(paths), 0, 1))
		wantSpaceOfPaths(t, min(s.Items+1, 7), paths)
		if len(s.Sets) <= 61 {
			wantSpaceOfPaths(t, s.Items, s.Sets[1:])
		}
	}
}

// The set of no items has no item with which it could be made.
func TestSpaceOfPathsWithNoItems(t *testing.T) {
	for _, s := range pathSamples() {
		got, ok := impl.SpaceOfPaths(s.Items, append([]int{0}, allPathsIn(s)...))
		wantSpace(t, "SpaceOfPaths with 0 and those of "+textOf(s), got, ok, impl.Space{}, false)
	}
}

func TestSpaceOfPathsAtItsLimit(t *testing.T) {
	var sets []int
	for set := 1; set <= 61; set++ {
		sets = append(sets, set)
	}
	got, ok := impl.SpaceOfPaths(6, sets[:60])
	wantSpace(t, "SpaceOfPaths of 60", got, ok, freeOf(6), true)
	got, ok = impl.SpaceOfPaths(6, sets)
	wantSpace(t, "SpaceOfPaths of 61", got, ok, impl.Space{}, false)
	for _, s := range pathSamples() {
		paths := allPathsIn(s)
		paths = append(paths, slices.Repeat(paths[:1], 60-len(paths))...)
		got, ok = impl.SpaceOfPaths(s.Items, paths)
		wantSpace(t, "SpaceOfPaths of 60, some of them equal", got, ok, s, true)
		got, ok = impl.SpaceOfPaths(s.Items, append(paths, paths[0]))
		wantSpace(t, "SpaceOfPaths of 61, some of them equal", got, ok, impl.Space{}, false)
	}
}

// allClauses returns all clauses of n items.
func allClauses(n int) [][]int {
	var clauses [][]int
	for item := range n {
		for set := range 1 << n {
			if set>>item&1 == 0 {
				clauses = append(clauses, []int{item, set})
			}
		}
	}
	return clauses
}

// learntIn returns the sets of the beginnings of an order in which each item is learnt by one of clauses.
func learntIn(clauses [][]int, order []int) []int {
	sets := []int{0}
	for _, item := range order {
		known := sets[len(sets)-1]
		if !slices.ContainsFunc(clauses, func(clause []int) bool { return clause[0] == item && isPart(clause[1], known) }) {
			break
		}
		sets = append(sets, known+1<<item)
	}
	return sets
}

func wantSpaceOfClauses(t *testing.T, n int, all [][]int, clauses [][]int) {
	t.Helper()
	in := map[int]bool{}
	for _, order := range all {
		for _, set := range learntIn(clauses, order) {
			in[set] = true
		}
	}
	want, fine := impl.Space{}, in[1<<n-1]
	if fine {
		want = impl.Space{Items: n, Sets: sortedKeys(in)}
	}
	got, ok := impl.SpaceOfClauses(n, clauses)
	wantSpace(t, fmt.Sprint("SpaceOfClauses ", n, clauses), got, ok, want, fine)
	if fine && !isDefined(got) {
		t.Errorf("SpaceOfClauses %d %v is no space: %s", n, clauses, textOf(got))
	}
}

func TestSpaceOfClausesByDefinition(t *testing.T) {
	for n := 1; n <= 3; n++ {
		all, clauses := orders(n), allClauses(n)
		for marks := range 1 << len(clauses) {
			wantSpaceOfClauses(t, n, all, chosen(clauses, marks))
		}
	}
	c := chance(33)
	for n := 4; n <= 7; n++ {
		all, clauses := orders(n), allClauses(n)
		for range 8000 / len(all) {
			var given [][]int
			for range n + c.below(2*n) {
				given = append(given, clauses[c.below(len(clauses))])
			}
			wantSpaceOfClauses(t, n, all, given)
			// With an item that asks for nothing, others can be learnt.
			given = append(given, []int{c.below(n), 0}, []int{c.below(n), 0}, []int{c.below(n), 1 << c.below(n)})
			last := given[len(given)-1]
			last[1] &^= 1 << last[0]
			wantSpaceOfClauses(t, n, all, given)
		}
	}
}

func TestSpaceOfClausesAtItsLimit(t *testing.T) {
	for n := 1; n <= 7; n++ {
		clauses := allClauses(n)
		slices.SortStableFunc(clauses, func(a []int, b []int) int { return a[1] - b[1] })
		for len(clauses) < 61 {
			clauses = append(clauses, clauses[len(clauses)%3%n])
		}
		got, ok := impl.SpaceOfClauses(n, clauses[:60])
		wantSpace(t, "SpaceOfClauses of 60", got, ok, freeOf(n), true)
		got, ok = impl.SpaceOfClauses(n, clauses[:61])
		wantSpace(t, "SpaceOfClauses of 61", got, ok, impl.Space{}, false)
	}
}

// Items that ask for each other, or for what can never be learnt, can never be learnt.
func TestItemsThatCanNeverBeLearnt(t *testing.T) {
	for _, clauses := range [][][]int{nil, {}, {{0, 0}}, {{1, 0}, {2, 0}}, {{0, 0}, {1, 4}, {2, 2}}, {{0, 6}, {1, 5}, {2, 3}},
		{{0, 2}, {1, 4}, {2, 1}}, {{0, 0}, {1, 1}}, {{0, 0}, {1, 0}, {1, 1}, {1, 4}}, {{0, 4}, {1, 4}, {2, 3}, {2, 1}, {2, 2}}} {
		got, ok := impl.SpaceOfClauses(3, clauses)
		wantSpace(t, fmt.Sprint("SpaceOfClauses ", clauses), got, ok, impl.Space{}, false)
	}
	got, ok := impl.SpaceOfClauses(3, [][]int{{2, 2}, {0, 6}, {0, 2}, {1, 0}, {1, 5}})
	wantSpace(t, "SpaceOfClauses", got, ok, impl.Space{Items: 3, Sets: []int{0, 2, 3, 6, 7}}, true)
}

// hasMeets reports whether what two of the Sets have in common is always one of them.
func hasMeets(s impl.Space) bool {
	in := marksOf(s.Sets)
	for _, a := range s.Sets {
		for _, b := range s.Sets {
			if !in[a&b] {
				return false
			}
		}
	}
	return true
}

func TestIsOrderSpaceByDefinition(t *testing.T) {
	for n := 1; n <= 4; n++ {
		var pairs [][]int
		for i := range n {
			for j := range n {
				if i != j {
					pairs = append(pairs, []int{i, j})
				}
			}
		}
		ordered := map[string]bool{}
		for marks := range 1 << len(pairs) {
			if s, ok := impl.OrderSpace(n, chosen(pairs, marks)); ok {
				ordered[textOf(s)] = true
			}
		}
		for _, s := range spacesOf(n) {
			is, ok := impl.IsOrderSpace(s)
			wantAnswer(t, "IsOrderSpace "+textOf(s), is, ok, ordered[textOf(s)])
		}
	}
	for _, s := range pathSamples() {
		is, ok := impl.IsOrderSpace(s)
		wantAnswer(t, "IsOrderSpace "+textOf(s), is, ok, hasMeets(s))
		wantAnswer(t, "one end each "+textOf(s), is, ok, endsOfMany(s) == 0)
	}
}

func coversIn(s impl.Space) [][]int {
	var covers [][]int
	for _, a := range s.Sets {
		for _, b := range s.Sets {
			if isPart(a, b) && bits.OnesCount(uint(b-a)) == 1 {
				covers = append(covers, []int{a, b})
			}
		}
	}
	return covers
}

func criticalIn(s impl.Space) [][]int {
	in := marksOf(s.Sets)
	canLearn := func(set int, item int) bool { return set>>item&1 == 0 && in[set+1<<item] }
	var critical [][]int
	for item := range s.Items {
		for _, set := range s.Sets {
			is := set>>item&1 == 0 && !canLearn(set, item)
			for other := range s.Items {
				is = is && (!canLearn(set, other) || canLearn(set+1<<other, item))
			}
			if is {
				critical = append(critical, []int{item, set})
			}
		}
	}
	return critical
}

func TestPairsByDefinition(t *testing.T) {
	for _, s := range pathSamples() {
		covers, ok := impl.CoversOf(s)
		wantRows(t, "CoversOf "+textOf(s), covers, ok, coversIn(s))
		critical, ok := impl.CriticalOf(s)
		wantRows(t, "CriticalOf "+textOf(s), critical, ok, criticalIn(s))
	}
}

func TestPairsOfSomeSpaces(t *testing.T) {
	covers, ok := impl.CoversOf(chapter3Example)
	wantRows(t, "CoversOf", covers, ok, [][]int{{0, 1}, {0, 2}, {1, 3}, {1, 5}, {2, 3}, {2, 6}, {3, 7}, {5, 7}, {6, 7}})
	critical, ok := impl.CriticalOf(chapter3Example)
	wantRows(t, "CriticalOf", critical, ok, [][]int{{2, 0}})
	critical, ok = impl.CriticalOf(impl.Space{Items: 3, Sets: []int{0, 1, 3, 7}})
	wantRows(t, "CriticalOf a chain", critical, ok, [][]int{{1, 0}, {2, 1}})
	critical, ok = impl.CriticalOf(impl.Space{Items: 3, Sets: []int{0, 1, 2, 3, 7}})
	wantRows(t, "CriticalOf two items that are asked for", critical, ok, [][]int{{2, 1}, {2, 2}})
	critical, ok = impl.CriticalOf(freeOf(7))
	wantRows(t, "CriticalOf all sets", critical, ok, nil)
}

func TestCanLearnByDefinition(t *testing.T) {
	for _, s := range pathSamples() {
		in := marksOf(s.Sets)
		for _, set := range s.Sets {
			for item := range s.Items {
				can, ok := impl.CanLearn(s, set, item)
				if set>>item&1 == 0 {
					wantAnswer(t, fmt.Sprint("CanLearn ", textOf(s), set, item), can, ok, in[set+1<<item])
				} else if can || ok {
					t.Errorf("CanLearn %s %d %d, which is known: %v %v", textOf(s), set, item, can, ok)
				}
			}
		}
	}
}
