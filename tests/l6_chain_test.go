package tests

import (
	"fmt"
	"math"
	"slices"
	"testing"

	"loop.example/g01137/impl"
)

// turning is a space in which the path 9 gets the path 1 only because the path 7, which has it first, can get 2 as well.
var turning = impl.Space{Items: 4, Sets: []int{0, 1, 2, 3, 7, 9, 11, 15}}

func isBeside(a int, b int) bool { return !isPart(a, b) && !isPart(b, a) }

// isAntichainOf reports whether none of different sets has all items of another one.
func isAntichainOf(sets []int) bool {
	for i, a := range sets {
		if slices.ContainsFunc(sets[:i], func(b int) bool { return !isBeside(a, b) }) {
			return false
		}
	}
	return true
}

func areDifferent(list []int) bool { return len(marksOf(list)) == len(list) }

// isChainOf reports whether sets are Sets, each part of the next one.
func isChainOf(s impl.Space, sets []int) bool {
	for i, set := range sets {
		if !slices.Contains(s.Sets, set) || i > 0 && !isPart(sets[i-1], set) {
			return false
		}
	}
	return true
}

// greatestOf looks at the increasing lists of paths that are an antichain, in lexicographic order, and returns the first
// one of the longest. It leaves out those that can't get longer than the longest one before.
func greatestOf(paths []int) []int {
	var best []int
	var grow func(list []int, rest []int)
	grow = func(list []int, rest []int) {
		if len(list) > len(best) {
			best = slices.Clone(list)
		}
		for i, path := range rest {
			if len(list)+len(rest)-i <= len(best) {
				return
			}
			grow(append(list, path), slices.DeleteFunc(slices.Clone(rest[i+1:]), func(other int) bool { return !isBeside(path, other) }))
		}
	}
	grow(nil, paths)
	return best
}

// chainsOf puts paths into chains, as the document tells.
func chainsOf(paths []int) [][]int {
	follower := map[int]int{}
	var put func(path int, tried map[int]bool) bool
	put = func(path int, tried map[int]bool) bool {
		for _, part := range paths {
			if part == path || !isPart(part, path) || tried[part] {
				continue
			}
			tried[part] = true
			if other, taken := follower[part]; !taken || put(other, tried) {
				follower[part] = path
				return true
			}
		}
		return false
	}
	follows := map[int]bool{}
	for _, path := range paths {
		follows[path] = put(path, map[int]bool{})
	}
	var chains [][]int
	for _, path := range paths {
		if follows[path] {
			continue
		}
		chain := []int{path}
		for next, ok := follower[path]; ok; next, ok = follower[next] {
			chain = append(chain, next)
		}
		chains = append(chains, chain)
	}
	return chains
}

// firstThrough returns the first one of full words with some sets among those of its beginnings.
func firstThrough(words [][]int, sets []int) ([]int, bool) {
	for _, word := range words {
		if arePart(sets, beginnings(word)) {
			return word, true
		}
	}
	return nil, false
}

func TestExampleOfChapter6(t *testing.T) {
	s := impl.Space{Items: 3, Sets: []int{0, 1, 4, 5, 7}}
	paths, ok := impl.PathsOf(s)
	wantWord(t, "PathsOf", paths, ok, []int{1, 4, 7}, true)
	width, ok := impl.WidthOf(s)
	wantCount(t, "WidthOf", width, ok, 2)
	words, ok := impl.MakingWords(s)
	wantRows(t, "MakingWords", words, ok, [][]int{{0, 2, 1}, {2, 0, 1}})
	paths, ok = impl.PathsOf(freeOf(3))
	wantWord(t, "PathsOf all sets", paths, ok, []int{1, 2, 4}, true)
	width, ok = impl.WidthOf(freeOf(3))
	wantCount(t, "WidthOf all sets", width, ok, 3)
}

func wantIsAntichain(t *testing.T, s impl.Space, sets []int) {
	t.Helper()
	is, ok := impl.IsAntichain(s, sets)
	fine := len(sets) <= 40 && areDifferent(sets) && arePart(sets, s.Sets)
	if ok != fine || is != (fine && isAntichainOf(sets)) {
		t.Errorf("IsAntichain %s %v: %v %v", textOf(s), sets, is, ok)
	}
}

// All lists of up to 3 sets of items, of the Sets or not, different or not; longer ones of the Sets.
func TestIsAntichainByDefinition(t *testing.T) {
	for n := 1; n <= 3; n++ {
		for _, s := range spacesOf(n) {
			for length := range 4 {
				for _, list := range lists(length, 1<<n) {
					wantIsAntichain(t, s, list)
				}
			}
		}
	}
	c := chance(62)
	for _, s := range pathSamples() {
		wantIsAntichain(t, s, nil)
		for _, set := range s.Sets {
			wantIsAntichain(t, s, []int{set})
			wantIsAntichain(t, s, []int{set, set})
			wantIsAntichain(t, s, []int{set, s.Sets[c.below(len(s.Sets))]})
		}
		for size := range s.Items + 1 {
			alike := slices.DeleteFunc(slices.Clone(s.Sets), func(set int) bool { return sizeOf(set) != size })
			wantIsAntichain(t, s, alike)
			wantIsAntichain(t, s, append(alike, s.Sets[c.below(len(s.Sets))]))
		}
		wantIsAntichain(t, s, s.Sets)
		wantIsAntichain(t, s, allPathsIn(s))
	}
}

func TestIsAntichainAtItsLimit(t *testing.T) {
	s := freeOf(7)
	triples := slices.DeleteFunc(slices.Clone(s.Sets), func(set int) bool { return sizeOf(set) != 3 })
	is, ok := impl.IsAntichain(s, triples)
	wantAnswer(t, "IsAntichain of 35 sets", is, ok, true)
	is, ok = impl.IsAntichain(s, nil)
	wantAnswer(t, "IsAntichain of no sets", is, ok, true)
	for _, set := range []int{0, 5, 127} {
		is, ok = impl.IsAntichain(s, []int{set})
		wantAnswer(t, "IsAntichain of one set", is, ok, true)
	}
	is, ok = impl.IsAntichain(s, s.Sets[40:80])
	wantAnswer(t, "IsAntichain of 40 sets", is, ok, false)
	for _, sets := range [][]int{s.Sets[40:81], s.Sets, slices.Concat(triples, []int{1, 2, 4, 8, 16, 32}), slices.Repeat(triples, 2), {7, 7},
		{7, 11, 7}, make([]int, 40), make([]int, 100000)} {
		if is, ok := impl.IsAntichain(s, sets); is || ok {
			t.Errorf("IsAntichain %v: %v %v", sets, is, ok)
		}
	}
}

// Promise 6: no list of paths that is an antichain is longer, and none as long comes before.
func TestWidthsByDefinition(t *testing.T) {
	for _, s := range append(pathSamples(), turning) {
		want := greatestOf(allPathsIn(s))
		width, ok := impl.WidthOf(s)
		wantCount(t, "WidthOf "+textOf(s), width, ok, len(want))
		list, ok := impl.GreatestAntichain(s)
		wantWord(t, "GreatestAntichain "+textOf(s), list, ok, want, true)
		is, ok := impl.IsAntichain(s, list)
		wantAnswer(t, "IsAntichain of GreatestAntichain", is, ok, true)
	}
}

// The tests are worth what their own greatest antichain is: here no list is left out.
func TestGreatestOfAllLists(t *testing.T) {
	for _, s := range append(spacesOf(4), chapter3Example, turning, lineOf(5)) {
		paths := allPathsIn(s)
		var best []int
		for marks := range 1 << len(paths) {
			var list []int
			for i, path := range paths {
				if marks>>i&1 == 1 {
					list = append(list, path)
				}
			}
			if isAntichainOf(list) && (len(list) > len(best) || len(list) == len(best) && slices.Compare(list, best) < 0) {
				best = list
			}
		}
		if got := greatestOf(paths); !slices.Equal(got, best) {
			t.Errorf("%s: %v, want %v", textOf(s), got, best)
		}
	}
}

func TestWidthsOfSomeSpaces(t *testing.T) {
	for n := 1; n <= 7; n++ {
		c := chance(n)
		chain := impl.Space{Items: n, Sets: slices.Sorted(slices.Values(beginnings(c.order(n))))}
		singles := make([]int, n)
		for i := range n {
			singles[i] = 1 << i
		}
		for _, wide := range []struct {
			space impl.Space
			list  []int
		}{{chain, chain.Sets[1:2]}, {freeOf(n), singles}, {lineOf(n), []int{1, fullOf(n) - fullOf(n-1)}[:min(n, 2)]}} {
			width, ok := impl.WidthOf(wide.space)
			wantCount(t, "WidthOf "+textOf(wide.space), width, ok, len(wide.list))
			list, ok := impl.GreatestAntichain(wide.space)
			wantWord(t, "GreatestAntichain "+textOf(wide.space), list, ok, wide.list, true)
			fewest, ok := impl.FewestWords(wide.space)
			wantCount(t, "FewestWords "+textOf(wide.space), fewest, ok, len(wide.list))
		}
	}
	width, ok := impl.WidthOf(manyClauses())
	wantCount(t, "WidthOf many clauses", width, ok, 20)
	list, ok := impl.GreatestAntichain(chapter3Example)
	wantWord(t, "GreatestAntichain", list, ok, []int{1, 2}, true)
	list, ok = impl.GreatestAntichain(impl.Space{Items: 4, Sets: []int{0, 1, 3, 5, 7, 11, 15}})
	wantWord(t, "GreatestAntichain that leaves out the first path", list, ok, []int{3, 5}, true)
}

// Each path is in just one list, each one is part of the next one, and the lists are in the order of their first sets.
func wantChains(t *testing.T, s impl.Space, chains [][]int) {
	t.Helper()
	sorted := slices.IsSortedFunc(chains, func(a []int, b []int) int { return a[0] - b[0] })
	if all := slices.Concat(chains...); !sorted || !slices.Equal(slices.Sorted(slices.Values(all)), allPathsIn(s)) {
		t.Errorf("ChainsThrough %s: %v", textOf(s), chains)
	}
	for _, chain := range chains {
		if !isChainOf(s, chain) {
			t.Errorf("ChainsThrough %s: %v is no chain", textOf(s), chain)
		}
	}
}

// Promise 6: there are as many chains as the width.
func TestChainsByDefinition(t *testing.T) {
	for _, s := range append(pathSamples(), turning) {
		chains, ok := impl.ChainsThrough(s)
		wantRows(t, "ChainsThrough "+textOf(s), chains, ok, chainsOf(allPathsIn(s)))
		wantChains(t, s, chains)
		if width := len(greatestOf(allPathsIn(s))); len(chains) != width {
			t.Errorf("ChainsThrough %s: %d lists, want %d", textOf(s), len(chains), width)
		}
	}
}

func TestChainsOfSomeSpaces(t *testing.T) {
	for _, chained := range []struct {
		space  impl.Space
		chains [][]int
	}{
		{freeOf(1), [][]int{{1}}},
		{freeOf(3), [][]int{{1}, {2}, {4}}},
		{lineOf(3), [][]int{{1, 3}, {4, 6}}},
		{chapter3Example, [][]int{{1, 5}, {2, 6}}},
		{impl.Space{Items: 3, Sets: []int{0, 2, 6, 7}}, [][]int{{2, 6, 7}}},
		{impl.Space{Items: 3, Sets: []int{0, 1, 4, 5, 7}}, [][]int{{1, 7}, {4}}},
		{impl.Space{Items: 3, Sets: []int{0, 2, 3, 6, 7}}, [][]int{{2, 3}, {6}}},
		{turning, [][]int{{1, 9}, {2, 7}}},
		// 11 gets 1, and 7 the path 2, though 2 is free for 11 as well: 1 comes first.
		{impl.Space{Items: 4, Sets: unions([]int{1, 2, 7, 11})}, [][]int{{1, 11}, {2, 7}}},
		// 33 gets 1 from 11, which gets 2 from 22, which gets 4.
		{impl.Space{Items: 6, Sets: unions([]int{1, 2, 4, 11, 22, 33})}, [][]int{{1, 33}, {2, 11}, {4, 22}}},
		// 18 gets none, as 7 and 9 have no other ones.
		{impl.Space{Items: 5, Sets: unions([]int{1, 2, 7, 9, 18})}, [][]int{{1, 9}, {2, 7}, {18}}},
	} {
		chains, ok := impl.ChainsThrough(chained.space)
		wantRows(t, "ChainsThrough "+textOf(chained.space), chains, ok, chained.chains)
	}
}

// wantThrough compares WordThrough with all full words, which are in order.
func wantThrough(t *testing.T, s impl.Space, words [][]int, sets []int) {
	t.Helper()
	var want []int
	fine := isChainOf(s, sets) && len(sets) <= 40
	if fine {
		want, fine = firstThrough(words, sets)
		if !fine {
			t.Errorf("%s: no word through %v", textOf(s), sets)
		}
	}
	word, ok := impl.WordThrough(s, sets)
	wantWord(t, fmt.Sprint("WordThrough ", textOf(s), sets), word, ok, want, fine)
}

func TestWordThroughByDefinition(t *testing.T) {
	for n := 1; n <= 4; n++ {
		for _, s := range spacesOf(n) {
			words := fullWordsOf(s)
			for length := range 7 - n {
				for _, list := range lists(length, 1<<n) {
					wantThrough(t, s, words, list)
				}
			}
		}
	}
}

// someOf returns some elements of a list, in their order.
func (c *chance) someOf(list []int) []int {
	return slices.DeleteFunc(slices.Clone(list), func(int) bool { return c.below(3) == 0 })
}

func TestWordThroughBeginnings(t *testing.T) {
	c := chance(63)
	for _, s := range pathSamples() {
		words := fullWordsOf(s)
		for _, word := range some(&c, words, 20) {
			all := beginnings(word)
			through, ok := impl.WordThrough(s, all)
			wantWord(t, fmt.Sprint("WordThrough ", textOf(s), all), through, ok, word, true)
			sets := c.someOf(all)
			wantThrough(t, s, words, sets)
			sets = append(sets, sets...)
			slices.Sort(sets)
			wantThrough(t, s, words, sets)
			if len(sets) > 0 {
				sets[c.below(len(sets))] = s.Sets[c.below(len(s.Sets))]
				wantThrough(t, s, words, sets)
			}
		}
	}
}

// What is asked for beside what is learnt first: nothing, all, the same set again, sets that are in no chain.
func TestWordThroughOfSomeLists(t *testing.T) {
	s := chapter3Example
	for _, through := range []struct {
		sets, word []int
		ok         bool
	}{
		{nil, []int{0, 1, 2}, true},
		{[]int{}, []int{0, 1, 2}, true},
		{[]int{0}, []int{0, 1, 2}, true},
		{[]int{7}, []int{0, 1, 2}, true},
		{[]int{0, 7}, []int{0, 1, 2}, true},
		{[]int{0, 0, 7, 7}, []int{0, 1, 2}, true},
		{[]int{5}, []int{0, 2, 1}, true},
		{[]int{2}, []int{1, 0, 2}, true},
		{[]int{6}, []int{1, 2, 0}, true},
		{[]int{6, 6}, []int{1, 2, 0}, true},
		{[]int{0, 2, 6, 7}, []int{1, 2, 0}, true},
		{[]int{1, 2}, nil, false},
		{[]int{1, 6}, nil, false},
		{[]int{5, 1}, nil, false},
		{[]int{1, 5, 1}, nil, false},
		{[]int{7, 0}, nil, false},
		{[]int{4}, nil, false},
		{[]int{4, 7}, nil, false},
		{[]int{8}, nil, false},
		{[]int{-1}, nil, false},
		{[]int{7, 15}, nil, false},
		{[]int{math.MinInt, 1}, nil, false},
	} {
		word, ok := impl.WordThrough(s, through.sets)
		wantWord(t, fmt.Sprint("WordThrough ", through.sets), word, ok, through.word, through.ok)
	}
	word, ok := impl.WordThrough(freeOf(1), []int{1})
	wantWord(t, "WordThrough of one item", word, ok, []int{0}, true)
}

func TestWordThroughAtItsLimit(t *testing.T) {
	for n := 1; n <= 7; n++ {
		c := chance(n)
		order := c.order(n)
		sets := slices.Sorted(slices.Values(slices.Repeat(beginnings(order), 40)))
		slices.SortFunc(sets, func(a int, b int) int { return sizeOf(a) - sizeOf(b) })
		first, last := sets[:40], sets[len(sets)-40:]
		word, ok := impl.WordThrough(freeOf(n), append(slices.Clone(first[n:]), beginnings(order)[1:]...))
		wantWord(t, "WordThrough of 40 sets", word, ok, order, true)
		word, ok = impl.WordThrough(freeOf(n), append(beginnings(order)[:n], last[n:]...))
		wantWord(t, "WordThrough of 40 sets", word, ok, order, true)
		for _, many := range [][]int{make([]int, 41), append(slices.Clone(first), 0), append([]int{0}, last...), sets, make([]int, 100000)} {
			if word, ok := impl.WordThrough(freeOf(n), many); ok || len(word) > 0 {
				t.Errorf("WordThrough of %d sets: %v %v", len(many), word, ok)
			}
		}
	}
}
