package tests

import (
	"fmt"
	"slices"
	"testing"

	"loop.example/g01137/impl"
)

func compareSpaces(a impl.Space, b impl.Space) int { return slices.Compare(a.Sets, b.Sets) }

// inOrder returns all spaces of n items, n at most 4, in order.
func inOrder(n int) []impl.Space {
	all := spacesOf(n)
	slices.SortFunc(all, compareSpaces)
	return all
}

// renamedIn returns a space with the item names[i] for each i.
func renamedIn(s impl.Space, names []int) impl.Space {
	in := map[int]bool{}
	for _, set := range s.Sets {
		renamed := 0
		for _, item := range pointsOf(set) {
			renamed += 1 << names[item]
		}
		in[renamed] = true
	}
	return impl.Space{Items: s.Items, Sets: sortedKeys(in)}
}

// alikeWith returns what each way to give the items other names, or the same ones, makes of a space, in order.
func alikeWith(s impl.Space) []impl.Space {
	var all []impl.Space
	for _, names := range orders(s.Items) {
		all = append(all, renamedIn(s, names))
	}
	slices.SortFunc(all, compareSpaces)
	return all
}

// sizesIn returns how many of some sets have 0, 1, .., n items.
func sizesIn(n int, sets []int) []int {
	sizes := make([]int, n+1)
	for _, set := range sets {
		sizes[sizeOf(set)]++
	}
	return sizes
}

// fewItems are spaces of at most 5 items: all of at most 4, and some of 5 with other names, too.
func fewItems() []impl.Space {
	c := chance(110)
	var all []impl.Space
	for _, s := range samples() {
		if s.Items <= 5 {
			all = append(all, s)
		}
	}
	for i := range 30 {
		s := madeSpace(&c, 5, 1+i%6)
		all = append(all, s, renamedIn(s, c.order(5)))
	}
	return all
}

func TestExampleOfChapter9(t *testing.T) {
	all, ok := impl.AllSpaces(2)
	var texts []string
	for _, s := range all {
		texts = append(texts, textOf(s))
	}
	if !ok || !slices.Equal(texts, []string{"2:0,1,2,3", "2:0,1,3", "2:0,2,3"}) {
		t.Errorf("AllSpaces(2): %v %v", texts, ok)
	}
	s, ok := impl.SpaceAt(2, 1)
	wantSpace(t, "SpaceAt(2, 1)", s, ok, impl.Space{Items: 2, Sets: []int{0, 1, 3}}, true)
	var convex []int
	for set := range 4 {
		if is, ok := impl.IsConvex(s, set); is && ok {
			convex = append(convex, set)
		}
	}
	if !slices.Equal(convex, []int{0, 2, 3}) {
		t.Errorf("convex sets: %v", convex)
	}
	free, ok := impl.FreeSets(s)
	wantWord(t, "FreeSets", free, ok, []int{0, 2}, true)
	extreme, ok := impl.ExtremeOf(s, 3)
	wantCount(t, "ExtremeOf 3", extreme, ok, 1)
}

func TestAllSpacesByDefinition(t *testing.T) {
	for n := 1; n <= 3; n++ {
		all, ok := impl.AllSpaces(n)
		if !ok || !slices.EqualFunc(all, inOrder(n), sameSpace) {
			t.Errorf("AllSpaces(%d): %v %v", n, all, ok)
		}
		for i, s := range all {
			if !impl.IsSpace(s) {
				t.Errorf("AllSpaces(%d): no space: %v", n, s)
			}
			if i > 0 && slices.Compare(all[i-1].Sets, s.Sets) >= 0 {
				t.Errorf("AllSpaces(%d): %s behind %s", n, textOf(s), textOf(all[i-1]))
			}
		}
	}
}

// upToNames returns how many spaces are left if of all that are alike just one is.
func upToNames(spaces []impl.Space) int {
	count := 0
	seen := map[string]bool{}
	for _, s := range spaces {
		if !seen[textOf(s)] {
			count++
		}
		for _, other := range alikeWith(s) {
			seen[textOf(other)] = true
		}
	}
	return count
}

func TestCountsOfSpaces(t *testing.T) {
	for i, want := range []int{1, 3, 22, 485} {
		count, ok := impl.CountSpaces(i + 1)
		wantCount(t, fmt.Sprint("CountSpaces ", i+1), count, ok, want)
		if all, ok := impl.AllSpaces(i + 1); ok && len(all) != want {
			t.Errorf("AllSpaces(%d) has %d spaces", i+1, len(all))
		}
	}
	for i, want := range []int{1, 2, 6, 34} {
		count, ok := impl.CountUpToNames(i + 1)
		wantCount(t, fmt.Sprint("CountUpToNames ", i+1), count, ok, want)
		if counted := upToNames(spacesOf(i + 1)); counted != want {
			t.Errorf("by the definition there are %d", counted)
		}
	}
}

// Promise 9: spaces are counted and ranked, and a rank tells its space.
func TestRanksOfSpaces(t *testing.T) {
	for n := 1; n <= 3; n++ {
		all := inOrder(n)
		for i, want := range all {
			s, ok := impl.SpaceAt(n, i)
			wantSpace(t, fmt.Sprintf("SpaceAt(%d, %d)", n, i), s, ok, want, true)
			rank, ok := impl.RankSpace(want)
			wantCount(t, "RankSpace "+textOf(want), rank, ok, i)
		}
		for _, rank := range append(farNumbers(), len(all), len(all)+1) {
			s, ok := impl.SpaceAt(n, rank)
			wantSpace(t, fmt.Sprintf("SpaceAt(%d, %d)", n, rank), s, ok, impl.Space{}, false)
		}
	}
}

func TestSpacesOfMoreItemsHaveNoRank(t *testing.T) {
	for _, s := range samples() {
		if rank, ok := impl.RankSpace(s); s.Items > 3 && (ok || rank != 0) {
			t.Errorf("RankSpace(%s): %d %v", textOf(s), rank, ok)
		}
	}
}

func TestLeastNamedByDefinition(t *testing.T) {
	c := chance(111)
	for _, s := range fewItems() {
		want := alikeWith(s)[0]
		least, ok := impl.LeastNamed(s)
		wantSpace(t, "LeastNamed "+textOf(s), least, ok, want, true)
		other := renamedIn(s, c.order(s.Items))
		least, ok = impl.LeastNamed(other)
		wantSpace(t, "LeastNamed "+textOf(other), least, ok, want, true)
		least, ok = impl.LeastNamed(want)
		wantSpace(t, "LeastNamed "+textOf(want), least, ok, want, true)
		if alike, ok := impl.AreAlike(s, want); !alike || !ok {
			t.Errorf("%s is not alike with its LeastNamed %s: %v", textOf(s), textOf(want), ok)
		}
	}
}

// Promise 9: of the spaces that are alike, just one is the least named.
func TestLeastNamedAreCountedUpToNames(t *testing.T) {
	for n := 1; n <= 4; n++ {
		least := map[string]bool{}
		for _, s := range spacesOf(n) {
			named, _ := impl.LeastNamed(s)
			least[textOf(named)] = true
		}
		count, ok := impl.CountUpToNames(n)
		wantCount(t, fmt.Sprint("CountUpToNames ", n), count, ok, len(least))
	}
}

func TestLeastNamedOfFewAndManyItems(t *testing.T) {
	least, ok := impl.LeastNamed(freeOf(1))
	wantSpace(t, "LeastNamed of one item", least, ok, freeOf(1), true)
	turned := impl.Space{Items: 5, Sets: beginnings([]int{4, 3, 2, 1, 0})}
	least, ok = impl.LeastNamed(turned)
	wantSpace(t, "LeastNamed of 5 items", least, ok, impl.Space{Items: 5, Sets: beginnings([]int{0, 1, 2, 3, 4})}, true)
	for n := 6; n <= 7; n++ {
		for _, s := range []impl.Space{freeOf(n), lineOf(n), {Items: n, Sets: beginnings(pointsOf(fullOf(n)))}} {
			least, ok := impl.LeastNamed(s)
			wantSpace(t, "LeastNamed "+textOf(s), least, ok, impl.Space{}, false)
			kept, ok := impl.NamesKept(s)
			if ok || kept != 0 {
				t.Errorf("NamesKept(%s): %d %v", textOf(s), kept, ok)
			}
		}
	}
}

func wantAlike(t *testing.T, a impl.Space, b impl.Space, want bool) {
	t.Helper()
	for _, pair := range [][2]impl.Space{{a, b}, {b, a}} {
		is, ok := impl.AreAlike(pair[0], pair[1])
		wantAnswer(t, "AreAlike "+textOf(pair[0])+" "+textOf(pair[1]), is, ok, want)
	}
}

func TestAreAlikeByDefinition(t *testing.T) {
	c := chance(112)
	all := fewItems()
	for i, a := range all {
		if i > 60 && c.below(12) > 0 && a.Items < 5 {
			continue
		}
		alike := map[string]bool{}
		for _, s := range alikeWith(a) {
			alike[textOf(s)] = true
		}
		for j, b := range all {
			if i <= 30 && j <= 30 || c.below(20) == 0 || alike[textOf(b)] {
				wantAlike(t, a, b, alike[textOf(b)])
			}
		}
		wantAlike(t, a, a, true)
		wantAlike(t, a, renamedIn(a, c.order(a.Items)), true)
	}
}

func TestSpacesWithAsManySetsThatAreNotAlike(t *testing.T) {
	wantAlike(t, impl.Space{Items: 3, Sets: []int{0, 1, 3, 5, 7}}, impl.Space{Items: 3, Sets: []int{0, 1, 2, 3, 7}}, false)
	// These have as many of each size, too.
	same := 0
	all := fewItems()
	for i, a := range all {
		if i%7 > 0 {
			continue
		}
		alike := alikeWith(a)
		for _, b := range all[:i] {
			if a.Items == b.Items && slices.Equal(sizesIn(a.Items, a.Sets), sizesIn(b.Items, b.Sets)) &&
				!slices.ContainsFunc(alike, func(s impl.Space) bool { return sameSpace(s, b) }) {
				same++
				wantAlike(t, a, b, false)
			}
		}
	}
	if same == 0 {
		t.Error("no spaces with as many Sets of each size are looked at")
	}
}

func TestSpacesWithOtherNumbersOfItemsAreNotAlike(t *testing.T) {
	for n := 1; n <= 5; n++ {
		for m := 1; m <= 5; m++ {
			wantAlike(t, freeOf(n), freeOf(m), n == m)
			wantAlike(t, impl.Space{Items: n, Sets: beginnings(pointsOf(fullOf(n)))}, freeOf(m), n == 1 && m == 1)
		}
		for m := 6; m <= 7; m++ {
			for _, pair := range [][2]impl.Space{{freeOf(n), freeOf(m)}, {freeOf(m), freeOf(n)}, {freeOf(m), freeOf(m)}} {
				if is, ok := impl.AreAlike(pair[0], pair[1]); is || ok {
					t.Errorf("AreAlike(%s, %s): %v %v", textOf(pair[0]), textOf(pair[1]), is, ok)
				}
			}
		}
	}
}

func TestNamesKeptByDefinition(t *testing.T) {
	alone := 0
	for _, s := range fewItems() {
		all := alikeWith(s)
		want, different := 0, 0
		for i, other := range all {
			if sameSpace(other, s) {
				want++
			}
			if i == 0 || !sameSpace(all[i-1], other) {
				different++
			}
		}
		kept, ok := impl.NamesKept(s)
		wantCount(t, "NamesKept "+textOf(s), kept, ok, want)
		if kept*different != len(all) {
			t.Errorf("%s: %d ways keep it, and it is alike with %d spaces", textOf(s), kept, different)
		}
		if want == 1 && len(s.Sets) > s.Items+1 {
			alone++
		}
	}
	if alone == 0 {
		t.Error("no space but chains is kept by the same names only")
	}
}

func TestNamesKeptOfAllSetsAndOfChains(t *testing.T) {
	c := chance(113)
	for i, want := range []int{1, 2, 6, 24, 120} {
		n := i + 1
		kept, ok := impl.NamesKept(freeOf(n))
		wantCount(t, fmt.Sprint("NamesKept of all sets of ", n), kept, ok, want)
		chain := impl.Space{Items: n, Sets: beginnings(c.order(n))}
		kept, ok = impl.NamesKept(chain)
		wantCount(t, "NamesKept "+textOf(chain), kept, ok, 1)
	}
	kept, ok := impl.NamesKept(lineOf(5))
	wantCount(t, "NamesKept of a line", kept, ok, 2)
}
