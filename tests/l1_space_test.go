package tests

import (
	"fmt"
	"math/bits"
	"slices"
	"testing"

	"loop.example/g01137/impl"
)

// askSet is a function that asks a space for a number by a set.
type askSet struct {
	name string
	call func(impl.Space, int) (int, bool)
}

func wantNumber(t *testing.T, ask askSet, s impl.Space, set int, want int) {
	t.Helper()
	if got, ok := ask.call(s, set); !ok || got != want {
		t.Errorf("%s(%s, %d): %d %v, want %d", ask.name, textOf(s), set, got, ok, want)
	}
}

// Promise 1: fringes tell their set alone.
func TestFringesTellTheirSet(t *testing.T) {
	for _, s := range samples() {
		told := map[[2]int]int{}
		for _, set := range s.Sets {
			inner, ok := impl.InnerFringe(s, set)
			outer, fine := impl.OuterFringe(s, set)
			if !ok || !fine {
				t.Fatalf("no fringe of %d in %s", set, textOf(s))
			}
			if other, there := told[[2]int{inner, outer}]; there {
				t.Errorf("%s: %d and %d have the fringes %d and %d", textOf(s), other, set, inner, outer)
			}
			told[[2]int{inner, outer}] = set
		}
	}
}

// Promise 1: each convex set is the hull of its extreme items, which are the outer fringe of all others.
func TestConvexSetIsHullOfExtreme(t *testing.T) {
	for _, s := range samples() {
		full := 1<<s.Items - 1
		for convex := range full + 1 {
			is, ok := impl.IsConvex(s, convex)
			if !ok || is != slices.Contains(s.Sets, full-convex) {
				t.Errorf("IsConvex(%s, %d): %v %v", textOf(s), convex, is, ok)
			}
			if !is {
				continue
			}
			extreme, ok := impl.ExtremeOf(s, convex)
			hull, fine := impl.HullOf(s, extreme)
			outer, third := impl.OuterFringe(s, full-convex)
			if !ok || !fine || !third || hull != convex || extreme != outer {
				t.Errorf("%s: %d has the extreme items %d with the hull %d; fringe %d", textOf(s), convex, extreme, hull, outer)
			}
		}
	}
}

func TestFringesByDefinition(t *testing.T) {
	for _, s := range samples() {
		in := marksOf(s.Sets)
		for set := range 1 << s.Items {
			has, ok := impl.HasSet(s, set)
			if !ok || has != in[set] {
				t.Errorf("HasSet(%s, %d): %v %v", textOf(s), set, has, ok)
			}
			if in[set] {
				wantNumber(t, askSet{"OuterFringe", impl.OuterFringe}, s, set, outerOf(s.Items, in, set))
				wantNumber(t, askSet{"InnerFringe", impl.InnerFringe}, s, set, innerOf(s.Items, in, set))
			}
		}
	}
}

func TestClosuresByDefinition(t *testing.T) {
	for _, s := range samples() {
		for set := range 1 << s.Items {
			wantNumber(t, askSet{"LeastAbove", impl.LeastAbove}, s, set, leastAbove(s, set))
			wantNumber(t, askSet{"GreatestWithin", impl.GreatestWithin}, s, set, greatestWithin(s, set))
			wantNumber(t, askSet{"HullOf", impl.HullOf}, s, set, hullOf(s, set))
			extreme := 0
			for i := range s.Items {
				if others := set &^ (1 << i); set != others && hullOf(s, others)>>i&1 == 0 {
					extreme += 1 << i
				}
			}
			wantNumber(t, askSet{"ExtremeOf", impl.ExtremeOf}, s, set, extreme)
			if within, _ := impl.GreatestWithin(s, set); !slices.Contains(s.Sets, within) {
				t.Errorf("GreatestWithin(%s, %d) is none of the Sets: %d", textOf(s), set, within)
			}
		}
	}
}

func leastAbove(s impl.Space, set int) int {
	for size := 0; ; size++ {
		for _, above := range s.Sets {
			if bits.OnesCount(uint(above)) == size && isPart(set, above) {
				return above
			}
		}
	}
}

func greatestWithin(s impl.Space, set int) int {
	greatest := 0
	for _, within := range s.Sets {
		if isPart(within, set) {
			greatest |= within
		}
	}
	return greatest
}

// hullOf meets all convex sets with the items of a set.
func hullOf(s impl.Space, set int) int {
	full := 1<<s.Items - 1
	hull := full
	for _, other := range s.Sets {
		if isPart(set, full-other) {
			hull &= full - other
		}
	}
	return hull
}

func TestIsSpaceByDefinition(t *testing.T) {
	for n := 1; n <= 4; n++ {
		for _, f := range families(n) {
			if got, want := impl.IsSpace(f), isDefined(f); got != want {
				t.Errorf("IsSpace(%s): %v", textOf(f), got)
			}
		}
	}
	for _, s := range samples() {
		if !impl.IsSpace(s) {
			t.Errorf("IsSpace(%s): false", textOf(s))
		}
	}
}

// One set more or less mostly breaks a space; what does not has to be a space by the definition.
func TestIsSpaceNearSpaces(t *testing.T) {
	for _, s := range samples() {
		if s.Items < 5 {
			continue
		}
		for set := range 1 << s.Items {
			near := impl.Space{Items: s.Items}
			for _, other := range s.Sets {
				if other != set {
					near.Sets = append(near.Sets, other)
				}
			}
			if len(near.Sets) == len(s.Sets) {
				near.Sets = append(near.Sets, set)
				slices.Sort(near.Sets)
			}
			if got, want := impl.IsSpace(near), isDefined(near); got != want {
				t.Errorf("IsSpace(%s): %v", textOf(near), got)
			}
		}
	}
}

func TestExampleOfChapter1(t *testing.T) {
	s, ok := impl.ParseSpace("3:0,1,4,5,7")
	if !ok {
		t.Fatal("no space")
	}
	wantNumber(t, askSet{"OuterFringe", impl.OuterFringe}, s, 5, 2)
	wantNumber(t, askSet{"HullOf", impl.HullOf}, s, 5, 7)
	wantNumber(t, askSet{"ExtremeOf", impl.ExtremeOf}, s, 5, 5)
	line, ok := impl.LineSpace(3)
	text, fine := impl.SpaceText(line)
	if !ok || !fine || text != "3:0,1,3,4,5,6,7" {
		t.Errorf("LineSpace(3): %s", text)
	}
}

func TestSpaceOfOneItem(t *testing.T) {
	one := impl.Space{Items: 1, Sets: []int{0, 1}}
	for name, make := range map[string]func() (impl.Space, bool){
		"SpaceWith":   func() (impl.Space, bool) { return impl.SpaceWith(1, []int{1}) },
		"FreeSpace":   func() (impl.Space, bool) { return impl.FreeSpace(1) },
		"ChainSpace":  func() (impl.Space, bool) { return impl.ChainSpace([]int{0}) },
		"OrderSpace":  func() (impl.Space, bool) { return impl.OrderSpace(1, nil) },
		"LineSpace":   func() (impl.Space, bool) { return impl.LineSpace(1) },
		"UnionSpaces": func() (impl.Space, bool) { return impl.UnionSpaces(one, one) },
		"RestrictTo":  func() (impl.Space, bool) { return impl.RestrictTo(one, 1) },
		"BehindSet":   func() (impl.Space, bool) { return impl.BehindSet(one, 0) },
		"RenameItems": func() (impl.Space, bool) { return impl.RenameItems(one, []int{0}) },
		"ParseSpace":  func() (impl.Space, bool) { return impl.ParseSpace("1:0,1") },
	} {
		s, ok := make()
		wantSpace(t, name, s, ok, one, true)
	}
	wantNumber(t, askSet{"OuterFringe", impl.OuterFringe}, one, 0, 1)
	wantNumber(t, askSet{"OuterFringe", impl.OuterFringe}, one, 1, 0)
	wantNumber(t, askSet{"InnerFringe", impl.InnerFringe}, one, 0, 0)
	wantNumber(t, askSet{"InnerFringe", impl.InnerFringe}, one, 1, 1)
	wantNumber(t, askSet{"HullOf", impl.HullOf}, one, 1, 1)
	wantNumber(t, askSet{"ExtremeOf", impl.ExtremeOf}, one, 1, 1)
}

// wantedWith returns the least of all spaces of n items with given sets, where the document lets there be one.
func wantedWith(spaces []impl.Space, n int, sets []int) (impl.Space, bool) {
	in := marksOf(append([]int{0}, sets...))
	together := 0
	for set := range in {
		together |= set
		if set != 0 && innerOf(n, in, set) == 0 {
			return impl.Space{}, false
		}
	}
	if together != 1<<n-1 {
		return impl.Space{}, false
	}
	return leastWith(spaces, sets)
}

func TestSpaceWithAllLists(t *testing.T) {
	for n := 1; n <= 3; n++ {
		spaces := spacesOf(n)
		for _, f := range families(n) {
			want, fine := wantedWith(spaces, n, f.Sets)
			got, ok := impl.SpaceWith(n, f.Sets)
			wantSpace(t, "SpaceWith "+textOf(f), got, ok, want, fine)
			back := slices.Clone(f.Sets)
			slices.Reverse(back)
			got, ok = impl.SpaceWith(n, append(back, f.Sets...))
			wantSpace(t, "SpaceWith, backwards and twice, "+textOf(f), got, ok, want, fine)
		}
	}
}

func TestSpaceWithAtItsLimits(t *testing.T) {
	c := chance(3)
	for n := 5; n <= 7; n++ {
		for range 20 {
			sets := append(beginnings(c.order(n)), beginnings(c.order(n))...)
			sets = append(sets, beginnings(c.order(n))...)
			got, ok := impl.SpaceWith(n, sets)
			wantSpace(t, fmt.Sprint("SpaceWith ", n, sets), got, ok, impl.Space{Items: n, Sets: unions(sets)}, true)
		}
	}
	singles := []int{1, 2, 4, 8, 16, 32, 64}
	for len(singles) < 40 {
		singles = append(singles, 64)
	}
	got, ok := impl.SpaceWith(7, singles)
	wantSpace(t, "SpaceWith 40 sets", got, ok, freeOf(7), true)
	got, ok = impl.SpaceWith(7, append(singles, 64))
	wantSpace(t, "SpaceWith 41 sets", got, ok, impl.Space{}, false)
	got, ok = impl.SpaceWith(2, []int{1, 2})
	wantSpace(t, "SpaceWith the set of all as a union", got, ok, freeOf(2), true)
	got, ok = impl.SpaceWith(3, []int{1, 2, 3})
	wantSpace(t, "SpaceWith an item in none", got, ok, impl.Space{}, false)
	got, ok = impl.SpaceWith(3, []int{1, 2, 7})
	wantSpace(t, "SpaceWith a step missing", got, ok, impl.Space{}, false)
}

func TestFreeAndLineSpaces(t *testing.T) {
	for n := 1; n <= 7; n++ {
		got, ok := impl.FreeSpace(n)
		wantSpace(t, fmt.Sprint("FreeSpace ", n), got, ok, freeOf(n), true)
		got, ok = impl.LineSpace(n)
		wantSpace(t, fmt.Sprint("LineSpace ", n), got, ok, lineOf(n), true)
	}
}

func TestChainSpaceOfAllOrders(t *testing.T) {
	for n := 1; n <= 7; n++ {
		for _, order := range orders(n) {
			sets := beginnings(order)
			slices.Sort(sets)
			got, ok := impl.ChainSpace(order)
			wantSpace(t, fmt.Sprint("ChainSpace ", order), got, ok, impl.Space{Items: n, Sets: sets}, true)
		}
	}
}

// wantedOrder returns all sets that have with the second item of each pair the first one, if they are a space.
func wantedOrder(n int, pairs [][]int) (impl.Space, bool) {
	s := impl.Space{Items: n}
	for set := range 1 << n {
		if !slices.ContainsFunc(pairs, func(p []int) bool { return set>>p[1]&1 > set>>p[0]&1 }) {
			s.Sets = append(s.Sets, set)
		}
	}
	if !isDefined(s) {
		return impl.Space{}, false
	}
	return s, true
}

func TestOrderSpaceOfAllPairs(t *testing.T) {
	for n := 1; n <= 3; n++ {
		var pairs [][]int
		for i := range n * n {
			if i/n != i%n {
				pairs = append(pairs, []int{i / n, i % n})
			}
		}
		for marks := range 1 << len(pairs) {
			var chosen [][]int
			for i, pair := range pairs {
				if marks>>i&1 == 1 {
					chosen = append(chosen, pair)
				}
			}
			want, fine := wantedOrder(n, chosen)
			got, ok := impl.OrderSpace(n, chosen)
			wantSpace(t, fmt.Sprint("OrderSpace ", n, chosen), got, ok, want, fine)
		}
	}
	got, ok := impl.OrderSpace(3, [][]int{{0, 2}, {1, 2}})
	wantSpace(t, "OrderSpace 0, 1 before 2", got, ok, impl.Space{Items: 3, Sets: []int{0, 1, 2, 3, 7}}, true)
}

func TestOrderSpaceAtItsLimits(t *testing.T) {
	var pairs [][]int
	for i := range 49 {
		if i/7 < i%7 {
			pairs = append(pairs, []int{i / 7, i % 7})
		}
	}
	for len(pairs) < 40 {
		pairs = append(pairs, []int{5, 6})
	}
	chain := impl.Space{Items: 7, Sets: beginnings([]int{0, 1, 2, 3, 4, 5, 6})}
	got, ok := impl.OrderSpace(7, pairs)
	wantSpace(t, "OrderSpace 40 pairs", got, ok, chain, true)
	got, ok = impl.OrderSpace(7, append(pairs, []int{5, 6}))
	wantSpace(t, "OrderSpace 41 pairs", got, ok, impl.Space{}, false)
	c := chance(11)
	for range 50 {
		var chosen [][]int
		for range c.below(12) {
			i := c.below(7)
			chosen = append(chosen, []int{i, (i + 1 + c.below(6)) % 7})
		}
		want, fine := wantedOrder(7, chosen)
		got, ok := impl.OrderSpace(7, chosen)
		wantSpace(t, fmt.Sprint("OrderSpace ", 7, chosen), got, ok, want, fine)
	}
}

func TestUnionSpacesByDefinition(t *testing.T) {
	for n := 1; n <= 3; n++ {
		spaces := spacesOf(n)
		for _, a := range spaces {
			for _, b := range spaces {
				want, fine := leastWith(spaces, slices.Concat(a.Sets, b.Sets))
				got, ok := impl.UnionSpaces(a, b)
				wantSpace(t, "UnionSpaces "+textOf(a)+" "+textOf(b), got, ok, want, fine)
			}
		}
	}
	c := chance(5)
	for n := 4; n <= 7; n++ {
		for range 20 {
			a, b := madeSpace(&c, n, 3), madeSpace(&c, n, 2)
			got, ok := impl.UnionSpaces(a, b)
			want := impl.Space{Items: n, Sets: unions(slices.Concat(a.Sets, b.Sets))}
			wantSpace(t, "UnionSpaces "+textOf(a)+" "+textOf(b), got, ok, want, true)
		}
	}
}

func TestPartsOfSpacesByDefinition(t *testing.T) {
	for _, s := range samples() {
		full := 1<<s.Items - 1
		for _, own := range s.Sets {
			within, behind := map[int]bool{}, map[int]bool{}
			for _, set := range s.Sets {
				within[anew(set, own)] = true
				if isPart(own, set) {
					behind[anew(set-own, full-own)] = true
				}
			}
			size := bits.OnesCount(uint(own))
			if own != 0 {
				want := impl.Space{Items: size, Sets: sortedKeys(within)}
				got, ok := impl.RestrictTo(s, own)
				wantSpace(t, fmt.Sprint("RestrictTo ", textOf(s), own), got, ok, want, true)
			}
			if own != full {
				want := impl.Space{Items: s.Items - size, Sets: sortedKeys(behind)}
				got, ok := impl.BehindSet(s, own)
				wantSpace(t, fmt.Sprint("BehindSet ", textOf(s), own), got, ok, want, true)
			}
		}
	}
}

func TestRenameItemsByDefinition(t *testing.T) {
	for _, s := range samples() {
		all := orders(min(s.Items, 4))
		if s.Items > 4 {
			c := chance(s.Items)
			all = [][]int{c.order(s.Items), c.order(s.Items), c.order(s.Items)}
		}
		for _, names := range all {
			in := map[int]bool{}
			for _, set := range s.Sets {
				renamed := 0
				for i, name := range names {
					renamed += set >> i & 1 << name
				}
				in[renamed] = true
			}
			got, ok := impl.RenameItems(s, names)
			want := impl.Space{Items: s.Items, Sets: sortedKeys(in)}
			wantSpace(t, fmt.Sprint("RenameItems ", textOf(s), names), got, ok, want, true)
		}
	}
	got, ok := impl.RenameItems(impl.Space{Items: 3, Sets: []int{0, 1, 3, 7}}, []int{1, 2, 0})
	wantSpace(t, "RenameItems", got, ok, impl.Space{Items: 3, Sets: []int{0, 2, 6, 7}}, true)
}

func TestTextsOfSpaces(t *testing.T) {
	for _, s := range samples() {
		text, ok := impl.SpaceText(s)
		if !ok || text != textOf(s) {
			t.Errorf("SpaceText: %s %v, want %s", text, ok, textOf(s))
		}
		got, ok := impl.ParseSpace(textOf(s))
		wantSpace(t, "ParseSpace", got, ok, s, true)
	}
}
