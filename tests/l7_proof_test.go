package tests

import (
	"fmt"
	"slices"
	"testing"

	"loop.example/g01137/impl"
)

// fringesIn returns the inner and the outer fringe of one of the Sets.
func fringesIn(s impl.Space, set int) (int, int) {
	in := marksOf(s.Sets)
	return innerOf(s.Items, in, set), outerOf(s.Items, in, set)
}

// setsByFringes returns the Sets by their inner and outer fringes.
func setsByFringes(s impl.Space) map[[2]int]int {
	sets := map[[2]int]int{}
	for _, set := range s.Sets {
		inner, outer := fringesIn(s, set)
		sets[[2]int{inner, outer}] = set
	}
	return sets
}

func wantProof(t *testing.T, s impl.Space, set int) {
	t.Helper()
	wantInner, wantOuter := fringesIn(s, set)
	inner, outer, ok := impl.ProofOf(s, set)
	wantWord(t, fmt.Sprint("ProofOf ", textOf(s), " ", set), []int{inner, outer}, ok, []int{wantInner, wantOuter}, true)
}

// Promise 7: with the fringes as answers just the set is left.
func TestFringesAreProofs(t *testing.T) {
	for _, s := range askSamples() {
		for _, set := range s.Sets {
			wantProof(t, s, set)
			inner, outer, _ := impl.ProofOf(s, set)
			left, ok := impl.SetsLeft(s, inner, outer)
			wantWord(t, fmt.Sprint("SetsLeft ", textOf(s), " by the fringes of ", set), left, ok, []int{set}, true)
			is, ok := impl.IsProof(s, set, inner, outer)
			wantAnswer(t, fmt.Sprint("IsProof ", textOf(s), " by the fringes of ", set), is, ok, true)
			is, ok = impl.IsProof(s, set, set, fullOf(s.Items)-set)
			wantAnswer(t, fmt.Sprint("IsProof ", textOf(s), " by all answers for ", set), is, ok, true)
			for _, item := range pointsOf(inner | outer) {
				is, ok = impl.IsProof(s, set, inner&^(1<<item), outer&^(1<<item))
				wantAnswer(t, fmt.Sprint("IsProof ", textOf(s), " of ", set, " without ", item), is, ok, false)
			}
		}
	}
}

// Promise 7: all other answers by which just the set is left have the items of the fringes, too.
func TestFringesAreTheOnlyLeastProofs(t *testing.T) {
	c := chance(78)
	for _, s := range askSamples() {
		all := allAnswers(s.Items)
		if s.Items > 3 {
			all = some(&c, all, 30)
		}
		for _, set := range s.Sets {
			inner, outer, _ := impl.ProofOf(s, set)
			for _, a := range all {
				wantIsProof(t, s, set, a)
				yes, no := a[0]&set, a[1]&^set
				if is, _ := impl.IsProof(s, set, yes, no); is != (isPart(inner, yes) && isPart(outer, no)) {
					t.Errorf("%s of %d: %v", answersText("IsProof", s, []int{yes, no}), set, is)
				}
			}
		}
	}
}

func wantIsProof(t *testing.T, s impl.Space, set int, a []int) {
	t.Helper()
	fine := slices.Contains(s.Sets, set) && isBelow(a[0], 1<<s.Items) && isBelow(a[1], 1<<s.Items) && a[0]&a[1] == 0
	want := fine && slices.Equal(leftIn(s, a[0], a[1]), []int{set})
	if is, ok := impl.IsProof(s, set, a[0], a[1]); is != want || ok != fine {
		t.Errorf("%s of %d: %v %v, want %v %v", answersText("IsProof", s, a), set, is, ok, want, fine)
	}
}

// All sets and answers: with common items, with items that are none of the space, such that none is left, or several.
func TestIsProofByDefinition(t *testing.T) {
	for n := 1; n <= 3; n++ {
		for _, s := range spacesOf(n) {
			for set := -1; set <= 1<<n; set++ {
				for yes := -1; yes <= 1<<n; yes++ {
					for no := -1; no <= 1<<n; no++ {
						wantIsProof(t, s, set, []int{yes, no})
					}
				}
			}
		}
	}
}

func TestIsProofOfSomeAnswers(t *testing.T) {
	for _, asked := range []struct {
		set, yes, no int
		is, ok       bool
	}{
		{0, 0, 3, true, true},   // the least proof of no items
		{0, 0, 7, true, true},   // all answers
		{0, 0, 1, false, true},  // 2 and 6 are left, too
		{0, 0, 0, false, true},  // all are left
		{7, 3, 0, false, true},  // 3 is left, too
		{7, 7, 0, true, true},   // the least proof of all items
		{7, 4, 0, false, true},  // 5 and 6 are left, too
		{7, 0, 3, false, true},  // just another one is left
		{7, 6, 1, false, true},  // just another one is left: 6
		{6, 6, 1, true, true},   // all answers
		{6, 4, 1, true, true},   // the least proof
		{6, 0, 1, false, true},  // 0 and 2 are left, too
		{6, 4, 3, false, true},  // none is left
		{0, 4, 3, false, true},  // none is left
		{3, 3, 4, true, true},   // both items and no more
		{3, 3, 3, false, false}, // common items
		{0, 1, 1, false, false}, // a common item
		{4, 4, 3, false, false}, // none of the Sets
		{8, 0, 3, false, false}, // none of the Sets
		{0, 0, 11, false, false},
		{0, 8, 3, false, false},
		{0, -1, 0, false, false},
		{0, 0, -1, false, false},
		{0, 0, -5, false, false},
	} {
		is, ok := impl.IsProof(chapter3Example, asked.set, asked.yes, asked.no)
		if is != asked.is || ok != asked.ok {
			t.Errorf("IsProof %+v: %v %v", asked, is, ok)
		}
	}
}

func TestProofsOfNoneAndAllItems(t *testing.T) {
	for n := 1; n <= 7; n++ {
		full := fullOf(n)
		for _, proved := range []struct {
			space impl.Space
			set   int
			proof []int
		}{
			{freeOf(n), 0, []int{0, full}},
			{freeOf(n), full, []int{full, 0}},
			{freeOf(n), full / 2, []int{full / 2, full - full/2}},
			{impl.Space{Items: n, Sets: beginnings(pointsOf(full))}, 0, []int{0, 1}},
			{impl.Space{Items: n, Sets: beginnings(pointsOf(full))}, full, []int{1 << (n - 1), 0}},
			{lineOf(n), 0, []int{0, 1 | 1<<(n-1)}},
			{lineOf(n), full, []int{full, 0}},
		} {
			inner, outer, ok := impl.ProofOf(proved.space, proved.set)
			wantWord(t, fmt.Sprint("ProofOf ", textOf(proved.space), " ", proved.set), []int{inner, outer}, ok, proved.proof, true)
			set, ok := impl.SetOfFringes(proved.space, inner, outer)
			wantCount(t, fmt.Sprint("SetOfFringes ", textOf(proved.space), proved.proof), set, ok, proved.set)
		}
	}
}

func TestProofOfOtherSets(t *testing.T) {
	for _, s := range askSamples() {
		for set := -1; set <= 2<<s.Items; set++ {
			if inner, outer, ok := impl.ProofOf(s, set); !slices.Contains(s.Sets, set) && (ok || inner != 0 || outer != 0) {
				t.Errorf("ProofOf %s %d: %d %d %v", textOf(s), set, inner, outer, ok)
			}
		}
	}
}

// wantSetOfFringes wants a failure if none of the Sets has the fringes.
func wantSetOfFringes(t *testing.T, s impl.Space, sets map[[2]int]int, inner int, outer int) {
	t.Helper()
	want, fine := sets[[2]int{inner, outer}]
	set, ok := impl.SetOfFringes(s, inner, outer)
	if ok != fine || set != want {
		t.Errorf("SetOfFringes %s %d %d: %d %v, want %d %v", textOf(s), inner, outer, set, ok, want, fine)
	}
}

func TestSetOfFringesByDefinition(t *testing.T) {
	for n := 1; n <= 3; n++ {
		for _, s := range spacesOf(n) {
			sets := setsByFringes(s)
			for inner := -1; inner <= 1<<n; inner++ {
				for outer := -1; outer <= 1<<n; outer++ {
					wantSetOfFringes(t, s, sets, inner, outer)
				}
			}
		}
	}
	c := chance(79)
	for _, s := range askSamples() {
		sets := setsByFringes(s)
		for _, a := range some(&c, allAnswers(s.Items), 10) {
			wantSetOfFringes(t, s, sets, a[0], a[1])
		}
	}
}

// Each of the Sets has other fringes; what is like them is perhaps no set's.
func TestSetOfFringesLikeThese(t *testing.T) {
	c := chance(80)
	for _, s := range askSamples() {
		sets := setsByFringes(s)
		if len(sets) != len(s.Sets) {
			t.Errorf("%s: Sets with the same fringes", textOf(s))
		}
		for _, own := range s.Sets {
			inner, outer := fringesIn(s, own)
			set, ok := impl.SetOfFringes(s, inner, outer)
			wantCount(t, fmt.Sprint("SetOfFringes ", textOf(s), " of ", own), set, ok, own)
			for _, like := range [][2]int{{outer, inner}, {inner, 0}, {0, outer}, {inner ^ 1<<c.below(s.Items), outer},
				{inner, outer ^ 1<<c.below(s.Items)}, {inner | 1<<s.Items, outer}, {inner, outer - 1<<s.Items}} {
				wantSetOfFringes(t, s, sets, like[0], like[1])
			}
		}
	}
}

func TestLongestProofByDefinition(t *testing.T) {
	for _, s := range askSamples() {
		want := 0
		for _, set := range s.Sets {
			inner, outer := fringesIn(s, set)
			want = max(want, sizeOf(inner)+sizeOf(outer))
		}
		longest, ok := impl.LongestProof(s)
		wantCount(t, "LongestProof "+textOf(s), longest, ok, want)
	}
}

func TestLongestProofOfSomeSpaces(t *testing.T) {
	for _, proved := range []struct {
		space   impl.Space
		longest int
	}{
		{freeOf(1), 1},
		{freeOf(7), 7},
		{impl.Space{Items: 2, Sets: []int{0, 1, 3}}, 2},
		{impl.Space{Items: 7, Sets: beginnings(pointsOf(127))}, 2},
		{chapter3Example, 3},
		{lineOf(7), 7},
	} {
		longest, ok := impl.LongestProof(proved.space)
		wantCount(t, "LongestProof "+textOf(proved.space), longest, ok, proved.longest)
	}
}
