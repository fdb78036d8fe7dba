package tests

import (
	"fmt"
	"testing"

	"loop.example/g01137/impl"
)

// halfQuestionIn looks at all items, open or not, and returns -1 if one set is left.
func halfQuestionIn(s impl.Space, yes int, no int) int {
	left := leftIn(s, yes, no)
	if len(left) == 1 {
		return -1
	}
	half, least := -1, len(left)
	for item := range s.Items {
		with, without := partedBy(left, item)
		difference := len(with) - len(without)
		if difference < 0 {
			difference = -difference
		}
		if difference < least {
			half, least = item, difference
		}
	}
	return half
}

func halfRunIn(s impl.Space, set int) []int {
	return runWith(s, set, func(yes int, no int) int { return halfQuestionIn(s, yes, no) })
}

// wantHalfQuestion wants a failure if the item is -1: then just one set is left.
func wantHalfQuestion(t *testing.T, s impl.Space, a []int, want int) {
	t.Helper()
	item, ok := impl.HalfQuestion(s, a[0], a[1])
	if ok != (want >= 0) || item != max(want, 0) {
		t.Errorf("%s: %d %v, want %d", answersText("HalfQuestion", s, a), item, ok, want)
	}
}

func TestHalfQuestionByDefinition(t *testing.T) {
	c := chance(76)
	for _, s := range askSamples() {
		for _, a := range answersFor(&c, s) {
			wantHalfQuestion(t, s, a, halfQuestionIn(s, a[0], a[1]))
		}
	}
}

func TestHalfQuestionOfSomeAnswers(t *testing.T) {
	chain := impl.Space{Items: 4, Sets: []int{0, 1, 3, 7, 15}}
	for _, asked := range []struct {
		space   impl.Space
		yes, no int
		item    int
	}{
		{chain, 0, 0, 1}, // 3 and 2 are left, as with the item 2: 2 and 3
		{chain, 2, 0, 2}, // 2 and 1, as with the item 3: 1 and 2
		{chain, 0, 2, 0},
		{chain, 4, 0, 3},
		{chain, 0, 1, -1},
		{chain, 8, 0, -1},
		{chain, 1, 8, 1}, // as with the item 2
		{freeOf(1), 0, 0, 0},
		{freeOf(1), 1, 0, -1},
		{freeOf(5), 0, 0, 0},
		{freeOf(5), 5, 8, 1},
		{freeOf(5), 7, 8, 4},
		{lineOf(3), 0, 0, 0}, // 4 and 3 are left, as with the item 2; with the item 1: 3 and 4
		{impl.Space{Items: 3, Sets: []int{0, 2, 4, 6, 7}}, 0, 0, 1}, // 3 and 2 are left, with the item 0 just 1 and 4
		{freeOf(3), 2, 0, 0},       // the item 1 parts none
		{freeOf(3), 3, 4, -1},      // 3
		{chapter3Example, 0, 0, 0}, // 4 and 3 are left, as with the item 1; with the item 2: 3 and 4
		{chapter3Example, 4, 0, 0}, // 5, 6 and 7: as with the item 1
	} {
		wantHalfQuestion(t, asked.space, []int{asked.yes, asked.no}, asked.item)
	}
}

func TestHalfRunByDefinition(t *testing.T) {
	for _, s := range askSamples() {
		longest := 0
		for _, set := range s.Sets {
			run, ok := impl.HalfRun(s, set)
			wantWord(t, fmt.Sprint("HalfRun ", textOf(s), " ", set), run, ok, halfRunIn(s, set), true)
			wantFinding(t, s, set, run)
			longest = max(longest, len(run))
		}
		worst, ok := impl.HalfWorst(s)
		wantCount(t, "HalfWorst "+textOf(s), worst, ok, longest)
		least, ok := impl.LeastWorst(s, 0, 0)
		if !ok || least > longest {
			t.Errorf("LeastWorst %s: %d %v, but HalfWorst %d", textOf(s), least, ok, longest)
		}
	}
}

func TestHalfRunOfSomeSets(t *testing.T) {
	chain := impl.Space{Items: 4, Sets: []int{0, 1, 3, 7, 15}}
	for _, asked := range []struct {
		set       int
		half, run []int
	}{
		{0, []int{1, 0}, []int{0}},
		{1, []int{1, 0}, []int{0, 2, 1}},
		{3, []int{1, 2}, []int{0, 2, 1}},
		{7, []int{1, 2, 3}, []int{0, 2, 3}},
		{15, []int{1, 2, 3}, []int{0, 2, 3}},
	} {
		run, ok := impl.HalfRun(chain, asked.set)
		wantWord(t, fmt.Sprint("HalfRun ", asked.set), run, ok, asked.half, true)
		run, ok = impl.AskRun(chain, asked.set)
		wantWord(t, fmt.Sprint("AskRun ", asked.set), run, ok, asked.run, true)
	}
	for _, set := range []int{-1, 2, 4, 5, 8, 14, 16} {
		run, ok := impl.HalfRun(chain, set)
		wantWord(t, fmt.Sprint("HalfRun ", set), run, ok, nil, false)
		run, ok = impl.AskRun(chain, set)
		wantWord(t, fmt.Sprint("AskRun ", set), run, ok, nil, false)
	}
}

func TestHalfWorstOfSomeSpaces(t *testing.T) {
	for n := 1; n <= 7; n++ {
		worst, ok := impl.HalfWorst(freeOf(n))
		wantCount(t, fmt.Sprint("HalfWorst of all sets of ", n), worst, ok, n)
	}
	worst, ok := impl.HalfWorst(halfIsWorse)
	wantCount(t, "HalfWorst "+textOf(halfIsWorse), worst, ok, 5)
	worst, ok = impl.LeastWorst(halfIsWorse, 0, 0)
	wantCount(t, "LeastWorst "+textOf(halfIsWorse), worst, ok, 4)
	worst, ok = impl.HalfWorst(impl.Space{Items: 4, Sets: []int{0, 1, 3, 7, 15}})
	wantCount(t, "HalfWorst of a chain", worst, ok, 3)
}

// wantBound wants the bound to be enough for the number of Sets, and one less not to be.
func wantBound(t *testing.T, s impl.Space) {
	t.Helper()
	bound, ok := impl.HalvingBound(s)
	if !ok || bound < 1 || 1<<bound < len(s.Sets) || 1<<(bound-1) >= len(s.Sets) {
		t.Errorf("HalvingBound of %d Sets: %d %v", len(s.Sets), bound, ok)
	}
	worst, ok := impl.LeastWorst(s, 0, 0)
	if !ok || worst < bound {
		t.Errorf("LeastWorst %s: %d %v, but HalvingBound %d", textOf(s), worst, ok, bound)
	}
}

// All numbers of Sets that there are: powers of 2, one more, one less, and others.
func TestHalvingBoundOfAllNumbers(t *testing.T) {
	c := chance(77)
	for n := 1; n <= 7; n++ {
		bounds := map[int]int{}
		for _, s := range shrunk(&c, n) {
			wantBound(t, s)
			bounds[len(s.Sets)], _ = impl.HalvingBound(s)
		}
		for count, want := range map[int]int{2: 1, 3: 2, 4: 2, 5: 3, 7: 3, 8: 3, 9: 4, 15: 4, 16: 4, 17: 5, 31: 5, 32: 5, 33: 6, 63: 6, 64: 6,
			65: 7, 100: 7, 127: 7, 128: 7} {
			if bound, ok := bounds[count]; ok && bound != want || !ok && n < count && count <= 1<<n {
				t.Errorf("HalvingBound of %d Sets of %d items: %d, want %d", count, n, bound, want)
			}
		}
	}
	bound, ok := impl.HalvingBound(farFromHalving)
	wantCount(t, "HalvingBound "+textOf(farFromHalving), bound, ok, 4)
}
