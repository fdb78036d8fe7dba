package tests

import (
	"fmt"
	"math"
	"slices"
	"testing"

	"loop.example/g01137/impl"
)

// freeIn returns all convex sets whose items are all extreme: none of them is in the hull of the others.
func freeIn(s impl.Space) []int {
	in := marksOf(s.Sets)
	var free []int
	for set := range 1 << s.Items {
		inHull := slices.ContainsFunc(pointsOf(set), func(item int) bool { return hullOf(s, set-1<<item)>>item&1 == 1 })
		if in[fullOf(s.Items)-set] && !inHull {
			free = append(free, set)
		}
	}
	return free
}

func TestSizesOfByDefinition(t *testing.T) {
	for _, s := range askSamples() {
		sizes, ok := impl.SizesOf(s)
		wantWord(t, "SizesOf "+textOf(s), sizes, ok, sizesIn(s.Items, s.Sets), true)
		if len(sizes) != s.Items+1 || sizes[0] != 1 || sizes[s.Items] != 1 || sumOf(sizes) != len(s.Sets) {
			t.Errorf("SizesOf %s: %v", textOf(s), sizes)
		}
	}
}

func TestSizesOfAllSetsOfALineAndOfAChain(t *testing.T) {
	sizes, ok := impl.SizesOf(freeOf(7))
	wantWord(t, "SizesOf all sets", sizes, ok, []int{1, 7, 21, 35, 35, 21, 7, 1}, true)
	sizes, ok = impl.SizesOf(lineOf(7))
	wantWord(t, "SizesOf a line", sizes, ok, []int{1, 2, 3, 4, 5, 6, 7, 1}, true)
	sizes, ok = impl.SizesOf(impl.Space{Items: 7, Sets: beginnings([]int{3, 1, 6, 0, 2, 5, 4})})
	wantWord(t, "SizesOf a chain", sizes, ok, []int{1, 1, 1, 1, 1, 1, 1, 1}, true)
	sizes, ok = impl.SizesOf(freeOf(1))
	wantWord(t, "SizesOf one item", sizes, ok, []int{1, 1}, true)
}

func TestFreeSetsByDefinition(t *testing.T) {
	for _, s := range askSamples() {
		want := freeIn(s)
		free, ok := impl.FreeSets(s)
		wantWord(t, "FreeSets "+textOf(s), free, ok, want, true)
		if !slices.Contains(free, 0) {
			t.Errorf("FreeSets %s: not that of no items: %v", textOf(s), free)
		}
		sizes, ok := impl.FreeBySize(s)
		wantWord(t, "FreeBySize "+textOf(s), sizes, ok, sizesIn(s.Items, want), true)
	}
}

// The parts of a free set are convex, and so they are free themselves.
func TestPartsOfFreeSetsAreConvex(t *testing.T) {
	for _, s := range askSamples() {
		free, _ := impl.FreeSets(s)
		for _, set := range free {
			for part := range set + 1 {
				if !isPart(part, set) {
					continue
				}
				if convex, ok := impl.IsConvex(s, part); !convex || !ok || !slices.Contains(free, part) {
					t.Errorf("%s: %d, a part of the free set %d, is not free: %v %v", textOf(s), part, set, convex, ok)
				}
			}
		}
	}
}

func TestFreeSetsOfAllSetsOfALineAndOfAChain(t *testing.T) {
	free, ok := impl.FreeSets(freeOf(7))
	wantWord(t, "FreeSets of all sets", free, ok, freeOf(7).Sets, true)
	sizes, ok := impl.FreeBySize(freeOf(7))
	wantWord(t, "FreeBySize of all sets", sizes, ok, []int{1, 7, 21, 35, 35, 21, 7, 1}, true)
	free, ok = impl.FreeSets(lineOf(7))
	wantWord(t, "FreeSets of a line", free, ok, []int{0, 1, 2, 3, 4, 6, 8, 12, 16, 24, 32, 48, 64, 96}, true)
	sizes, ok = impl.FreeBySize(lineOf(7))
	wantWord(t, "FreeBySize of a line", sizes, ok, []int{1, 7, 6, 0, 0, 0, 0, 0}, true)
	chain := impl.Space{Items: 7, Sets: beginnings([]int{0, 1, 2, 3, 4, 5, 6})}
	free, ok = impl.FreeSets(chain)
	wantWord(t, "FreeSets of a chain", free, ok, []int{0, 64}, true)
	sizes, ok = impl.FreeBySize(chain)
	wantWord(t, "FreeBySize of a chain", sizes, ok, []int{1, 1, 0, 0, 0, 0, 0, 0}, true)
	free, ok = impl.FreeSets(freeOf(1))
	wantWord(t, "FreeSets of one item", free, ok, []int{0, 1}, true)
}

// Promise 9: free sets alternate.
func TestAlternatingSumIsZero(t *testing.T) {
	c := chance(114)
	all := askSamples()
	for i := range 200 {
		all = append(all, madeSpace(&c, 5+i%3, 1+i%9))
	}
	for _, s := range all {
		sum, ok := impl.AlternatingSum(s)
		wantCount(t, "AlternatingSum "+textOf(s), sum, ok, 0)
		told := 0
		sizes, _ := impl.FreeBySize(s)
		for k, size := range sizes {
			told += size * (1 - 2*(k%2))
		}
		wantCount(t, "what FreeBySize tells of "+textOf(s), told, true, 0)
	}
}

func TestIsFreeSpaceExactlyIfAllItemsAreFree(t *testing.T) {
	free := 0
	for _, s := range askSamples() {
		want := len(s.Sets) == 1<<s.Items
		is, ok := impl.IsFreeSpace(s)
		wantAnswer(t, "IsFreeSpace "+textOf(s), is, ok, want)
		sets, _ := impl.FreeSets(s)
		if slices.Contains(sets, fullOf(s.Items)) != want {
			t.Errorf("%s: IsFreeSpace is %v, but the free sets are %v", textOf(s), want, sets)
		}
		if want {
			free++
		}
	}
	if free < 7 {
		t.Errorf("there are just %d free spaces", free)
	}
	// All sets but one.
	for n := 2; n <= 7; n++ {
		for set := 1; set < fullOf(n); set++ {
			s := freeOf(n)
			s.Sets = slices.Delete(s.Sets, set, set+1)
			if isDefined(s) {
				is, ok := impl.IsFreeSpace(s)
				wantAnswer(t, "IsFreeSpace "+textOf(s), is, ok, false)
			}
		}
	}
}

// walkIn returns the full word that choices tell.
func walkIn(s impl.Space, choices []int) []int {
	in := marksOf(s.Sets)
	var word []int
	for j := range s.Items {
		next := pointsOf(outerOf(s.Items, in, setOf(word)))
		index := 0
		if j < len(choices) {
			index = choices[j] % len(next)
		}
		word = append(word, next[index])
	}
	return word
}

func wantWalk(t *testing.T, s impl.Space, choices []int) {
	t.Helper()
	word, ok := impl.RandomWalk(s, choices)
	wantWord(t, fmt.Sprintf("RandomWalk(%s, %v)", textOf(s), choices), word, ok, walkIn(s, choices), true)
	if full, ok := impl.IsWord(s, word); !full || !ok || len(word) != s.Items {
		t.Errorf("RandomWalk(%s, %v): %v is no full word", textOf(s), choices, word)
	}
}

func TestRandomWalkByDefinition(t *testing.T) {
	c := chance(115)
	for _, s := range askSamples() {
		for _, choices := range c.someChoices() {
			wantWalk(t, s, choices)
		}
		for _, count := range []int{s.Items - 1, s.Items, s.Items + 1, 1, 7, 8, 19, 20} {
			choices := make([]int, count)
			wantWalk(t, s, choices)
			for i := range choices {
				choices[i] = c.below(10)
			}
			wantWalk(t, s, choices)
			wantWalk(t, s, slices.Repeat([]int{math.MaxInt}, count))
		}
	}
}

// Without choices, and with choices of 0, the first item always comes next.
func TestRandomWalkWithoutChoices(t *testing.T) {
	for _, s := range askSamples() {
		first, _ := impl.FinishWord(s, nil)
		for _, choices := range [][]int{nil, {}, {0}, make([]int, 7), make([]int, 20)} {
			word, ok := impl.RandomWalk(s, choices)
			wantWord(t, fmt.Sprintf("RandomWalk(%s, %v)", textOf(s), choices), word, ok, first, true)
		}
	}
}

func TestEachFullWordIsAWalk(t *testing.T) {
	for n := 1; n <= 4; n++ {
		for i, s := range spacesOf(n) {
			if n == 4 && i%20 > 0 {
				continue
			}
			words := map[string]bool{}
			for _, choices := range boxes(slices.Repeat([]int{n - 1}, n)) {
				word, _ := impl.RandomWalk(s, choices)
				words[fmt.Sprint(word)] = true
			}
			if all := fullWordsOf(s); len(words) != len(all) {
				t.Errorf("RandomWalk(%s) tells %d of %d full words", textOf(s), len(words), len(all))
			}
		}
	}
}

// There are no more than 7 steps: what choices behind them tell is not asked.
func TestChoicesBehindTheLastStep(t *testing.T) {
	for _, s := range []impl.Space{freeOf(1), freeOf(7), lineOf(7), turning} {
		choices := []int{1, 2, 3, 4, 5, 6, 7}
		for _, more := range []int{0, 1, 5, math.MaxInt} {
			longer := append(slices.Clone(choices), slices.Repeat([]int{more}, 13)...)
			word, ok := impl.RandomWalk(s, longer)
			wantWord(t, fmt.Sprintf("RandomWalk(%s, %v)", textOf(s), longer), word, ok, walkIn(s, choices), true)
		}
	}
	word, ok := impl.RandomWalk(freeOf(7), []int{1, 2, 3, 4, 5, 6, 7})
	wantWord(t, "RandomWalk", word, ok, []int{1, 3, 5, 0, 6, 2, 4}, true)
}
