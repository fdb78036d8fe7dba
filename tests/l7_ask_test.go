package tests

import (
	"fmt"
	"slices"
	"testing"

	"loop.example/g01137/impl"
)

var (
	// halfIsWorse needs 4 questions in the worst case, but 5 if they always halve.
	halfIsWorse = impl.Space{Items: 5, Sets: []int{0, 2, 3, 4, 5, 6, 7, 11, 13, 15, 31}}
	// worstIsMore needs 39 questions for all of its Sets, but 40 if they are best in the worst case or always halve.
	worstIsMore = impl.Space{Items: 5, Sets: []int{0, 8, 10, 11, 16, 18, 19, 24, 26, 27, 31}}
	// farFromHalving has 16 Sets, of which the worst one needs 6 questions.
	farFromHalving = impl.Space{Items: 6, Sets: []int{0, 1, 2, 3, 16, 17, 18, 19, 23, 27, 31, 49, 51, 55, 59, 63}}
)

// shrunk returns spaces of n items with all numbers of Sets that there can be, each one part of that before it.
func shrunk(c *chance, n int) []impl.Space {
	all := []impl.Space{freeOf(n)}
	for s := all[0]; len(s.Sets) > n+1; all = append(all, s) {
		var fewer []impl.Space
		for _, set := range s.Sets {
			if canGo(s, set) {
				fewer = append(fewer, impl.Space{Items: n, Sets: slices.DeleteFunc(slices.Clone(s.Sets), func(other int) bool { return other == set })})
			}
		}
		s = fewer[c.below(len(fewer))]
	}
	return all
}

// canGo reports whether a space is left without one of the Sets: a path that no other one needs to be learnt.
func canGo(s impl.Space, set int) bool {
	in := marksOf(s.Sets)
	return set != fullOf(s.Items) && sizeOf(innerOf(s.Items, in, set)) == 1 &&
		!slices.ContainsFunc(pointsOf(outerOf(s.Items, in, set)), func(item int) bool { return sizeOf(innerOf(s.Items, in, set+1<<item)) == 1 })
}

// askSamples are spaces to ask for: with items that have one path and with some that have several, of all numbers of Sets.
func askSamples() []impl.Space {
	c := chance(71)
	all := append(pathSamples(), turning, halfIsWorse, worstIsMore, farFromHalving)
	for n := 5; n <= 7; n++ {
		for i, s := range shrunk(&c, n) {
			if i%5 == 0 {
				all = append(all, s)
			}
		}
	}
	return all
}

// leftIn returns the Sets that answers leave, as the document defines it.
func leftIn(s impl.Space, yes int, no int) []int {
	var left []int
	for _, set := range s.Sets {
		if isPart(yes, set) && set&no == 0 {
			left = append(left, set)
		}
	}
	return left
}

// allAnswers returns all pairs of sets of n items without a common item.
func allAnswers(n int) [][]int {
	all := [][]int{{0, 0}}
	for item := range n {
		for _, a := range slices.Clone(all) {
			all = append(all, []int{a[0] + 1<<item, a[1]}, []int{a[0], a[1] + 1<<item})
		}
	}
	return all
}

// answersFor returns all answers by which a Set of a space is left, or some of them if the space has more than 4 items.
func answersFor(c *chance, s impl.Space) [][]int {
	all := slices.DeleteFunc(allAnswers(s.Items), func(a []int) bool { return len(leftIn(s, a[0], a[1])) == 0 })
	if s.Items > 4 {
		return some(c, all, 12)
	}
	return all
}

func answersText(what string, s impl.Space, a []int) string {
	return fmt.Sprint(what, " ", textOf(s), " yes ", a[0], " no ", a[1])
}

// partedBy returns those of some sets that have an item, and those that have not.
func partedBy(sets []int, item int) ([]int, []int) {
	var with, without []int
	for _, set := range sets {
		if set>>item&1 == 1 {
			with = append(with, set)
		} else {
			without = append(without, set)
		}
	}
	return with, without
}

// openIn returns the items of which a strategy may ask for one: that are in some, but not in all of the sets.
func openIn(sets []int) []int {
	var open []int
	for item := range 7 {
		if with, without := partedBy(sets, item); len(with) > 0 && len(without) > 0 {
			open = append(open, item)
		}
	}
	return open
}

// way is a strategy for sets of at most 4 items: the item with which it begins, or -1, and how often it asks for each set.
type way struct {
	first int
	asked [16]int
}

func (w way) worst() int { return slices.Max(w.asked[:]) }

func (w way) total() int {
	sum := 0
	for _, count := range w.asked {
		sum += count
	}
	return sum
}

// waysFor returns all strategies for some sets of at most 4 items.
func waysFor(left []int) []way {
	if len(left) == 1 {
		return []way{{first: -1}}
	}
	var all []way
	for _, item := range openIn(left) {
		with, without := partedBy(left, item)
		behind := waysFor(without)
		for _, a := range waysFor(with) {
			for _, b := range behind {
				w := way{first: item}
				for _, set := range left {
					w.asked[set] = 1 + a.asked[set] + b.asked[set]
				}
				all = append(all, w)
			}
		}
	}
	return all
}

// asker finds the least numbers of questions of a space by all answers, each of them once.
type asker struct {
	space        impl.Space
	worst, total map[[2]int]int
}

func newAsker(s impl.Space) asker {
	return asker{space: s, worst: map[[2]int]int{}, total: map[[2]int]int{}}
}

func (a asker) leastWorst(yes int, no int) int {
	if known, ok := a.worst[[2]int{yes, no}]; ok {
		return known
	}
	least := 0
	for i, item := range openIn(leftIn(a.space, yes, no)) {
		if worst := a.worstWith(yes, no, item); i == 0 || worst < least {
			least = worst
		}
	}
	a.worst[[2]int{yes, no}] = least
	return least
}

// worstWith returns how many questions the worst case needs if the first one is for an item.
func (a asker) worstWith(yes int, no int, item int) int {
	return 1 + max(a.leastWorst(yes|1<<item, no), a.leastWorst(yes, no|1<<item))
}

func (a asker) leastTotal(yes int, no int) int {
	if known, ok := a.total[[2]int{yes, no}]; ok {
		return known
	}
	left, least := leftIn(a.space, yes, no), 0
	for i, item := range openIn(left) {
		total := len(left) + a.leastTotal(yes|1<<item, no) + a.leastTotal(yes, no|1<<item)
		if i == 0 || total < least {
			least = total
		}
	}
	a.total[[2]int{yes, no}] = least
	return least
}

// bestQuestion returns -1 if one set is left.
func (a asker) bestQuestion(yes int, no int) int {
	for _, item := range openIn(leftIn(a.space, yes, no)) {
		if a.worstWith(yes, no, item) == a.leastWorst(yes, no) {
			return item
		}
	}
	return -1
}

// runWith returns the items that are asked for by a rule, as long as more than one set is left.
func runWith(s impl.Space, set int, question func(yes int, no int) int) []int {
	var run []int
	for yes, no := 0, 0; len(leftIn(s, yes, no)) > 1; {
		item := question(yes, no)
		run = append(run, item)
		if set>>item&1 == 1 {
			yes |= 1 << item
		} else {
			no |= 1 << item
		}
	}
	return run
}

func (a asker) askRun(set int) []int { return runWith(a.space, set, a.bestQuestion) }

func TestExampleOfChapter7(t *testing.T) {
	for n := 1; n <= 7; n++ {
		for set := range 1 << n {
			run, ok := impl.AskRun(freeOf(n), set)
			wantWord(t, fmt.Sprint("AskRun of all sets ", set), run, ok, pointsOf(fullOf(n)), true)
		}
	}
	chain := impl.Space{Items: 3, Sets: []int{0, 1, 3, 7}}
	item, ok := impl.BestQuestion(chain, 0, 0)
	wantCount(t, "BestQuestion", item, ok, 1)
	left, ok := impl.SetsLeft(chain, 0, 2)
	wantWord(t, "SetsLeft no", left, ok, []int{0, 1}, true)
	left, ok = impl.SetsLeft(chain, 2, 0)
	wantWord(t, "SetsLeft yes", left, ok, []int{3, 7}, true)
	for set, want := range map[int][]int{0: {1, 0}, 1: {1, 0}, 3: {1, 2}, 7: {1, 2}} {
		run, ok := impl.AskRun(chain, set)
		wantWord(t, fmt.Sprint("AskRun ", set), run, ok, want, true)
	}
}

// wantLeft compares what is said of the Sets that are left with the definition.
func wantLeft(t *testing.T, s impl.Space, a []int) {
	t.Helper()
	yes, no := a[0], a[1]
	left := leftIn(s, yes, no)
	fine := isBelow(yes, 1<<s.Items) && isBelow(no, 1<<s.Items) && len(left) > 0
	if !fine {
		left = nil
	}
	sets, ok := impl.SetsLeft(s, yes, no)
	wantWord(t, answersText("SetsLeft", s, a), sets, ok, left, fine)
	count, ok := impl.CountLeft(s, yes, no)
	if ok != fine || count != len(left) {
		t.Errorf("%s: %d %v", answersText("CountLeft", s, a), count, ok)
	}
	wantAll, wantNone := 0, 0
	for item := range s.Items {
		if with, without := partedBy(left, item); fine && len(without) == 0 {
			wantAll += 1 << item
		} else if fine && len(with) == 0 {
			wantNone += 1 << item
		}
	}
	all, none, ok := impl.KnownOf(s, yes, no)
	if ok != fine || all != wantAll || none != wantNone {
		t.Errorf("%s: %d %d %v, want %d %d", answersText("KnownOf", s, a), all, none, ok, wantAll, wantNone)
	}
}

// Answers with common items and with items that are none of the space, such that no set is left, one, some, or all.
func TestSetsLeftByDefinition(t *testing.T) {
	for n := 1; n <= 3; n++ {
		for _, s := range spacesOf(n) {
			for yes := -1; yes <= 2<<n; yes++ {
				for no := -1; no <= 2<<n; no++ {
					wantLeft(t, s, []int{yes, no})
				}
			}
		}
	}
	c := chance(72)
	for _, s := range askSamples() {
		for _, a := range some(&c, allAnswers(s.Items), 40) {
			wantLeft(t, s, a)
		}
		for _, set := range s.Sets {
			wantLeft(t, s, []int{set, 0})
			wantLeft(t, s, []int{0, fullOf(s.Items) - set})
			wantLeft(t, s, []int{set, fullOf(s.Items) - set})
		}
	}
}

func TestSetsLeftOfSomeAnswers(t *testing.T) {
	s := chapter3Example
	for _, asked := range []struct {
		yes, no   int
		left      []int
		all, none int
	}{
		{0, 0, []int{0, 1, 2, 3, 5, 6, 7}, 0, 0},
		{4, 0, []int{5, 6, 7}, 4, 0},
		{0, 4, []int{0, 1, 2, 3}, 0, 4},
		{0, 1, []int{0, 2, 6}, 0, 1},
		{4, 1, []int{6}, 6, 1},
		{0, 3, []int{0}, 0, 7},
		{7, 0, []int{7}, 7, 0},
		{0, 7, []int{0}, 0, 7},
		{1, 6, []int{1}, 1, 6},
		{2, 4, []int{2, 3}, 2, 4},
	} {
		sets, ok := impl.SetsLeft(s, asked.yes, asked.no)
		wantWord(t, fmt.Sprint("SetsLeft ", asked.yes, asked.no), sets, ok, asked.left, true)
		count, ok := impl.CountLeft(s, asked.yes, asked.no)
		wantCount(t, fmt.Sprint("CountLeft ", asked.yes, asked.no), count, ok, len(asked.left))
		all, none, ok := impl.KnownOf(s, asked.yes, asked.no)
		wantWord(t, fmt.Sprint("KnownOf ", asked.yes, asked.no), []int{all, none}, ok, []int{asked.all, asked.none}, true)
	}
	for _, asked := range [][2]int{{4, 3}, {1, 1}, {3, 2}, {7, 7}, {8, 0}, {0, 8}, {1, 8}, {-1, 0}, {0, -1}, {7, 8}} {
		if sets, ok := impl.SetsLeft(s, asked[0], asked[1]); ok || len(sets) > 0 {
			t.Errorf("SetsLeft %v: %v %v", asked, sets, ok)
		}
	}
}

// wantBestQuestion wants a failure if the item is -1: then just one set is left.
func wantBestQuestion(t *testing.T, s impl.Space, a []int, want int) {
	t.Helper()
	item, ok := impl.BestQuestion(s, a[0], a[1])
	if ok != (want >= 0) || item != max(want, 0) {
		t.Errorf("%s: %d %v, want %d", answersText("BestQuestion", s, a), item, ok, want)
	}
}

// Promise 7: no strategy has a worst case with fewer questions, and one that begins with BestQuestion has one with no more.
func TestAllStrategiesOfSmallSpaces(t *testing.T) {
	c := chance(73)
	for n := 1; n <= 4; n++ {
		for _, s := range spacesOf(n) {
			for _, a := range answersFor(&c, s) {
				worst, first := 1<<n, -1
				for _, w := range waysFor(leftIn(s, a[0], a[1])) {
					if least := w.worst(); least < worst || least == worst && w.first < first {
						worst, first = least, w.first
					}
				}
				got, ok := impl.LeastWorst(s, a[0], a[1])
				wantCount(t, answersText("LeastWorst", s, a), got, ok, worst)
				wantBestQuestion(t, s, a, first)
			}
		}
	}
}

func TestLeastTotalOfAllStrategies(t *testing.T) {
	for n := 1; n <= 4; n++ {
		for _, s := range spacesOf(n) {
			least := 16 * 16
			for _, w := range waysFor(s.Sets) {
				least = min(least, w.total())
			}
			total, ok := impl.LeastTotal(s)
			wantCount(t, "LeastTotal "+textOf(s), total, ok, least)
		}
	}
}

func TestStrategiesOfGreaterSpaces(t *testing.T) {
	c := chance(74)
	for _, s := range askSamples() {
		if s.Items <= 4 {
			continue
		}
		asker := newAsker(s)
		for _, a := range answersFor(&c, s) {
			worst, ok := impl.LeastWorst(s, a[0], a[1])
			wantCount(t, answersText("LeastWorst", s, a), worst, ok, asker.leastWorst(a[0], a[1]))
			wantBestQuestion(t, s, a, asker.bestQuestion(a[0], a[1]))
		}
		total, ok := impl.LeastTotal(s)
		wantCount(t, "LeastTotal "+textOf(s), total, ok, asker.leastTotal(0, 0))
	}
}

// wantFinding wants each question of a run to be for an item that is open, and just the set to be left behind the last.
func wantFinding(t *testing.T, s impl.Space, set int, run []int) {
	t.Helper()
	yes, no := 0, 0
	for _, item := range run {
		if !slices.Contains(openIn(leftIn(s, yes, no)), item) {
			t.Errorf("%s: %v asks for %d in vain", textOf(s), run, item)
		}
		yes |= 1 << item & set
		no |= 1 << item &^ set
	}
	if left := leftIn(s, yes, no); !slices.Equal(left, []int{set}) {
		t.Errorf("%s: %v leaves %v, want %d", textOf(s), run, left, set)
	}
}

// Promise 7: the runs find each of the Sets, in no more questions than LeastWorst, which one of them needs.
func TestAskRunByDefinition(t *testing.T) {
	for _, s := range askSamples() {
		asker := newAsker(s)
		longest, worst := 0, 0
		for _, set := range s.Sets {
			run, ok := impl.AskRun(s, set)
			wantWord(t, fmt.Sprint("AskRun ", textOf(s), " ", set), run, ok, asker.askRun(set), true)
			wantFinding(t, s, set, run)
			if len(run) > longest {
				longest, worst = len(run), set
			}
		}
		least, ok := impl.LeastWorst(s, 0, 0)
		wantCount(t, "LeastWorst beside the longest AskRun of "+textOf(s), least, ok, longest)
		set, ok := impl.WorstSet(s)
		wantCount(t, "WorstSet "+textOf(s), set, ok, worst)
	}
}

// Each run is BestQuestion by the answers before it.
func TestAskRunAsksBestQuestions(t *testing.T) {
	for _, s := range askSamples() {
		for _, set := range []int{s.Sets[0], s.Sets[len(s.Sets)/2], s.Sets[len(s.Sets)-1]} {
			run, ok := impl.AskRun(s, set)
			want := runWith(s, set, func(yes int, no int) int {
				item, _ := impl.BestQuestion(s, yes, no)
				return item
			})
			wantWord(t, fmt.Sprint("AskRun ", textOf(s), " ", set), run, ok, want, true)
		}
	}
}

func TestAskRunOfOtherSets(t *testing.T) {
	for _, s := range askSamples() {
		for set := -2; set <= 2<<s.Items; set++ {
			if run, ok := impl.AskRun(s, set); ok != slices.Contains(s.Sets, set) || ok != (len(run) > 0) {
				t.Errorf("AskRun %s %d: %v %v", textOf(s), set, run, ok)
			}
		}
	}
}

func TestQuestionsOfSomeSpaces(t *testing.T) {
	for _, asked := range []struct {
		space                         impl.Space
		worst, question, total, first int
	}{
		{freeOf(1), 1, 0, 2, 0},
		{impl.Space{Items: 2, Sets: []int{0, 1, 3}}, 2, 0, 5, 1},
		{impl.Space{Items: 2, Sets: []int{0, 2, 3}}, 2, 0, 5, 0},
		{freeOf(2), 2, 0, 8, 0},
		{impl.Space{Items: 3, Sets: []int{0, 1, 3, 7}}, 2, 1, 8, 0},
		{impl.Space{Items: 4, Sets: []int{0, 1, 3, 7, 15}}, 3, 0, 12, 1},
		{impl.Space{Items: 7, Sets: beginnings(pointsOf(127))}, 3, 3, 24, 0},
		{freeOf(4), 4, 0, 64, 0},
		{freeOf(7), 7, 0, 896, 0},
		{halfIsWorse, 4, 1, 39, 3},
		{farFromHalving, 6, 0, 68, 19},
	} {
		what := textOf(asked.space)
		worst, ok := impl.LeastWorst(asked.space, 0, 0)
		wantCount(t, "LeastWorst "+what, worst, ok, asked.worst)
		item, ok := impl.BestQuestion(asked.space, 0, 0)
		wantCount(t, "BestQuestion "+what, item, ok, asked.question)
		total, ok := impl.LeastTotal(asked.space)
		wantCount(t, "LeastTotal "+what, total, ok, asked.total)
		set, ok := impl.WorstSet(asked.space)
		wantCount(t, "WorstSet "+what, set, ok, asked.first)
	}
}

// What is best for the worst case need not be best for all together.
func TestLeastTotalIsNotThatOfBestQuestions(t *testing.T) {
	sum := 0
	for _, set := range worstIsMore.Sets {
		run, _ := impl.AskRun(worstIsMore, set)
		sum += len(run)
	}
	total, ok := impl.LeastTotal(worstIsMore)
	wantCount(t, "LeastTotal "+textOf(worstIsMore), total, ok, 39)
	if sum != 40 {
		t.Errorf("the runs of %s have %d questions", textOf(worstIsMore), sum)
	}
}

// The tests are worth what their spaces are: of all numbers of Sets, with items of one path and of several.
func TestShrunkSpaces(t *testing.T) {
	c := chance(75)
	for n := 1; n <= 7; n++ {
		for i, s := range shrunk(&c, n) {
			if len(s.Sets) != 1<<n-i || !isDefined(s) {
				t.Errorf("%d Sets: %s", 1<<n-i, textOf(s))
			}
		}
	}
}
