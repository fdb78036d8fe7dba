package tests

import (
	"fmt"
	"math"
	"slices"
	"testing"

	"loop.example/g01137/impl"
)

// leastTask and mostTask are at all limits; no item costs less than the one, or more than the other one.
var (
	leastTask = impl.Task{Time: 1, Rate: 0, Base: -100}
	mostTask  = impl.Task{Time: 9, Rate: 9, Base: 100}
)

// madeTasks returns tasks of some kind: any, such that many costs are the same, at the limits, or with Rate 0.
func (c *chance) madeTasks(n int, kind int) []impl.Task {
	tasks := make([]impl.Task, n)
	for i := range tasks {
		switch kind {
		case 0:
			tasks[i] = impl.Task{Time: 1 + c.below(9), Rate: c.below(10), Base: c.below(201) - 100}
		case 1:
			tasks[i] = impl.Task{Time: 1 + c.below(2), Rate: c.below(3), Base: c.below(4)}
		case 2:
			tasks[i] = impl.Task{Time: 1 + 8*c.below(2), Rate: 9 * c.below(2), Base: 100 * (c.below(3) - 1)}
		default:
			tasks[i] = impl.Task{Time: 1 + c.below(9), Base: c.below(5) - 2}
		}
	}
	return tasks
}

// learning is a space with tasks for its items.
type learning struct {
	impl.Space
	tasks []impl.Task
}

func (l learning) text(what string) string {
	return fmt.Sprint(what, " ", textOf(l.Space), " ", l.tasks)
}

// learnings returns tasks of all kinds for all samples of spaces.
func learnings() []learning {
	c := chance(51)
	var all []learning
	for _, s := range samples() {
		for kind := range 4 {
			all = append(all, learning{s, c.madeTasks(s.Items, kind)})
		}
		for _, task := range []impl.Task{leastTask, mostTask, {Time: 2, Rate: 1}} {
			all = append(all, learning{s, slices.Repeat([]impl.Task{task}, s.Items)})
		}
	}
	return all
}

// costIn returns the cost of an item behind a set, as the document defines it.
func costIn(tasks []impl.Task, set int, item int) int {
	time := 0
	for i, task := range tasks {
		if set>>i&1 == 0 {
			time += task.Time
		}
	}
	return tasks[item].Rate*time + tasks[item].Base
}

func costsIn(tasks []impl.Task, word []int) []int {
	var costs []int
	for i, item := range word {
		costs = append(costs, costIn(tasks, setOf(word[:i]), item))
	}
	return costs
}

// leastNext returns the full word in which always the first of the items that can be learnt next with the least number
// is the next one.
func leastNext(s impl.Space, numberOf func(set int, item int) int) []int {
	in := marksOf(s.Sets)
	var word []int
	for len(word) < s.Items {
		set, next := setOf(word), -1
		for _, item := range pointsOf(outerOf(s.Items, in, set)) {
			if next < 0 || numberOf(set, item) < numberOf(set, next) {
				next = item
			}
		}
		word = append(word, next)
	}
	return word
}

func greedyIn(l learning) []int {
	return leastNext(l.Space, func(set int, item int) int { return costIn(l.tasks, set, item) })
}

func TestExampleOfChapter5(t *testing.T) {
	s := freeOf(2)
	tasks := []impl.Task{{Time: 1, Rate: 1}, {Time: 2, Rate: 1, Base: -5}}
	for item, want := range []int{3, -2} {
		cost, ok := impl.CostAt(s, tasks, 0, item)
		wantCount(t, fmt.Sprint("CostAt ", item), cost, ok, want)
	}
	word, ok := impl.GreedyWord(s, tasks)
	wantWord(t, "GreedyWord", word, ok, []int{1, 0}, true)
	cost, ok := impl.CostAt(s, tasks, 2, 0)
	wantCount(t, "CostAt behind 2", cost, ok, 1)
	count, ok := impl.CountBest(s, tasks)
	wantCount(t, "CountBest", count, ok, 1)
	cost, ok = impl.CostOfWord(s, tasks, []int{0, 1})
	wantCount(t, "CostOfWord", cost, ok, 3)
	cost, ok = impl.BestCost(s, tasks)
	wantCount(t, "BestCost", cost, ok, 1)
}

func TestAreTasksByDefinition(t *testing.T) {
	c := chance(52)
	for n := 1; n <= 7; n++ {
		for _, task := range []impl.Task{leastTask, mostTask, {Time: 1, Rate: 9, Base: -100}, {Time: 9, Rate: 0, Base: 100}, {Time: 1}} {
			if !impl.AreTasks(slices.Repeat([]impl.Task{task}, n), n) {
				t.Errorf("%+v are no tasks for %d items", task, n)
			}
		}
		for kind := range 4 {
			tasks := c.madeTasks(n, kind)
			for m := -1; m <= 9; m++ {
				if is := impl.AreTasks(tasks, m); is != (m == n) {
					t.Errorf("AreTasks %v for %d items: %v", tasks, m, is)
				}
			}
		}
	}
}

func TestCostAtByDefinition(t *testing.T) {
	for _, l := range learnings() {
		in := marksOf(l.Sets)
		for _, set := range l.Sets {
			next := outerOf(l.Items, in, set)
			for item := range l.Items {
				cost, ok := impl.CostAt(l.Space, l.tasks, set, item)
				if next>>item&1 == 1 {
					wantCount(t, l.text(fmt.Sprint("CostAt ", set, item)), cost, ok, costIn(l.tasks, set, item))
				} else if ok || cost != 0 {
					t.Error(l.text(fmt.Sprint("CostAt ", set, item, " not in the outer fringe: ", cost, ok)))
				}
			}
		}
	}
}

// Promise 5: greedy words are best.
func TestGreedyWordsAreBest(t *testing.T) {
	words, last := [][]int{}, impl.Space{}
	for _, l := range learnings() {
		if !sameSpace(l.Space, last) {
			words, last = fullWordsOf(l.Space), l.Space
		}
		wantBest(t, l, words)
	}
}

func wantBest(t *testing.T, l learning, words [][]int) {
	t.Helper()
	best, count := math.MaxInt, 0
	for i, word := range words {
		cost := slices.Max(costsIn(l.tasks, word))
		if cost < best {
			best, count = cost, 0
		}
		if cost == best {
			count++
		}
		if len(words) < 100 || i%50 == 0 {
			got, ok := impl.CostOfWord(l.Space, l.tasks, word)
			wantCount(t, l.text(fmt.Sprint("CostOfWord ", word)), got, ok, cost)
		}
	}
	word, ok := impl.GreedyWord(l.Space, l.tasks)
	wantWord(t, l.text("GreedyWord"), word, ok, greedyIn(l), true)
	cost, ok := impl.CostOfWord(l.Space, l.tasks, word)
	wantCount(t, l.text("CostOfWord of GreedyWord"), cost, ok, best)
	cost, ok = impl.BestCost(l.Space, l.tasks)
	wantCount(t, l.text("BestCost"), cost, ok, best)
	cost, ok = impl.BestCostPlain(l.Space, l.tasks)
	wantCount(t, l.text("BestCostPlain"), cost, ok, best)
	number, ok := impl.CountBest(l.Space, l.tasks)
	wantCount(t, l.text("CountBest"), number, ok, count)
}

// Promise 5: behind the items before the critical one, no item costs less than the best cost.
func TestCriticalItemByDefinition(t *testing.T) {
	for _, l := range learnings() {
		word := greedyIn(l)
		costs := costsIn(l.tasks, word)
		best := slices.Max(costs)
		place := slices.Index(costs, best)
		wantCritical(t, l, word[place], setOf(word[:place]))
		for _, item := range pointsOf(outerOf(l.Items, marksOf(l.Sets), setOf(word[:place]))) {
			if costIn(l.tasks, setOf(word[:place]), item) < best {
				t.Error(l.text(fmt.Sprint("item ", item, " costs less than the critical item ", word[place])))
			}
		}
	}
}

func wantCritical(t *testing.T, l learning, item int, before int) {
	t.Helper()
	got, set, ok := impl.CriticalItem(l.Space, l.tasks)
	if !ok || got != item || set != before {
		t.Errorf("%s: %d %d %v, want %d %d", l.text("CriticalItem"), got, set, ok, item, before)
	}
}

func TestItemsThatCostTheSame(t *testing.T) {
	for n := 1; n <= 7; n++ {
		ways, increasing := 1, pointsOf(fullOf(n))
		for i := range n {
			ways *= i + 1
		}
		for _, task := range []impl.Task{leastTask, mostTask, {Time: 1}, {Time: 1, Rate: 1}} {
			l := learning{freeOf(n), slices.Repeat([]impl.Task{task}, n)}
			word, ok := impl.GreedyWord(l.Space, l.tasks)
			wantWord(t, l.text("GreedyWord"), word, ok, increasing, true)
			count, ok := impl.CountBest(l.Space, l.tasks)
			wantCount(t, l.text("CountBest"), count, ok, ways)
			cost, ok := impl.BestCost(l.Space, l.tasks)
			wantCount(t, l.text("BestCost"), cost, ok, task.Rate*n*task.Time+task.Base)
			wantCritical(t, l, 0, 0)
		}
	}
	// The first items cost 2 in two ways, so that the least one comes first, whichever way that is.
	byTime, byBase := impl.Task{Time: 1, Rate: 1}, impl.Task{Time: 1, Base: 2}
	for _, tasks := range [][]impl.Task{{byTime, byBase}, {byBase, byTime}} {
		word, ok := impl.GreedyWord(freeOf(2), tasks)
		wantWord(t, "GreedyWord of the same costs", word, ok, []int{0, 1}, true)
	}
	// With Rate 0, costs are Bases, whatever the Times are: each word costs the greatest one.
	l := learning{freeOf(3), []impl.Task{{Time: 9, Base: 7}, {Time: 1, Base: -5}, {Time: 5, Base: 7}}}
	word, ok := impl.GreedyWord(l.Space, l.tasks)
	wantWord(t, "GreedyWord with Rate 0", word, ok, []int{1, 0, 2}, true)
	count, ok := impl.CountBest(l.Space, l.tasks)
	wantCount(t, "CountBest with Rate 0", count, ok, 6)
	wantCritical(t, l, 0, 2)
}

func TestGreedyOfOneItem(t *testing.T) {
	c := chance(53)
	for kind := range 4 {
		tasks := c.madeTasks(1, kind)
		l := learning{freeOf(1), tasks}
		want := tasks[0].Rate*tasks[0].Time + tasks[0].Base
		wantBest(t, l, [][]int{{0}})
		cost, ok := impl.BestCost(l.Space, tasks)
		wantCount(t, l.text("BestCost"), cost, ok, want)
		count, ok := impl.CountBest(l.Space, tasks)
		wantCount(t, l.text("CountBest"), count, ok, 1)
		wantCritical(t, l, 0, 0)
		for limit, kept := range map[int]int{want - 1: 0, want: 1, want + 1: 1} {
			set, ok := impl.KeptBelow(l.Space, tasks, limit)
			wantCount(t, l.text(fmt.Sprint("KeptBelow ", limit)), set, ok, kept)
		}
	}
	word, ok := impl.FirstWord(freeOf(1), []int{0})
	wantWord(t, "FirstWord", word, ok, []int{0}, true)
	word, ok = impl.LateWord(1, nil, []int{9}, []int{100})
	wantWord(t, "LateWord", word, ok, []int{0}, true)
}

// The greatest cost that there is, and the least one.
func TestCostsAtTheirLimits(t *testing.T) {
	for task, want := range map[impl.Task]int{mostTask: 9*63 + 100, leastTask: -100} {
		cost, ok := impl.CostOfWord(freeOf(7), slices.Repeat([]impl.Task{task}, 7), []int{6, 5, 4, 3, 2, 1, 0})
		wantCount(t, fmt.Sprint("CostOfWord ", task), cost, ok, want)
	}
}

// nextBelow returns the items that can be learnt next for at most a limit.
func nextBelow(l learning, in map[int]bool, set int, limit int) []int {
	return slices.DeleteFunc(pointsOf(outerOf(l.Items, in, set)), func(item int) bool { return costIn(l.tasks, set, item) > limit })
}

// endsBelow returns the sets at which all ways of learning items for at most a limit end.
func endsBelow(l learning, limit int) []int {
	in, ends, seen := marksOf(l.Sets), map[int]bool{}, map[int]bool{}
	var learn func(set int)
	learn = func(set int) {
		next := nextBelow(l, in, set, limit)
		if len(next) == 0 {
			ends[set] = true
		}
		for _, item := range next {
			if grown := set | 1<<item; !seen[grown] {
				seen[grown] = true
				learn(grown)
			}
		}
	}
	learn(0)
	return sortedKeys(ends)
}

// limitsOf returns costs to keep below: all that the greedy word has, one less, some others, and those at the limits.
func limitsOf(l learning) []int {
	costs := append(costsIn(l.tasks, greedyIn(l)), -10000, -101, -100, 0, 50, 667, 10000)
	for _, cost := range slices.Clone(costs)[:l.Items] {
		costs = append(costs, cost-1)
	}
	slices.Sort(costs)
	return slices.Compact(costs)
}

// Promise 5: what is kept below a cost is the same in any order.
func TestKeptBelowIsTheSameInAnyOrder(t *testing.T) {
	c := chance(54)
	for _, l := range learnings() {
		for _, limit := range limitsOf(l) {
			what := l.text(fmt.Sprint("below ", limit))
			ends := endsBelow(l, limit)
			if len(ends) != 1 {
				t.Fatalf("%s: ways end at %v", what, ends)
			}
			kept, ok := impl.KeptBelow(l.Space, l.tasks, limit)
			wantCount(t, what, kept, ok, ends[0])
			for _, choices := range c.someChoices() {
				kept, ok := impl.RunBelow(l.Space, l.tasks, limit, choices)
				wantCount(t, fmt.Sprint(what, choices), kept, ok, ends[0])
			}
		}
		best, ok := impl.BestCost(l.Space, l.tasks)
		kept, fine := impl.KeptBelow(l.Space, l.tasks, best)
		wantCount(t, l.text("KeptBelow BestCost"), kept, ok && fine, fullOf(l.Items))
		kept, fine = impl.KeptBelow(l.Space, l.tasks, best-1)
		_, before, ok := impl.CriticalItem(l.Space, l.tasks)
		wantCount(t, l.text("KeptBelow less than BestCost"), kept, ok && fine, before)
	}
}

// someChoices returns choices: none, small ones, great ones, and as many as there may be.
func (c *chance) someChoices() [][]int {
	small := make([]int, c.below(8))
	most := make([]int, 20)
	for i := range small {
		small[i] = c.below(7)
	}
	for i := range most {
		most[i] = c.below(1000000)
	}
	return [][]int{nil, {}, small, most, {math.MaxInt, math.MaxInt - 1, math.MaxInt - 2, 1 << 62, 1<<62 + 1}}
}

func TestKeptBelowAtItsLimits(t *testing.T) {
	for _, l := range []learning{{freeOf(1), []impl.Task{mostTask}}, {lineOf(7), slices.Repeat([]impl.Task{mostTask}, 7)},
		{freeOf(7), slices.Repeat([]impl.Task{leastTask}, 7)}} {
		for limit, want := range map[int]int{-10000: 0, 10000: fullOf(l.Items)} {
			kept, ok := impl.KeptBelow(l.Space, l.tasks, limit)
			wantCount(t, l.text(fmt.Sprint("KeptBelow ", limit)), kept, ok, want)
			kept, ok = impl.RunBelow(l.Space, l.tasks, limit, make([]int, 20))
			wantCount(t, l.text(fmt.Sprint("RunBelow ", limit)), kept, ok, want)
		}
		for _, limit := range []int{-10001, 10001, -20000, 20000, math.MaxInt, math.MinInt} {
			kept, ok := impl.KeptBelow(l.Space, l.tasks, limit)
			if again, fine := impl.RunBelow(l.Space, l.tasks, limit, nil); ok || fine || kept != 0 || again != 0 {
				t.Error(l.text(fmt.Sprint("KeptBelow ", limit, ": ", kept, ok, again, fine)))
			}
		}
		for _, choices := range [][]int{make([]int, 21), {-1}, {0, 0, math.MinInt}, append(make([]int, 19), -1), make([]int, 100000)} {
			if kept, ok := impl.RunBelow(l.Space, l.tasks, 0, choices); ok || kept != 0 {
				t.Error(l.text(fmt.Sprint("RunBelow of ", len(choices), " choices: ", kept, ok)))
			}
		}
	}
}

// places returns for each item its index in an order.
func places(order []int) []int {
	ranks := make([]int, len(order))
	for i, item := range order {
		ranks[item] = i
	}
	return ranks
}

func TestFirstWordOfAllRanks(t *testing.T) {
	c := chance(55)
	var all [8][][]int
	for n := 1; n <= 7; n++ {
		all[n] = orders(n)
	}
	for _, s := range samples() {
		for _, ranks := range some(&c, all[s.Items], 30) {
			word, ok := impl.FirstWord(s, ranks)
			want := leastNext(s, func(_ int, item int) int { return ranks[item] })
			wantWord(t, fmt.Sprint("FirstWord ", textOf(s), ranks), word, ok, want, true)
		}
		for _, full := range some(&c, fullWordsOf(s), 30) {
			word, ok := impl.FirstWord(s, places(full))
			wantWord(t, fmt.Sprint("FirstWord of the places in a word of ", textOf(s)), word, ok, full, true)
		}
	}
	for n := 1; n <= 7; n++ {
		for _, ranks := range all[n] {
			word, ok := impl.FirstWord(freeOf(n), ranks)
			if !ok || !slices.Equal(places(word), ranks) {
				t.Errorf("FirstWord of all sets, %v: %v %v", ranks, word, ok)
			}
		}
	}
}
