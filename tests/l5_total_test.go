package tests

import (
	"math"
	"slices"
	"testing"

	"loop.example/g01137/impl"
)

func isBetween(low int, number int, high int) bool { return low <= number && number <= high }

// areTasksOf reports whether tasks are ones for n items, as the document defines it.
func areTasksOf(tasks []impl.Task, n int) bool {
	return isBetween(1, n, 7) && len(tasks) == n && !slices.ContainsFunc(tasks, func(task impl.Task) bool {
		return !isBetween(1, task.Time, 9) || !isBetween(0, task.Rate, 9) || !isBetween(-100, task.Base, 100)
	})
}

func hasTasks(a arguments) bool { return areTasksOf(a.tasks, a.space.Items) }

func canLearnItem(a arguments) bool {
	return isOpenItem(a) && slices.Contains(a.space.Sets, a.number|1<<a.item)
}

func isLimit(a arguments) bool { return hasTasks(a) && isBetween(-10000, a.number, 10000) }

func hasChoices(a arguments) bool {
	return isLimit(a) && len(a.list) <= 20 && !slices.ContainsFunc(a.list, func(choice int) bool { return choice < 0 })
}

// areJobs reports whether rows are pairs, and two lists times and due times, for jobs of which there is an order.
func areJobs(a arguments) bool {
	if !isBetween(1, a.number, 7) || !arePairsOf(a.rows, a.number) || len(a.list) != a.number || len(a.second) != a.number ||
		slices.ContainsFunc(a.list, func(time int) bool { return !isBetween(1, time, 9) }) ||
		slices.ContainsFunc(a.second, func(due int) bool { return !isBetween(0, due, 100) }) {
		return false
	}
	_, ok := wantedOrder(a.number, a.rows)
	return ok
}

// Costs, sets and numbers of items are told by the number of an argument, words, choices, ranks and times by the list,
// due times by the second one, and pairs by the rows.
var chapter5 = chapter{inSpaces: []demanding{
	{function{"CostAt", func(a arguments) (any, bool) { return result(impl.CostAt(a.space, a.tasks, a.number, a.item)) }},
		func(a arguments) bool { return hasTasks(a) && canLearnItem(a) }},
	{function{"CostOfWord", func(a arguments) (any, bool) { return result(impl.CostOfWord(a.space, a.tasks, a.list)) }},
		func(a arguments) bool { return hasTasks(a) && isFullWord(a) }},
	{function{"GreedyWord", func(a arguments) (any, bool) { return result(impl.GreedyWord(a.space, a.tasks)) }}, hasTasks},
	{function{"BestCost", func(a arguments) (any, bool) { return result(impl.BestCost(a.space, a.tasks)) }}, hasTasks},
	{function{"BestCostPlain", func(a arguments) (any, bool) { return result(impl.BestCostPlain(a.space, a.tasks)) }}, hasTasks},
	{function{"CountBest", func(a arguments) (any, bool) { return result(impl.CountBest(a.space, a.tasks)) }}, hasTasks},
	{function{"CriticalItem", func(a arguments) (any, bool) {
		item, before, ok := impl.CriticalItem(a.space, a.tasks)
		return [2]int{item, before}, ok
	}}, hasTasks},
	{function{"KeptBelow", func(a arguments) (any, bool) { return result(impl.KeptBelow(a.space, a.tasks, a.number)) }}, isLimit},
	{function{"RunBelow", func(a arguments) (any, bool) { return result(impl.RunBelow(a.space, a.tasks, a.number, a.list)) }}, hasChoices},
	{function{"FirstWord", func(a arguments) (any, bool) { return result(impl.FirstWord(a.space, a.list)) }},
		func(a arguments) bool { return isFullWordOf(freeOf(a.space.Items), a.list) }},
}, withoutSpace: []demanding{
	{function{"AreTasks", func(a arguments) (any, bool) { ok := impl.AreTasks(a.tasks, a.number); return ok, ok }},
		func(a arguments) bool { return areTasksOf(a.tasks, a.number) }},
	{function{"LateWord", func(a arguments) (any, bool) { return result(impl.LateWord(a.number, a.rows, a.list, a.second)) }}, areJobs},
}}

// ofTasks are the functions that take tasks.
var ofTasks = []string{"CostAt", "CostOfWord", "GreedyWord", "BestCost", "BestCostPlain", "CountBest", "CriticalItem", "KeptBelow",
	"RunBelow", "AreTasks"}

func TestGreedyInInvalidSpacesFail(t *testing.T) {
	c := chance(57)
	for _, s := range invalidSpaces() {
		for _, n := range []int{0, 1, 2, 3, 7, min(max(s.Items, 0), 70)} {
			order, tasks := pointsOf(fullOf(min(n, 9))), c.madeTasks(n, 0)
			for number := -1; number <= 8; number++ {
				chapter5.wantCalls(t, arguments{space: s, tasks: tasks, number: number, list: order, item: c.below(n + 1)})
			}
		}
	}
}

// fineCalls returns for a space a call with which a function that takes it succeeds.
func fineCalls(c *chance, s impl.Space) map[string]arguments {
	word := fullWordsOf(s)[0]
	a := arguments{space: s, tasks: c.madeTasks(s.Items, 0), list: word, item: word[0]}
	calls := map[string]arguments{}
	for _, f := range chapter5.inSpaces {
		calls[f.name] = a
	}
	a.number = s.Items
	calls["AreTasks"] = a
	return calls
}

func TestInvalidTasksFail(t *testing.T) {
	c := chance(58)
	for _, s := range samples() {
		for name, a := range fineCalls(&c, s) {
			f := chapter5.named(name)
			wantSuccess(t, f, a)
			if !slices.Contains(ofTasks, name) {
				continue
			}
			tasks := a.tasks
			for _, count := range []int{0, s.Items - 1, s.Items + 1, 7, 8, 64, 1000} {
				if count != s.Items {
					a.tasks = slices.Repeat(tasks[:1], count)
					wantFailure(t, f, a)
				}
			}
			a.tasks = nil
			wantFailure(t, f, a)
			for _, task := range invalidTasks() {
				a.tasks = slices.Clone(tasks)
				a.tasks[c.below(s.Items)] = task
				wantFailure(t, f, a)
			}
		}
	}
}

// invalidTasks returns tasks with one number out of range: one more or less than may be, or far more or less.
func invalidTasks() []impl.Task {
	tasks := []impl.Task{{}}
	far := []int{math.MaxInt, math.MinInt, math.MinInt + 1, 1 << 62, 1 << 32}
	for _, time := range append(far, 0, -1, 10, 11) {
		tasks = append(tasks, impl.Task{Time: time}, impl.Task{Time: time, Rate: 9, Base: 100})
	}
	for _, rate := range append(far, -1, -9, 10, 11) {
		tasks = append(tasks, impl.Task{Time: 1, Rate: rate}, impl.Task{Time: 9, Rate: rate, Base: 100})
	}
	for _, base := range append(far, -101, 101, -200, 200) {
		tasks = append(tasks, impl.Task{Time: 1, Base: base}, impl.Task{Time: 9, Rate: 9, Base: base})
	}
	return tasks
}

func TestNumbersOfItemsThatTasksAreNotForFail(t *testing.T) {
	f := chapter5.named("AreTasks")
	for _, n := range append(farNumbers(), 0, 8, 9, 63, 64, 65) {
		for _, count := range []int{0, 1, 7, 8, 9, 64} {
			wantFailure(t, f, arguments{number: n, tasks: slices.Repeat([]impl.Task{{Time: 1}}, count)})
		}
	}
}

func TestCostsOfOtherSetsAndItemsFail(t *testing.T) {
	c := chance(59)
	f := chapter5.named("CostAt")
	for _, s := range samples() {
		a := fineCalls(&c, s)["CostAt"]
		for item := range s.Items {
			for set := range 2 << s.Items {
				a.number, a.item = set, item
				if !canLearnItem(a) {
					wantFailure(t, f, a)
				}
			}
		}
		for _, number := range append(farNumbers(), s.Items, s.Items+1, 7, 8, 63, 64, 65) {
			a.number, a.item = 0, number
			wantFailure(t, f, a)
			a.number = fullOf(s.Items)
			wantFailure(t, f, a)
		}
		for _, number := range append(farNumbers(), 1<<s.Items, 1<<s.Items+1, 2<<s.Items) {
			a.number, a.item = number, a.list[0]
			wantFailure(t, f, a)
		}
	}
}

func TestWordsThatAreNotFullFail(t *testing.T) {
	c := chance(60)
	for _, s := range samples() {
		a := fineCalls(&c, s)["CostOfWord"]
		word := a.list
		for _, list := range append(invalidWords(s), nil, word[:s.Items-1], word[1:], orders(s.Items)[c.below(s.Items)]) {
			if !isFullWordOf(s, list) {
				a.list = list
				wantFailure(t, chapter5.named("CostOfWord"), a)
			}
		}
	}
}

func TestInvalidRanksFail(t *testing.T) {
	f := chapter5.named("FirstWord")
	for _, s := range samples() {
		ranks := pointsOf(fullOf(s.Items))
		for _, list := range [][]int{nil, {}, ranks[1:], ranks[:s.Items-1], append(slices.Clone(ranks), s.Items),
			append(slices.Clone(ranks), 0), append([]int{0}, ranks...), make([]int, 64), make([]int, 100000)} {
			wantFailure(t, f, arguments{space: s, list: list})
		}
		for i := range ranks {
			for _, rank := range append(farNumbers(), s.Items, 7, 8, 63, 64, 65, (i+1)%s.Items, (i+s.Items-1)%s.Items) {
				if rank != i {
					changed := slices.Clone(ranks)
					changed[i] = rank
					wantFailure(t, f, arguments{space: s, list: changed})
				}
			}
		}
	}
}

func TestInvalidJobsFail(t *testing.T) {
	f := chapter5.named("LateWord")
	a := arguments{number: 3, rows: [][]int{{0, 1}}, list: []int{1, 9, 5}, second: []int{0, 100, 50}}
	wantSuccess(t, f, a)
	for _, pairs := range invalidPairs() {
		bad := a
		bad.rows = pairs
		wantFailure(t, f, bad)
	}
	for _, list := range [][]int{nil, {}, {1, 2}, {1, 2, 3, 4}, make([]int, 4), make([]int, 100000)} {
		bad := a
		bad.list = list
		wantFailure(t, f, bad)
		bad.second = list
		wantFailure(t, f, bad)
		bad.list = a.list
		wantFailure(t, f, bad)
	}
	for place := range 3 {
		for _, number := range append(farNumbers(), 0, 10, 11, 101, 200) {
			bad := a
			bad.list, bad.second = slices.Clone(a.list), slices.Clone(a.second)
			bad.list[place] = number
			wantFailure(t, f, bad)
		}
		for _, number := range append(farNumbers(), 101, 102, -100) {
			bad := a
			bad.second = slices.Clone(a.second)
			bad.second[place] = number
			wantFailure(t, f, bad)
		}
	}
	for _, n := range append(farNumbers(), 0, 8, 9, 63, 64, 65) {
		times := slices.Repeat([]int{1}, min(max(n, 0), 70))
		wantFailure(t, f, arguments{number: n, list: times, second: times})
		wantFailure(t, f, arguments{number: n, list: []int{1}, second: []int{1}, rows: [][]int{{0, 1}}})
	}
}

// validGreedyCalls returns arguments with which each function of chapter 5 succeeds, and some with which it fails.
func validGreedyCalls() []arguments {
	s := impl.Space{Items: 3, Sets: []int{0, 1, 4, 5, 7}}
	tasks := []impl.Task{{Time: 2, Rate: 1, Base: -3}, {Time: 1, Rate: 4}, {Time: 9, Rate: 9, Base: 100}}
	equal := slices.Repeat([]impl.Task{{Time: 1, Rate: 1}}, 7)
	return []arguments{
		{space: s, tasks: tasks, number: 0, item: 2, list: []int{0, 2, 1}, second: []int{5, 0, 100}, rows: [][]int{{0, 1}}},
		{space: s, tasks: tasks, number: 3, item: 0, list: []int{2, 1, 3}, second: []int{5, 0, 100}, rows: [][]int{{0, 1}, {1, 2}}},
		{space: s, tasks: tasks[:2], number: 2, item: 1, list: []int{2, 0}, second: []int{5, 0}, rows: [][]int{{0, 1}, {1, 0}}},
		{space: freeOf(7), tasks: equal, number: 7, item: 6, list: []int{6, 5, 4, 3, 2, 1, 0}, second: []int{1, 2, 3, 4, 5, 6, 7}},
		{space: lineOf(7), tasks: equal, number: 7, item: 5, list: []int{1, 2, 3, 4, 5, 6, 7}, second: make([]int, 7), rows: allPairs(7)},
		{space: freeOf(1), tasks: tasks[:1], number: 1, item: 0, list: []int{9}, second: []int{100}, rows: [][]int{}},
		{space: freeOf(1), tasks: tasks[:1], number: -1, item: 0, list: []int{0}, second: []int{100}, rows: nil},
		{space: freeOf(2), tasks: tasks[:2], number: 10000, item: 0, list: make([]int, 20), rows: [][]int{{0, 0}}},
		{space: freeOf(2), tasks: []impl.Task{{}, {Time: 1}}, number: -10000, item: 1, list: []int{0, 1}},
		{space: impl.Space{Items: 2, Sets: []int{3, 1, 0}}, tasks: tasks[:2], number: 2, list: []int{1, 2}, second: []int{-1, 3}},
		{},
	}
}

func TestGreedyArgumentsAreKept(t *testing.T) {
	for _, a := range validGreedyCalls() {
		chapter5.wantCalls(t, a)
	}
}

func TestValidGreedyCallsSucceed(t *testing.T) {
	chapter5.wantSuccesses(t, validGreedyCalls())
}

func TestGreedyResultsAreNewMemory(t *testing.T) {
	chapter5.wantNewMemory(t, validGreedyCalls())
}

// What is behind the length of a list does not belong to it.
func TestSpareCapacityIsNoTask(t *testing.T) {
	s, tasks, order := freeOf(2), slices.Repeat([]impl.Task{{Time: 3, Rate: 1}}, 3), []int{1, 0, 2}
	wantFailures(t, chapter5, ofTasks, arguments{space: s, tasks: tasks[:1], number: 2, list: order[:2]})
	wantFailures(t, chapter5, ofTasks, arguments{space: s, tasks: tasks[:0], number: 2, list: order[:2]})
	wantFailures(t, chapter5, []string{"CostOfWord", "FirstWord"}, arguments{space: s, tasks: tasks[:2], list: order[:1]})
	cost, ok := impl.CostAt(s, tasks[:2], 0, 1)
	wantCount(t, "CostAt", cost, ok, 6)
	kept, ok := impl.RunBelow(s, tasks[:2], 6, []int{1, -1}[:1])
	wantCount(t, "RunBelow", kept, ok, 3)
	word, ok := impl.FirstWord(s, order[:2])
	wantWord(t, "FirstWord", word, ok, []int{1, 0}, true)
	pairs := [][]int{{0, 1}, {1, 0}}
	word, ok = impl.LateWord(2, pairs[:1], []int{1, 1, 0}[:2], []int{5, 1, -1}[:2])
	wantWord(t, "LateWord", word, ok, []int{0, 1}, true)
	for _, a := range []arguments{{number: 2, rows: [][]int{pairs[0][:1]}, list: []int{1, 1}, second: []int{1, 1}},
		{number: 2, list: []int{1, 1}[:1], second: []int{1, 1}}, {number: 2, list: []int{1, 1}, second: []int{1, 1}[:1]}} {
		wantFailure(t, chapter5.named("LateWord"), a)
	}
}

// nearTasks returns tasks for n items, or lists like them.
func (c *chance) nearTasks(n int) []impl.Task {
	if c.below(8) == 0 {
		return c.madeTasks(c.below(10), 0)
	}
	tasks := c.madeTasks(n, c.below(4))
	if c.below(5) == 0 {
		task := &tasks[c.below(n)]
		switch c.below(3) {
		case 0:
			task.Time = c.anyNumber()
		case 1:
			task.Rate = c.anyNumber()
		default:
			task.Base = c.anyNumber()
		}
	}
	return tasks
}

func TestAnyArgumentsOfGreedy(t *testing.T) {
	c := chance(61)
	for range 4000 {
		a := arguments{space: c.anySpace(), number: c.anyNumber(), item: c.anyNumber(), second: c.anyList()}
		n := min(max(a.space.Items, 1), 8)
		a.tasks, a.list, a.rows = c.nearTasks(n), c.nearWord(a.space), c.anyRows()
		chapter5.wantCalls(t, a)
		a.item, a.list = c.below(n), c.order(n)
		if len(a.space.Sets) > 0 {
			a.number = a.space.Sets[c.below(len(a.space.Sets))]
		}
		chapter5.wantCalls(t, a)
		a.number = 2 + c.below(6)
		j := c.madeJobs(a.number, c.nearOrder(a.number), c.below(3))
		a.list, a.second, a.rows = j.times, j.dues, j.pairs
		if c.below(4) == 0 {
			a.list[c.below(a.number)] = c.anyNumber()
		}
		if c.below(4) == 0 {
			a.second[c.below(a.number)] = c.anyNumber()
		}
		chapter5.wantCalls(t, a)
	}
}
