package tests

import (
	"fmt"
	"math"
	"slices"
	"testing"

	"loop.example/g01137/impl"
)

// jobs are what LateWord takes.
type jobs struct {
	pairs       [][]int
	times, dues []int
}

func (j jobs) lateWord() ([]int, bool) { return impl.LateWord(len(j.times), j.pairs, j.times, j.dues) }

// latest returns the greatest sum of a job's end less its due time in an order of the jobs.
func (j jobs) latest(order []int) int {
	latest, end := math.MinInt, 0
	for _, job := range order {
		end += j.times[job]
		latest = max(latest, end-j.dues[job])
	}
	return latest
}

func (j jobs) mayBe(order []int) bool {
	place := places(order)
	return !slices.ContainsFunc(j.pairs, func(pair []int) bool { return place[pair[0]] > place[pair[1]] })
}

// backwards returns the space and the tasks by which the document tells an order of the jobs.
func (j jobs) backwards() (learning, bool) {
	var turned [][]int
	for _, pair := range j.pairs {
		turned = append(turned, []int{pair[1], pair[0]})
	}
	s, ok := wantedOrder(len(j.times), turned)
	l := learning{Space: s}
	for job, time := range j.times {
		l.tasks = append(l.tasks, impl.Task{Time: time, Rate: 1, Base: -j.dues[job]})
	}
	return l, ok
}

// wantLate compares LateWord with all orders of the jobs, and with the greedy word of what the document tells.
func wantLate(t *testing.T, j jobs, all [][]int) {
	t.Helper()
	what := fmt.Sprintf("LateWord %+v", j)
	least, count := math.MaxInt, 0
	for _, order := range all {
		if j.mayBe(order) {
			count++
			least = min(least, j.latest(order))
		}
	}
	word, ok := j.lateWord()
	l, fine := j.backwards()
	if fine != (count > 0) {
		t.Errorf("%s: %d orders", what, count)
	}
	if !fine {
		wantWord(t, what, word, ok, nil, false)
		return
	}
	want := greedyIn(l)
	slices.Reverse(want)
	wantWord(t, what, word, ok, want, true)
	if len(word) == len(j.times) && (!j.mayBe(word) || j.latest(word) != least) {
		t.Errorf("%s: %v is %d late, want %d", what, word, j.latest(word), least)
	}
}

// madeJobs returns jobs with numbers of some kind: any, such that many are late by the same, or at the limits.
func (c *chance) madeJobs(n int, pairs [][]int, kind int) jobs {
	j := jobs{pairs: pairs, times: make([]int, n), dues: make([]int, n)}
	for i := range n {
		switch kind {
		case 0:
			j.times[i], j.dues[i] = 1+c.below(9), c.below(101)
		case 1:
			j.times[i], j.dues[i] = 1+c.below(2), c.below(2*n)
		default:
			j.times[i], j.dues[i] = 1+8*c.below(2), 100*c.below(2)
		}
	}
	return j
}

// Promise 5: in no order that may be is the greatest sum less.
func TestLateWordsAreBest(t *testing.T) {
	c := chance(56)
	for n := 1; n <= 4; n++ {
		all, pairs := orders(n), bothWays(allPairs(n))
		for marks := range 1 << len(pairs) {
			wantLate(t, c.madeJobs(n, chosen(pairs, marks), marks%3), all)
		}
	}
	for n := 5; n <= 7; n++ {
		all := orders(n)
		for count := range 12 {
			wantLate(t, c.madeJobs(n, madeOrder(&c, n, count), count%3), all)
			wantLate(t, c.madeJobs(n, some(&c, bothWays(allPairs(n)), count), count%3), all)
		}
	}
	for n := 1; n <= 6; n++ {
		for kind := range 3 {
			wantLate(t, c.madeJobs(n, nil, kind), orders(n))
			wantLate(t, c.madeJobs(n, [][]int{}, kind), orders(n))
		}
	}
}

// Without pairs, jobs are done by their due times; of two with the same due time the greater one is done first, as
// backwards the least one comes first.
func TestJobsWithoutPairs(t *testing.T) {
	word, ok := impl.LateWord(5, nil, []int{9, 1, 5, 2, 2}, []int{7, 100, 0, 20, 19})
	wantWord(t, "LateWord by due times", word, ok, []int{2, 0, 4, 3, 1}, true)
	word, ok = impl.LateWord(4, nil, []int{1, 2, 1, 2}, []int{5, 5, 5, 5})
	wantWord(t, "LateWord of the same due times", word, ok, []int{3, 2, 1, 0}, true)
	word, ok = impl.LateWord(3, [][]int{{0, 1}}, []int{1, 1, 1}, []int{9, 1, 2})
	wantWord(t, "LateWord with a pair", word, ok, []int{0, 1, 2}, true)
}

func TestLateWordAtItsLimits(t *testing.T) {
	all := orders(3)
	j := jobs{times: []int{1, 9, 1}, dues: []int{0, 100, 50}}
	once := [][]int{{2, 1}, {1, 0}}
	for _, pairs := range [][][]int{once, slices.Repeat(once, 2), slices.Repeat(once, 20), slices.Repeat([][]int{{2, 0}}, 40)} {
		j.pairs = pairs
		wantLate(t, j, all)
		if _, ok := j.lateWord(); !ok {
			t.Errorf("LateWord of %d pairs fails", len(pairs))
		}
	}
	for _, pairs := range [][][]int{slices.Repeat([][]int{{2, 0}}, 41), append(slices.Repeat(once, 20), []int{2, 0})} {
		j.pairs = pairs
		word, ok := j.lateWord()
		wantWord(t, "LateWord of 41 pairs", word, ok, nil, false)
	}
	for _, round := range [][][]int{{{0, 1}, {1, 0}}, {{0, 1}, {1, 2}, {2, 0}}, {{2, 1}, {0, 2}, {1, 0}, {1, 0}}, {{1, 2}, {0, 1}, {2, 1}}} {
		j.pairs = round
		wantLate(t, j, all)
		word, ok := j.lateWord()
		wantWord(t, "LateWord of pairs that go round", word, ok, nil, false)
	}
	for _, numbers := range [][2]int{{1, 0}, {9, 100}, {1, 100}, {9, 0}} {
		word, ok := impl.LateWord(7, nil, slices.Repeat(numbers[:1], 7), slices.Repeat(numbers[1:], 7))
		wantWord(t, "LateWord at the limits", word, ok, []int{6, 5, 4, 3, 2, 1, 0}, true)
	}
}
