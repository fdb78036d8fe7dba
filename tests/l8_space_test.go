package tests

import (
	"fmt"
	"math"
	"slices"
	"testing"

	"loop.example/g01137/impl"
)

// The full runs of sevenMoves and eightMoves have just as many moves.
var (
	sevenMoves = impl.Chips{Lines: linesOf(4, []int{0, 2, 1}, []int{0, 3, 1}, []int{1, 2, 1}, []int{2, 3, 3}), At: []int{0, 5, 0, 0}}
	eightMoves = impl.Chips{Lines: linesOf(4, []int{0, 1, 1}, []int{1, 2, 3}, []int{1, 3, 1}, []int{2, 3, 3}), At: []int{6, 0, 0, 0}}
)

// firstItems returns the set of the items of the first moves of each place: counts tells how many of them, all how many
// there are.
func firstItems(all []int, counts [5]int) int {
	set, first := 0, 0
	for place, count := range all {
		for move := range counts[place] {
			set += 1 << (first + move)
		}
		first += count
	}
	return set
}

// spaceOfRunsIn returns the space of the full runs of chips, and the place of each item, as the document defines them.
func spaceOfRunsIn(c impl.Chips) (impl.Space, []int) {
	run, _ := runByIn(c, nil)
	all := movesOf(len(c.At), run)
	in := map[int]bool{}
	for counts := range allReached(c) {
		in[firstItems(all, counts)] = true
	}
	var places []int
	for place, count := range all {
		places = append(places, slices.Repeat([]int{place}, count)...)
	}
	return impl.Space{Items: len(run), Sets: sortedKeys(in)}, places
}

// movesOfWords returns words with the place of each item instead of it.
func movesOfWords(words [][]int, places []int) [][]int {
	var runs [][]int
	for _, word := range words {
		var run []int
		for _, item := range word {
			run = append(run, places[item])
		}
		runs = append(runs, run)
	}
	return runs
}

func TestSpaceOfRunsByDefinition(t *testing.T) {
	made := map[int]int{}
	for _, c := range append(endingChips(), sevenMoves, eightMoves) {
		run, _ := runByIn(c, nil)
		if !isBetween(1, len(run), 7) {
			continue
		}
		made[len(run)]++
		s, places, ok := impl.SpaceOfRuns(c)
		want, wantedPlaces := spaceOfRunsIn(c)
		wantSpace(t, chipsText("SpaceOfRuns", c), s, ok, want, true)
		wantWord(t, chipsText("places", c), places, ok, wantedPlaces, true)
		if !isDefined(s) || !impl.IsSpace(s) {
			t.Error(chipsText("SpaceOfRuns makes no space", c))
		}
	}
	for moves := 1; moves <= 7; moves++ {
		if made[moves] == 0 {
			t.Errorf("no full runs of %d moves are looked at", moves)
		}
	}
}

// Promise 8: full runs are the full words of a space.
func TestFullRunsAreFullWords(t *testing.T) {
	for _, c := range append(listedChips(), sevenMoves) {
		s, places, ok := impl.SpaceOfRuns(c)
		runs := fullRunsIn(c)
		if ok != isBetween(1, len(runs[0]), 7) {
			t.Errorf("%s: %v", chipsText("SpaceOfRuns", c), ok)
		}
		if !ok {
			continue
		}
		words := fullWordsOf(s)
		told := movesOfWords(words, places)
		slices.SortFunc(told, slices.Compare[[]int])
		wantRows(t, chipsText("full words", c), told, ok, runs)
		for _, word := range words {
			for item := 1; item < s.Items; item++ {
				if places[item-1] == places[item] && slices.Index(word, item-1) > slices.Index(word, item) {
					t.Errorf("%s: the moves of a place are not in their order in %v", chipsText("full words", c), word)
				}
			}
		}
		count, ok := impl.CountWords(s)
		wantCount(t, chipsText("CountWords", c), count, ok, len(runs))
	}
}

func TestFullRunsOfNoMovesOrOfManyMakeNoSpace(t *testing.T) {
	longer := map[int]bool{}
	for _, c := range append(endingChips(), eightMoves) {
		run, _ := runByIn(c, nil)
		if isBetween(1, len(run), 7) {
			continue
		}
		longer[len(run)] = true
		s, places, ok := impl.SpaceOfRuns(c)
		wantSpace(t, chipsText("SpaceOfRuns", c), s, ok, impl.Space{}, false)
		wantWord(t, chipsText("places", c), places, ok, nil, false)
	}
	for _, moves := range []int{0, 8, 9, 43} {
		if !longer[moves] {
			t.Errorf("no full runs of %d moves are looked at", moves)
		}
	}
}

func TestSpacesOfFewMoves(t *testing.T) {
	one := impl.Chips{Lines: wayLines(3, 1), At: []int{1, 0, 0}}
	s, places, ok := impl.SpaceOfRuns(one)
	wantSpace(t, "SpaceOfRuns", s, ok, freeOf(1), true)
	wantWord(t, "places", places, ok, []int{0}, true)
	last := impl.Chips{Lines: wayLines(3, 1), At: []int{0, 0, 1}}
	s, places, ok = impl.SpaceOfRuns(last)
	wantSpace(t, "SpaceOfRuns", s, ok, freeOf(1), true)
	wantWord(t, "places", places, ok, []int{2}, true)
	ends := impl.Chips{Lines: linesOf(4, []int{0, 3, 1}, []int{2, 3, 1}, []int{1, 3, 3}), At: []int{2, 0, 1, 0}}
	s, places, ok = impl.SpaceOfRuns(ends)
	wantSpace(t, "SpaceOfRuns", s, ok, impl.Space{Items: 3, Sets: []int{0, 1, 3, 4, 5, 7}}, true)
	wantWord(t, "places", places, ok, []int{0, 0, 2}, true)
}

func wantReached(t *testing.T, c impl.Chips, counts []int, want bool) {
	t.Helper()
	is, ok := impl.ReachedBy(c, counts)
	wantAnswer(t, chipsText("ReachedBy", c)+fmt.Sprint(counts), is, ok, want)
}

// boxes returns all lists of numbers from 0 to those of a list.
func boxes(list []int) [][]int {
	if len(list) == 0 {
		return [][]int{nil}
	}
	var all [][]int
	for _, shorter := range boxes(list[:len(list)-1]) {
		for number := range list[len(list)-1] + 1 {
			all = append(all, append(slices.Clone(shorter), number))
		}
	}
	return all
}

func TestReachedByByDefinition(t *testing.T) {
	c := chance(98)
	some := 0
	for _, chips := range endingChips() {
		run, _ := runByIn(chips, nil)
		n := len(chips.At)
		all := movesOf(n, run)
		wantReached(t, chips, make([]int, n), true)
		wantReached(t, chips, all, true)
		for place := range n {
			more := slices.Clone(all)
			more[place]++
			wantReached(t, chips, more, false)
			more[place] = 60
			wantReached(t, chips, more, false)
		}
		wantReached(t, chips, slices.Repeat([]int{60}, n), false)
		for range 3 {
			wantReached(t, chips, movesOf(n, c.runIn(chips, c.below(len(run)+1))), true)
		}
		if len(run) > 16 || c.below(3) > 0 && len(run) == 0 {
			continue
		}
		reached := allReached(chips)
		for place := range all {
			all[place]++
		}
		for _, counts := range boxes(all) {
			_, want := reached[valueOf(counts)]
			wantReached(t, chips, counts, want)
			if want {
				some++
			}
		}
	}
	if some == 0 {
		t.Error("no counts are reached")
	}
}

// What is reached can be reached, whatever else can be moved: longest has places that wait for others.
func TestReachedByInLongRuns(t *testing.T) {
	c := chance(99)
	for _, chips := range []impl.Chips{longest, fewEnough, eightMoves} {
		reached := allReached(chips)
		run, _ := runByIn(chips, nil)
		all := movesOf(len(chips.At), run)
		for range 3000 {
			counts := slices.Clone(all)
			for place := range counts {
				counts[place] = c.below(counts[place] + 1)
			}
			_, want := reached[valueOf(counts)]
			wantReached(t, chips, counts, want)
			counts = movesOf(len(chips.At), c.runIn(chips, c.below(len(run)+1)))
			wantReached(t, chips, counts, true)
		}
	}
}

func TestCountsThatAreNoneFail(t *testing.T) {
	for _, c := range listedChips() {
		n := len(c.At)
		invalid := [][]int{nil, {}, make([]int, n-1), make([]int, n+1), make([]int, 5+n), make([]int, 100000)}
		for place := range n {
			for _, number := range []int{-1, 61, 62, 120, -60, math.MaxInt, math.MinInt} {
				counts := make([]int, n)
				counts[place] = number
				invalid = append(invalid, counts)
			}
		}
		for _, counts := range invalid {
			if is, ok := impl.ReachedBy(c, counts); is || ok {
				t.Errorf("%s of %v: %v %v", chipsText("ReachedBy", c), counts, is, ok)
			}
		}
	}
}
