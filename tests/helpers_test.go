package tests

import (
	"fmt"
	"math/bits"
	"reflect"
	"slices"
	"strings"
	"testing"

	"loop.example/g01137/impl"
)

// spare is what the tests write behind the length of a list.
const spare = -77

// guarded returns a copy of a list with spare capacity that holds known numbers.
func guarded(list []int) []int {
	room := make([]int, len(list)+3)
	for i := range room {
		room[i] = spare
	}
	copy(room, list)
	return room[:len(list)]
}

func guardedRows(rows [][]int) [][]int {
	room := make([][]int, len(rows)+2)
	for i := range room {
		room[i] = []int{spare}
	}
	for i, row := range rows {
		room[i] = guarded(row)
	}
	return room[:len(rows)]
}

func guardedTasks(tasks []impl.Task) []impl.Task {
	room := slices.Repeat([]impl.Task{{Time: spare, Rate: spare, Base: spare}}, len(tasks)+2)
	copy(room, tasks)
	return room[:len(tasks)]
}

func guardedSpace(s impl.Space) impl.Space {
	return impl.Space{Items: s.Items, Sets: guarded(s.Sets)}
}

// isKept reports whether a guarded list and what is behind it are as they were made.
func isKept(made []int, list []int) bool {
	whole := made[:cap(made)]
	return slices.Equal(whole, guarded(list)[:len(list)+3])
}

func areKeptRows(made [][]int, rows [][]int) bool {
	whole := made[:cap(made)]
	if len(whole) != len(rows)+2 {
		return false
	}
	for i, row := range rows {
		if !isKept(whole[i], row) {
			return false
		}
	}
	return slices.Equal(whole[len(rows)], []int{spare}) && slices.Equal(whole[len(rows)+1], []int{spare})
}

func isKeptSpace(made impl.Space, s impl.Space) bool {
	return made.Items == s.Items && isKept(made.Sets, s.Sets)
}

// overwrite writes over all of the memory of a result.
func overwrite(list []int) {
	whole := list[:cap(list)]
	for i := range whole {
		whole[i] = -99
	}
}

func sameSpace(a impl.Space, b impl.Space) bool {
	return a.Items == b.Items && slices.Equal(a.Sets, b.Sets)
}

func isZero(value any) bool {
	v := reflect.ValueOf(value)
	if v.Kind() == reflect.Slice {
		return v.Len() == 0
	}
	switch v := value.(type) {
	case impl.Space:
		return v.Items == 0 && len(v.Sets) == 0
	case impl.Chips:
		return len(v.Lines) == 0 && len(v.At) == 0
	case spaceOfMoves:
		return isZero(v.space) && len(v.places) == 0
	case impl.Desk:
		return isZero(v.Space) && v.Known == 0
	case outcome:
		return isZero(v.desk) && v.reply == ""
	}
	return v.IsZero()
}

func textOf(s impl.Space) string {
	words := []string{}
	for _, set := range s.Sets {
		words = append(words, fmt.Sprint(set))
	}
	return fmt.Sprintf("%d:%s", s.Items, strings.Join(words, ","))
}

// isDefined reports whether s is a space, as the document defines it.
func isDefined(s impl.Space) bool {
	if s.Items < 1 || s.Items > 7 {
		return false
	}
	full := 1<<s.Items - 1
	in := map[int]bool{}
	for i, set := range s.Sets {
		if set < 0 || set > full || i > 0 && s.Sets[i-1] >= set {
			return false
		}
		in[set] = true
	}
	if !in[0] || !in[full] {
		return false
	}
	for a := range in {
		for b := range in {
			if !in[a|b] {
				return false
			}
		}
		if a != 0 && innerOf(s.Items, in, a) == 0 {
			return false
		}
	}
	return true
}

func innerOf(n int, in map[int]bool, set int) int {
	fringe := 0
	for i := range n {
		if set>>i&1 == 1 && in[set-1<<i] {
			fringe += 1 << i
		}
	}
	return fringe
}

func outerOf(n int, in map[int]bool, set int) int {
	fringe := 0
	for i := range n {
		if set>>i&1 == 0 && in[set+1<<i] {
			fringe += 1 << i
		}
	}
	return fringe
}

func marksOf(sets []int) map[int]bool {
	in := map[int]bool{}
	for _, set := range sets {
		in[set] = true
	}
	return in
}

func isPart(a int, b int) bool { return a|b == b }

func arePart(part []int, sets []int) bool {
	for _, set := range part {
		if !slices.Contains(sets, set) {
			return false
		}
	}
	return true
}

// families returns all families of sets of n items.
func families(n int) []impl.Space {
	var all []impl.Space
	for marks := range 1 << (1 << n) {
		f := impl.Space{Items: n}
		for set := range 1 << n {
			if marks>>set&1 == 1 {
				f.Sets = append(f.Sets, set)
			}
		}
		all = append(all, f)
	}
	return all
}

// spacesOf returns all spaces of n items, n at most 4.
func spacesOf(n int) []impl.Space {
	var all []impl.Space
	for _, f := range families(n) {
		if isDefined(f) {
			all = append(all, f)
		}
	}
	return all
}

// leastWith returns the space that is part of all spaces of a list that have given sets.
func leastWith(spaces []impl.Space, sets []int) (impl.Space, bool) {
	var having []impl.Space
	for _, s := range spaces {
		if arePart(sets, s.Sets) {
			having = append(having, s)
		}
	}
	for _, least := range having {
		if !slices.ContainsFunc(having, func(s impl.Space) bool { return !arePart(least.Sets, s.Sets) }) {
			return least, true
		}
	}
	return impl.Space{}, false
}

// chance is a short rule for numbers that look random and are the same in each run.
type chance uint64

func (c *chance) below(n int) int {
	*c = *c*6364136223846793005 + 1442695040888963407
	return int(uint64(*c) >> 33 % uint64(n))
}

func (c *chance) order(n int) []int {
	list := make([]int, n)
	for i := range list {
		j := c.below(i + 1)
		list[i] = list[j]
		list[j] = i
	}
	return list
}

// beginnings returns the sets of the first 0, 1, .. items of an order.
func beginnings(order []int) []int {
	sets := []int{0}
	for _, item := range order {
		sets = append(sets, sets[len(sets)-1]+1<<item)
	}
	return sets
}

// unions returns all unions of sets, increasing.
func unions(sets []int) []int {
	in := map[int]bool{0: true}
	for grown := true; grown; {
		before := len(in)
		for _, a := range sortedKeys(in) {
			for _, b := range sets {
				in[a|b] = true
			}
		}
		grown = len(in) > before
	}
	return sortedKeys(in)
}

func sortedKeys(in map[int]bool) []int {
	var keys []int
	for key := range in {
		keys = append(keys, key)
	}
	slices.Sort(keys)
	return keys
}

// madeSpace returns the space of all unions of the beginnings of some orders.
func madeSpace(c *chance, n int, orders int) impl.Space {
	var sets []int
	for range orders {
		sets = append(sets, beginnings(c.order(n))...)
	}
	return impl.Space{Items: n, Sets: unions(sets)}
}

func freeOf(n int) impl.Space {
	s := impl.Space{Items: n}
	for set := range 1 << n {
		s.Sets = append(s.Sets, set)
	}
	return s
}

func lineOf(n int) impl.Space {
	in := map[int]bool{}
	for low := range n + 1 {
		for high := range n + 1 - low {
			in[1<<low-1|(1<<high-1)<<(n-high)] = true
		}
	}
	return impl.Space{Items: n, Sets: sortedKeys(in)}
}

// samples returns all spaces of at most 4 items and some of each greater number up to 7.
func samples() []impl.Space {
	var all []impl.Space
	for n := 1; n <= 4; n++ {
		all = append(all, spacesOf(n)...)
	}
	c := chance(7)
	for n := 5; n <= 7; n++ {
		all = append(all, freeOf(n), lineOf(n))
		for orders := 1; orders <= 8; orders++ {
			all = append(all, madeSpace(&c, n, orders))
		}
	}
	return all
}

// orders returns all orders of n items.
func orders(n int) [][]int {
	if n == 0 {
		return [][]int{nil}
	}
	var all [][]int
	for _, shorter := range orders(n - 1) {
		for place := range n {
			all = append(all, slices.Insert(slices.Clone(shorter), place, n-1))
		}
	}
	return all
}

// anew returns the items that a set has in common with kept, numbered among those of kept.
func anew(set int, kept int) int {
	result, number := 0, 0
	for rest := kept; rest != 0; rest &= rest - 1 {
		if set>>bits.TrailingZeros(uint(rest))&1 == 1 {
			result += 1 << number
		}
		number++
	}
	return result
}

func wantSpace(t *testing.T, what string, got impl.Space, ok bool, want impl.Space, fine bool) {
	t.Helper()
	if ok != fine || !sameSpace(got, want) {
		t.Errorf("%s: %s %v, want %s %v", what, textOf(got), ok, textOf(want), fine)
	}
}
