package tests

import (
	"math"
	"slices"
	"testing"

	"loop.example/g01137/impl"
)

// arguments holds all that calls may take; each function takes its own part.
type arguments struct {
	space, other impl.Space
	number, item int
	yes, no      int
	list, second []int
	rows         [][]int
	text         string
	tasks        []impl.Task
}

func (a arguments) guarded() arguments {
	a.space, a.other = guardedSpace(a.space), guardedSpace(a.other)
	a.list, a.second, a.rows = guarded(a.list), guarded(a.second), guardedRows(a.rows)
	a.tasks = guardedTasks(a.tasks)
	return a
}

func (a arguments) areKept(made arguments) bool {
	return isKeptSpace(made.space, a.space) && isKeptSpace(made.other, a.other) &&
		isKept(made.list, a.list) && isKept(made.second, a.second) && areKeptRows(made.rows, a.rows) &&
		slices.Equal(made.tasks[:cap(made.tasks)], guardedTasks(a.tasks)[:len(a.tasks)+2])
}

type function struct {
	name string
	call func(a arguments) (any, bool)
}

func result[T any](value T, ok bool) (any, bool) { return value, ok }

func wantFailure(t *testing.T, f function, a arguments) {
	t.Helper()
	if value, ok := f.call(a); ok || !isZero(value) {
		t.Errorf("%s of %+v does not fail with zero results: %v %v", f.name, a, value, ok)
	}
}

func wantSuccess(t *testing.T, f function, a arguments) {
	t.Helper()
	if value, ok := f.call(a); !ok {
		t.Errorf("%s of %+v fails: %v", f.name, a, value)
	}
}

// demanding is a function, with what the document requires of its arguments, the space apart.
type demanding struct {
	function
	fine func(a arguments) bool
}

func always(arguments) bool     { return true }
func isOwnSet(a arguments) bool { return slices.Contains(a.space.Sets, a.number) }

// chapter holds the functions of a chapter: those that take a space, and those that take none.
type chapter struct {
	inSpaces, withoutSpace []demanding
}

func (c chapter) all() []demanding { return slices.Concat(c.inSpaces, c.withoutSpace) }

func (c chapter) named(name string) function {
	all := c.all()
	return all[slices.IndexFunc(all, func(f demanding) bool { return f.name == name })].function
}

// wantCalls calls all functions: each one succeeds just if its arguments are fine, and keeps them.
func (c chapter) wantCalls(t *testing.T, a arguments) {
	t.Helper()
	is := isDefined(a.space)
	for i, f := range c.all() {
		fine := (is || i >= len(c.inSpaces)) && f.fine(a)
		if fine {
			wantSuccess(t, f.function, a)
		} else {
			wantFailure(t, f.function, a)
		}
		made := a.guarded()
		if _, ok := f.call(made); ok != fine || !a.areKept(made) {
			t.Errorf("%s of %+v: %v, behind it %+v", f.name, a, ok, made)
		}
	}
}

// wantSuccesses wants each function to succeed in one of the calls: the tests of arguments and results are worth
// nothing for a function that just fails.
func (c chapter) wantSuccesses(t *testing.T, calls []arguments) {
	t.Helper()
	for _, f := range c.all() {
		if !slices.ContainsFunc(calls, func(a arguments) bool { _, ok := f.call(a); return ok }) {
			t.Errorf("%s always fails", f.name)
		}
	}
}

// wantNewMemory wants results that share no memory with arguments, or with each other.
func (c chapter) wantNewMemory(t *testing.T, calls []arguments) {
	t.Helper()
	for _, a := range calls {
		for _, f := range c.all() {
			made := a.guarded()
			value, ok := f.call(made)
			if lists := memoryOf(value); ok && lists != nil {
				before := copyOf(lists)
				overwriteArguments(made)
				if !sameWords(memoryOf(value), before) {
					t.Errorf("%s of %+v keeps its arguments", f.name, a)
				}
				made = a.guarded()
				value, _ = f.call(made)
				wantOwnLists(t, f.function, memoryOf(value))
				if !a.areKept(made) {
					t.Errorf("%s of %+v hands out its arguments", f.name, a)
				}
				if again, ok := f.call(made); !ok || !sameWords(memoryOf(again), before) {
					t.Errorf("%s of %+v: %v, then %v", f.name, a, before, again)
				}
			}
		}
	}
}

// memoryOf returns the lists of a result.
func memoryOf(value any) [][]int {
	switch v := value.(type) {
	case []int:
		return [][]int{v}
	case [][]int:
		return v
	case impl.Space:
		return [][]int{v.Sets}
	case []impl.Space:
		var lists [][]int
		for _, space := range v {
			lists = append(lists, space.Sets)
		}
		return lists
	case impl.Chips:
		return append(slices.Clone(v.Lines), v.At)
	case spaceOfMoves:
		return [][]int{v.space.Sets, v.places}
	case impl.Desk:
		return [][]int{v.Space.Sets}
	case outcome:
		return [][]int{v.desk.Space.Sets}
	}
	return nil
}

func copyOf(lists [][]int) [][]int {
	var copied [][]int
	for _, list := range lists {
		copied = append(copied, slices.Clone(list))
	}
	return copied
}

func overwriteArguments(a arguments) {
	for _, list := range slices.Concat([][]int{a.space.Sets, a.other.Sets, a.list, a.second}, a.rows) {
		overwrite(list)
	}
	clear(a.rows[:cap(a.rows)])
	clear(a.tasks[:cap(a.tasks)])
}

// wantOwnLists fills each list of a result, and what is behind it, with numbers of its own, from the first list to the
// last one and back: no other list has them then.
func wantOwnLists(t *testing.T, f function, lists [][]int) {
	t.Helper()
	fill := func(i int) {
		whole := lists[i][:cap(lists[i])]
		for place := range whole {
			whole[place] = i
		}
	}
	for _, backwards := range []bool{false, true} {
		for i := range lists {
			if backwards {
				i = len(lists) - 1 - i
			}
			fill(i)
		}
		for i, list := range lists {
			if slices.ContainsFunc(list, func(number int) bool { return number != i }) {
				t.Errorf("%s: the list %d shares memory with another one", f.name, i)
			}
		}
	}
}

func invalidSpaces() []impl.Space {
	long := freeOf(7)
	long.Sets = append(long.Sets, 128)
	twice := slices.Repeat([]int{0, 1}, 1000)
	return []impl.Space{
		{},
		{Items: 1},
		{Items: 0, Sets: []int{0}},
		{Items: 0, Sets: []int{0, 1}},
		{Items: -1, Sets: []int{0, 1}},
		{Items: 8, Sets: beginnings([]int{0, 1, 2, 3, 4, 5, 6, 7})},
		{Items: 64, Sets: []int{0, 1}},
		{Items: math.MaxInt, Sets: []int{0, 1}},
		{Items: math.MinInt, Sets: []int{0, 1}},
		{Items: 2, Sets: []int{}},
		{Items: 2, Sets: []int{1, 3}},                     // not that of no items
		{Items: 2, Sets: []int{0, 1}},                     // not that of all
		{Items: 2, Sets: []int{0, 1, 3, 4}},               // out of range
		{Items: 2, Sets: []int{-1, 0, 1, 3}},              // negative
		{Items: 2, Sets: []int{0, 1, 3, math.MaxInt}},     // far out of range
		{Items: 2, Sets: []int{math.MinInt, 0, 1, 3}},     // far out of range
		{Items: 2, Sets: []int{0, 1, 1, 3}},               // not increasing
		{Items: 2, Sets: []int{0, 3, 1}},                  // not increasing
		{Items: 2, Sets: []int{3, 2, 1, 0}},               // not increasing
		{Items: 2, Sets: []int{1, 0, 3}},                  // not increasing
		{Items: 2, Sets: []int{0, 3}},                     // not one at a time
		{Items: 3, Sets: []int{0, 1, 2, 7}},               // neither
		{Items: 3, Sets: []int{0, 1, 2, 5, 6, 7}},         // not closed: 1 and 2
		{Items: 3, Sets: []int{0, 1, 3, 4, 7}},            // not closed: 1 and 4
		{Items: 3, Sets: []int{0, 1, 6, 7}},               // 6 not one at a time
		{Items: 4, Sets: []int{0, 1, 3, 7, 8, 9, 11, 12}}, // not that of all
		{Items: 4, Sets: []int{0, 1, 3, 7, 12, 13, 15}},   // 12 not one at a time
		{Items: 4, Sets: []int{0, 1, 2, 3, 4, 5, 6, 15}},  // neither
		{Items: 1, Sets: twice},                           // too long
		long,
	}
}

func (c *chance) anyNumber() int {
	numbers := []int{0, 1, 2, 3, 4, 5, 6, 7, 8, 15, 31, 63, 64, 127, 128, 129, -1, -2, -64, -128, math.MaxInt, math.MinInt, 1 << 62}
	return numbers[c.below(len(numbers))]
}

func (c *chance) anyList() []int {
	if c.below(3) == 0 {
		return c.order(c.below(9))
	}
	var list []int
	for range c.below(10) {
		list = append(list, c.anyNumber())
	}
	if c.below(2) == 0 {
		slices.Sort(list)
	}
	return list
}

func (c *chance) anyRows() [][]int {
	var rows [][]int
	for range c.below(5) {
		if c.below(3) == 0 {
			rows = append(rows, c.anyList())
		} else {
			rows = append(rows, []int{c.below(8) - 1, c.below(8)})
		}
	}
	return rows
}

func (c *chance) anySpace() impl.Space {
	if c.below(3) == 0 {
		return impl.Space{Items: c.anyNumber(), Sets: c.anyList()}
	}
	return madeSpace(c, 1+c.below(7), 1+c.below(3))
}

func (c *chance) anyText() string {
	text := []byte(textOf(c.anySpace()))
	for range c.below(3) {
		place := c.below(len(text))
		text = slices.Replace(text, place, place+c.below(2), " 0123456789:,-+"[c.below(15)])
	}
	return string(text)
}
