package tests

import (
	"math"
	"slices"
	"strings"
	"testing"

	"loop.example/g01137/impl"
)

// asking are the functions that take a space and a set, which has to be one of the Sets for the owning ones.
var asking = []function{
	{"HasSet", func(a arguments) (any, bool) { return result(impl.HasSet(a.space, a.number)) }},
	{"LeastAbove", func(a arguments) (any, bool) { return result(impl.LeastAbove(a.space, a.number)) }},
	{"GreatestWithin", func(a arguments) (any, bool) { return result(impl.GreatestWithin(a.space, a.number)) }},
	{"IsConvex", func(a arguments) (any, bool) { return result(impl.IsConvex(a.space, a.number)) }},
	{"HullOf", func(a arguments) (any, bool) { return result(impl.HullOf(a.space, a.number)) }},
	{"ExtremeOf", func(a arguments) (any, bool) { return result(impl.ExtremeOf(a.space, a.number)) }},
}

var owning = []function{
	{"OuterFringe", func(a arguments) (any, bool) { return result(impl.OuterFringe(a.space, a.number)) }},
	{"InnerFringe", func(a arguments) (any, bool) { return result(impl.InnerFringe(a.space, a.number)) }},
	{"RestrictTo", func(a arguments) (any, bool) { return result(impl.RestrictTo(a.space, a.number)) }},
	{"BehindSet", func(a arguments) (any, bool) { return result(impl.BehindSet(a.space, a.number)) }},
}

// whole are the functions that take a space and no set.
var whole = []function{
	{"IsSpace", func(a arguments) (any, bool) { ok := impl.IsSpace(a.space); return ok, ok }},
	{"UnionSpaces", func(a arguments) (any, bool) { return result(impl.UnionSpaces(a.space, a.other)) }},
	{"UnionSpaces, turned", func(a arguments) (any, bool) { return result(impl.UnionSpaces(a.other, a.space)) }},
	{"RenameItems", func(a arguments) (any, bool) { return result(impl.RenameItems(a.space, a.list)) }},
	{"SpaceText", func(a arguments) (any, bool) { return result(impl.SpaceText(a.space)) }},
}

// making are the functions that take no space.
var making = []function{
	{"SpaceWith", func(a arguments) (any, bool) { return result(impl.SpaceWith(a.number, a.list)) }},
	{"FreeSpace", func(a arguments) (any, bool) { return result(impl.FreeSpace(a.number)) }},
	{"ChainSpace", func(a arguments) (any, bool) { return result(impl.ChainSpace(a.list)) }},
	{"OrderSpace", func(a arguments) (any, bool) { return result(impl.OrderSpace(a.number, a.rows)) }},
	{"LineSpace", func(a arguments) (any, bool) { return result(impl.LineSpace(a.number)) }},
	{"ParseSpace", func(a arguments) (any, bool) { return result(impl.ParseSpace(a.text)) }},
}

func TestInvalidSpacesFail(t *testing.T) {
	for _, s := range invalidSpaces() {
		for set := -1; set <= 8; set++ {
			for _, f := range slices.Concat(asking, owning) {
				wantFailure(t, f, arguments{space: s, number: set})
			}
		}
		for items := 1; items <= 7; items++ {
			c := chance(1)
			a := arguments{space: s, other: freeOf(items), list: c.order(items)}
			for _, f := range whole {
				wantFailure(t, f, a)
			}
		}
		a := arguments{space: s, other: s}
		for _, f := range whole {
			wantFailure(t, f, a)
		}
	}
}

func TestInvalidSetsFail(t *testing.T) {
	for _, s := range samples() {
		full := 1<<s.Items - 1
		for _, set := range []int{-1, -2, -128, full + 1, full + 2, 2*full + 1, 127 + 1, 255, 1 << 62, math.MaxInt, math.MinInt} {
			for _, f := range slices.Concat(asking, owning) {
				wantFailure(t, f, arguments{space: s, number: set})
			}
		}
		for set := range full + 1 {
			a := arguments{space: s, number: set}
			for _, f := range asking {
				wantSuccess(t, f, a)
			}
			for _, f := range owning {
				if !slices.Contains(s.Sets, set) || f.name == "RestrictTo" && set == 0 || f.name == "BehindSet" && set == full {
					wantFailure(t, f, a)
				} else {
					wantSuccess(t, f, a)
				}
			}
		}
	}
}

func TestInvalidNumbersOfItemsFail(t *testing.T) {
	for _, n := range []int{0, -1, 8, 9, 63, 64, 65, 1000, 1 << 62, math.MaxInt, math.MinInt} {
		for _, f := range []string{"SpaceWith", "FreeSpace", "OrderSpace", "LineSpace"} {
			a := arguments{number: n}
			wantFailure(t, functionOf(f), a)
			a.list = []int{0, 1}
			wantFailure(t, functionOf(f), a)
			a.list = []int{0, 1, 3, 7, 15, 31, 63, 127, 255}
			a.rows = [][]int{{0, 1}}
			wantFailure(t, functionOf(f), a)
		}
	}
}

func functionOf(name string) function {
	all := slices.Concat(asking, owning, whole, making)
	return all[slices.IndexFunc(all, func(f function) bool { return f.name == name })]
}

func TestInvalidListsFail(t *testing.T) {
	for _, list := range [][]int{nil, {}, {1, 2, 4, -1}, {1, 3, 7, 8}, {0, 1, 3, 7, math.MaxInt}, {0, 1, 3, 7, math.MinInt},
		{7}, {0, 7}, {3, 7}, {1, 7}, {1, 6, 7}, {1, 2}, {1, 3}, {0}, slices.Repeat([]int{1, 3, 7}, 14)} {
		wantFailure(t, functionOf("SpaceWith"), arguments{number: 3, list: list})
	}
	for _, list := range [][]int{nil, {}, {1}, {-1}, {0, 0}, {0, 2}, {1, 2}, {0, -1}, {2, 1, 1}, {0, 1, 2, 4}, {math.MaxInt, 0},
		{math.MinInt}, {0, 1, 2, 3, 4, 5, 6, 7}, {0, 1, 2, 3, 4, 5, 5}, {0, 64}, make([]int, 100000)} {
		wantFailure(t, functionOf("ChainSpace"), arguments{list: list})
	}
	for _, list := range [][]int{nil, {}, {0}, {0, 1}, {0, 1, 2, 3}, {0, 1, 1}, {1, 2, 3}, {0, 1, 3}, {-1, 0, 1}, {0, 0, 0},
		{0, 1, math.MaxInt}, {math.MinInt, 0, 1}, {0, 1, 2, 0}, {0, 1, 64}, make([]int, 100000)} {
		wantFailure(t, functionOf("RenameItems"), arguments{space: freeOf(3), list: list})
	}
}

func TestInvalidPairsFail(t *testing.T) {
	for _, pairs := range [][][]int{{nil}, {{}}, {{0}}, {{0, 1, 2}}, {{0, 1}, {1}}, {{0, 0}}, {{2, 2}}, {{0, 3}}, {{3, 0}}, {{-1, 0}}, {{0, -1}},
		{{0, math.MaxInt}}, {{math.MinInt, 0}}, {{0, 64}}, {{0, 1}, {1, 0}}, {{0, 1}, {1, 2}, {2, 0}}, {{0, 1}, nil},
		slices.Repeat([][]int{{0, 1}}, 41), slices.Repeat([][]int{{0, 1}}, 100000)} {
		wantFailure(t, functionOf("OrderSpace"), arguments{number: 3, rows: pairs})
	}
	wantSuccess(t, functionOf("OrderSpace"), arguments{number: 3})
	wantSuccess(t, functionOf("OrderSpace"), arguments{number: 3, rows: slices.Repeat([][]int{{0, 1}}, 40)})
}

func TestUnionsOfOtherItemsFail(t *testing.T) {
	for n := 1; n <= 7; n++ {
		for m := 1; m <= 7; m++ {
			a := arguments{space: lineOf(n), other: freeOf(m)}
			if n == m {
				wantSuccess(t, functionOf("UnionSpaces"), a)
			} else {
				wantFailure(t, functionOf("UnionSpaces"), a)
			}
		}
	}
}

func TestTextsThatAreNoSpaceTextFail(t *testing.T) {
	for _, text := range []string{"", " ", ":", ",", "1", "1:", ":0,1", "0:0", "0:", "8:0,1", "-1:0,1", "1:0", "1:1", "1:1,0",
		"1:0,1,", "1:,0,1", "1:0,,1", "1::0,1", "1:0:1", "1:0,1:", "10,1", "1;0,1", "1,0,1", "1:0;1", "1:0 1",
		"01:0,1", "1:00,1", "1:0,01", "1:0,1,1", "+1:0,1", "1:+0,1", "1:-0,1", "1:0,+1", "1:0,-1", "1:-1,0,1", "1:0,1,2",
		" 1:0,1", "1 :0,1", "1: 0,1", "1:0 ,1", "1:0, 1", "1:0,1 ", "1:0,1\n", "\n1:0,1", "1:0,1\x00", "1:0,1\r",
		"1:0,0x1", "1:0,1e0", "1:0,1.0", "1:0,0b1", "1:0,1_", "1_:0,1", "1:0,٠", "1:٠,١", "１:0,1", "1:0,a",
		"a:0,1", "3:0,1,2,7", "3:0,1,2,5,6,7", "3:0,1,3,4,7", "2:0,1,1,3", "2:0,3", "2:3,1,0", "2:0,1,3,4", "2:1,3", "2:0,1",
		"2:0,1,18446744073709551619", "18446744073709551617:0,1", "2:0,1,3,99999999999999999999999999", "9223372036854775807:0,1",
		"1:0,1" + strings.Repeat(",1", 100000), "1:" + strings.Repeat("0", 100000) + ",1", strings.Repeat(":", 100000),
		strings.Repeat(",", 100000), textOf(freeOf(7)) + ",128", "8:" + textOf(freeOf(7))[2:]} {
		wantFailure(t, functionOf("ParseSpace"), arguments{text: text})
	}
}

// Of all short texts of these bytes, just the texts of spaces are parsed.
func TestShortTexts(t *testing.T) {
	texts := map[string]bool{}
	for n := 1; n <= 2; n++ {
		for _, s := range spacesOf(n) {
			texts[textOf(s)] = true
		}
	}
	const letters = "0123:,"
	for length := range 8 {
		number := 1
		for range length {
			number *= len(letters)
		}
		for code := range number {
			text := make([]byte, length)
			for i := range text {
				text[i] = letters[code%len(letters)]
				code /= len(letters)
			}
			if s, ok := impl.ParseSpace(string(text)); ok != texts[string(text)] {
				t.Errorf("ParseSpace(%q): %s %v", text, textOf(s), ok)
			}
		}
	}
}

// validCalls returns arguments with which each function succeeds, and some with which it fails.
func validCalls() []arguments {
	s := impl.Space{Items: 3, Sets: []int{0, 1, 4, 5, 7}}
	return []arguments{
		{space: s, other: lineOf(3), number: 5, list: []int{2, 0, 1}, rows: [][]int{{0, 1}, {0, 2}}, text: "3:0,1,4,5,7"},
		{space: s, other: lineOf(2), number: 3, list: []int{4, 1, 5, 7}, rows: [][]int{{0, 1}, {1, 2}, {0, 2}}, text: "2:0,1,3"},
		{space: freeOf(7), other: lineOf(7), number: 7, list: []int{6, 5, 4, 3, 2, 1, 0}, text: "1:0,1"},
		{space: lineOf(7), other: freeOf(7), number: 1, list: []int{1, 0}, rows: [][]int{{0, 1}, {1, 0}}, text: "2:0,3"},
		{space: impl.Space{Items: 2, Sets: []int{3, 1, 0}}, other: s, number: 2, list: []int{3, 2, 0}, rows: [][]int{{1, 0}, {0}}},
		{space: s, other: s, number: 0, list: []int{0, 1, 2}},
		{space: freeOf(1), other: freeOf(1), number: 1, list: []int{0}},
	}
}

func TestArgumentsAreKept(t *testing.T) {
	for _, a := range validCalls() {
		for _, f := range slices.Concat(asking, owning, whole, making) {
			made := a.guarded()
			f.call(made)
			if !a.areKept(made) {
				t.Errorf("%s changes its arguments %+v: %+v", f.name, a, made)
			}
		}
	}
}

// The tests of arguments and results are worth nothing for a function that just fails.
func TestValidCallsSucceed(t *testing.T) {
	for _, f := range slices.Concat(asking, owning, whole, making) {
		if !slices.ContainsFunc(validCalls(), func(a arguments) bool { _, ok := f.call(a); return ok }) {
			t.Errorf("%s always fails", f.name)
		}
	}
}

func TestResultsAreNewMemory(t *testing.T) {
	for _, a := range validCalls() {
		for _, f := range slices.Concat(owning, whole, making) {
			made := a.guarded()
			value, ok := f.call(made)
			s, is := value.(impl.Space)
			if !ok || !is {
				continue
			}
			before := slices.Clone(s.Sets)
			overwrite(made.space.Sets)
			overwrite(made.other.Sets)
			overwrite(made.list)
			if !slices.Equal(s.Sets, before) {
				t.Errorf("%s of %+v keeps its arguments", f.name, a)
			}
			made = a.guarded()
			value, _ = f.call(made)
			overwrite(value.(impl.Space).Sets)
			if !a.areKept(made) {
				t.Errorf("%s of %+v hands out its arguments", f.name, a)
			}
			if again, ok := f.call(made); !ok || !slices.Equal(again.(impl.Space).Sets, before) {
				t.Errorf("%s of %+v: %+v, then %+v", f.name, a, before, again)
			}
		}
	}
}

// What is behind the length of a list does not belong to it.
func TestSpareCapacityIsNotRead(t *testing.T) {
	sets, order, pairs := []int{0, 1, 3, 7}, []int{0, 1, 2}, [][]int{{0, 1}, {1, 2}}
	cut := arguments{space: impl.Space{Items: 3, Sets: sets[:3]}, number: 3, list: sets[:3]}
	wantFailure(t, functionOf("IsSpace"), cut)
	wantFailure(t, functionOf("SpaceWith"), cut)
	wantFailure(t, functionOf("ChainSpace"), arguments{list: order[:0]})
	wantFailure(t, functionOf("RenameItems"), arguments{space: freeOf(3), list: order[:2]})
	wantFailure(t, functionOf("OrderSpace"), arguments{number: 3, rows: [][]int{pairs[0][:1]}})
	chain, ok := impl.ChainSpace(order[:2])
	wantSpace(t, "ChainSpace", chain, ok, impl.Space{Items: 2, Sets: []int{0, 1, 3}}, true)
	free, ok := impl.OrderSpace(3, pairs[:0])
	wantSpace(t, "OrderSpace", free, ok, freeOf(3), true)
}

// No call panics or changes its arguments; one that fails has no results; one that makes a space makes one.
func TestAnyArguments(t *testing.T) {
	c := chance(2)
	for range 6000 {
		a := arguments{space: c.anySpace(), other: c.anySpace(), number: c.anyNumber(), list: c.anyList(), rows: c.anyRows(),
			text: c.anyText()}
		for _, f := range slices.Concat(asking, owning, whole, making) {
			made := a.guarded()
			value, ok := f.call(made)
			if !a.areKept(made) || !ok && !isZero(value) {
				t.Errorf("%s of %+v: %v %v, behind it %+v", f.name, a, value, ok, made)
			}
			if s, is := value.(impl.Space); is && ok && !isDefined(s) {
				t.Errorf("%s of %+v makes no space: %+v", f.name, a, s)
			}
		}
		for _, f := range slices.Concat(asking, owning, whole) {
			if !isDefined(a.space) {
				wantFailure(t, f, a)
			}
		}
		if s, ok := impl.ParseSpace(a.text); ok && textOf(s) != a.text {
			t.Errorf("ParseSpace(%q): %s", a.text, textOf(s))
		}
	}
}
