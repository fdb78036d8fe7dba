package tests

import (
	"math"
	"slices"
	"testing"

	"loop.example/g01137/impl"
)

func isListed(a arguments) bool  { return isBetween(1, a.number, 3) }
func isCounted(a arguments) bool { return isBetween(1, a.number, 4) }

func isRank(a arguments) bool {
	return isListed(a) && isBelow(a.item, []int{0, 1, 3, 22}[a.number])
}

func hasRank(a arguments) bool    { return a.space.Items <= 3 }
func canBeNamed(a arguments) bool { return a.space.Items <= 5 }

func canBothBeNamed(a arguments) bool {
	return canBeNamed(a) && isDefined(a.other) && a.other.Items <= 5
}

func areChoices(a arguments) bool {
	return len(a.list) <= 20 && !slices.ContainsFunc(a.list, func(choice int) bool { return choice < 0 })
}

// Numbers of items are told by the number of an argument, ranks by the item, and choices by the list.
var chapter9 = chapter{inSpaces: []demanding{
	{function{"RankSpace", func(a arguments) (any, bool) { return result(impl.RankSpace(a.space)) }}, hasRank},
	{function{"LeastNamed", func(a arguments) (any, bool) { return result(impl.LeastNamed(a.space)) }}, canBeNamed},
	{function{"AreAlike", func(a arguments) (any, bool) { return result(impl.AreAlike(a.space, a.other)) }}, canBothBeNamed},
	{function{"NamesKept", func(a arguments) (any, bool) { return result(impl.NamesKept(a.space)) }}, canBeNamed},
	{function{"SizesOf", func(a arguments) (any, bool) { return result(impl.SizesOf(a.space)) }}, always},
	{function{"FreeSets", func(a arguments) (any, bool) { return result(impl.FreeSets(a.space)) }}, always},
	{function{"FreeBySize", func(a arguments) (any, bool) { return result(impl.FreeBySize(a.space)) }}, always},
	{function{"AlternatingSum", func(a arguments) (any, bool) { return result(impl.AlternatingSum(a.space)) }}, always},
	{function{"IsFreeSpace", func(a arguments) (any, bool) { return result(impl.IsFreeSpace(a.space)) }}, always},
	{function{"RandomWalk", func(a arguments) (any, bool) { return result(impl.RandomWalk(a.space, a.list)) }}, areChoices},
}, withoutSpace: []demanding{
	{function{"AllSpaces", func(a arguments) (any, bool) { return result(impl.AllSpaces(a.number)) }}, isListed},
	{function{"CountSpaces", func(a arguments) (any, bool) { return result(impl.CountSpaces(a.number)) }}, isCounted},
	{function{"CountUpToNames", func(a arguments) (any, bool) { return result(impl.CountUpToNames(a.number)) }}, isCounted},
	{function{"SpaceAt", func(a arguments) (any, bool) { return result(impl.SpaceAt(a.number, a.item)) }}, isRank},
}}

func TestAllInInvalidSpacesFails(t *testing.T) {
	for _, s := range invalidSpaces() {
		for _, other := range []impl.Space{freeOf(1), freeOf(2), lineOf(3), freeOf(6), s, {}} {
			for _, choices := range [][]int{nil, {0, 1, 2}, make([]int, 20), make([]int, 21), {-1}} {
				chapter9.wantCalls(t, arguments{space: s, other: other, list: choices})
				chapter9.wantCalls(t, arguments{space: other, other: s, list: choices})
			}
		}
	}
}

func TestNumbersOfItemsThatAreNotListedFail(t *testing.T) {
	for _, n := range append(farNumbers(), 0, 5, 6, 7, 8, 9, 62, 63, 64, 65) {
		for _, rank := range []int{0, 1, -1, 21, 22, 485, math.MaxInt, math.MinInt} {
			wantFailures(t, chapter9, []string{"AllSpaces", "CountSpaces", "CountUpToNames", "SpaceAt"}, arguments{number: n, item: rank})
		}
	}
	wantSuccess(t, chapter9.named("CountSpaces"), arguments{number: 4})
	wantSuccess(t, chapter9.named("CountUpToNames"), arguments{number: 4})
	for _, rank := range []int{0, 1, 21, 22, 484, 485} {
		wantFailures(t, chapter9, []string{"AllSpaces", "SpaceAt"}, arguments{number: 4, item: rank})
	}
}

func TestRanksOfNoSpaceFail(t *testing.T) {
	f := chapter9.named("SpaceAt")
	for n, count := range []int{0, 1, 3, 22} {
		for _, rank := range append(farNumbers(), count, count+1, 22, 485) {
			wantFailure(t, f, arguments{number: n, item: rank})
		}
		if n > 0 {
			wantSuccess(t, f, arguments{number: n, item: 0})
			wantSuccess(t, f, arguments{number: n, item: count - 1})
		}
	}
}

func TestSpacesOfTooManyItemsFail(t *testing.T) {
	small, c := freeOf(3), chance(116)
	for n := 4; n <= 7; n++ {
		for _, s := range []impl.Space{freeOf(n), lineOf(n), madeSpace(&c, n, 1), madeSpace(&c, n, 3)} {
			wantFailure(t, chapter9.named("RankSpace"), arguments{space: s})
			for _, name := range []string{"LeastNamed", "NamesKept", "AreAlike"} {
				if n > 5 {
					wantFailure(t, chapter9.named(name), arguments{space: s, other: small})
					wantFailure(t, chapter9.named(name), arguments{space: s, other: s})
				} else {
					wantSuccess(t, chapter9.named(name), arguments{space: s, other: small})
				}
			}
			if n > 5 {
				wantFailure(t, chapter9.named("AreAlike"), arguments{space: small, other: s})
			}
		}
	}
}

func TestChoicesThatAreNoWalkFail(t *testing.T) {
	f := chapter9.named("RandomWalk")
	for _, s := range askSamples() {
		wantSuccess(t, f, arguments{space: s, list: slices.Repeat([]int{5}, 20)})
		for _, count := range []int{21, 22, 60, 100000} {
			wantFailure(t, f, arguments{space: s, list: make([]int, count)})
		}
		for place := range 20 {
			for _, number := range []int{-1, -7, math.MinInt, math.MinInt + 1} {
				choices := make([]int, 20)
				choices[place] = number
				wantFailure(t, f, arguments{space: s, list: choices})
				wantFailure(t, f, arguments{space: s, list: choices[:place+1]})
			}
		}
	}
}

// validAllCalls returns arguments with which each function of chapter 9 succeeds, and some with which it fails.
func validAllCalls() []arguments {
	s := impl.Space{Items: 3, Sets: []int{0, 1, 4, 5, 7}}
	return []arguments{
		{space: s, other: lineOf(3), list: []int{1, 0}, number: 3, item: 21},
		{space: lineOf(3), other: s, list: []int{}, number: 2, item: 2},
		{space: freeOf(1), other: freeOf(1), list: nil, number: 1, item: 0},
		{space: freeOf(5), other: turning, list: []int{4, 3, 2, 1, 0}, number: 4, item: 0},
		{space: turning, other: freeOf(6), list: make([]int, 20), number: 0, item: 0},
		{space: freeOf(7), other: freeOf(2), list: []int{6, 5, math.MaxInt}, number: 3, item: 0},
		{space: lineOf(7), other: lineOf(7), list: make([]int, 21), number: 3, item: 22},
		{space: with200, other: s, list: []int{-1}, number: -1, item: -1},
		{space: impl.Space{Items: 2, Sets: []int{3, 1, 0}}, other: s, list: []int{1}, number: 2, item: 1},
		{},
	}
}

func TestAllArgumentsAreKept(t *testing.T) {
	for _, a := range validAllCalls() {
		chapter9.wantCalls(t, a)
	}
}

func TestValidAllCallsSucceed(t *testing.T) {
	chapter9.wantSuccesses(t, validAllCalls())
}

func TestAllResultsAreNewMemory(t *testing.T) {
	calls := validAllCalls()
	for n := 1; n <= 3; n++ {
		for rank, s := range inOrder(n) {
			calls = append(calls, arguments{space: s, number: n, item: rank})
		}
	}
	chapter9.wantNewMemory(t, calls)
}

// A space that is LeastNamed already is not handed out again.
func TestLeastNamedIsNewMemory(t *testing.T) {
	for _, s := range fewItems() {
		least, _ := impl.LeastNamed(s)
		chapter9.wantNewMemory(t, []arguments{{space: least}})
	}
}

// A change of one list of spaces, or of one of its spaces, changes no other one.
func TestListsOfSpacesAreNewMemory(t *testing.T) {
	for n := 1; n <= 3; n++ {
		first, _ := impl.AllSpaces(n)
		second, _ := impl.AllSpaces(n)
		for i := range first {
			overwrite(first[i].Sets)
		}
		clear(first[:cap(first)])
		third, _ := impl.AllSpaces(n)
		for rank, want := range inOrder(n) {
			wantSpace(t, "AllSpaces", second[rank], true, want, true)
			wantSpace(t, "AllSpaces", third[rank], true, want, true)
			one, _ := impl.SpaceAt(n, rank)
			other, _ := impl.SpaceAt(n, rank)
			overwrite(one.Sets)
			wantSpace(t, "SpaceAt", other, true, want, true)
			other, ok := impl.SpaceAt(n, rank)
			wantSpace(t, "SpaceAt", other, ok, want, true)
		}
	}
}

// What is behind the length of a list does not belong to it.
func TestSpareCapacityIsNoChoice(t *testing.T) {
	s := freeOf(3)
	word, ok := impl.RandomWalk(s, []int{1, 2, 2}[:1])
	wantWord(t, "RandomWalk", word, ok, []int{1, 0, 2}, true)
	word, ok = impl.RandomWalk(s, []int{2, -1}[:1])
	wantWord(t, "RandomWalk", word, ok, []int{2, 0, 1}, true)
	word, ok = impl.RandomWalk(s, make([]int, 21)[:20])
	wantWord(t, "RandomWalk", word, ok, []int{0, 1, 2}, true)
	short := impl.Space{Items: 3, Sets: s.Sets[:7]}
	for _, f := range chapter9.inSpaces {
		wantFailure(t, f.function, arguments{space: short, other: s})
	}
	wantFailure(t, chapter9.named("AreAlike"), arguments{space: s, other: short})
}

func TestAnyArgumentsOfAll(t *testing.T) {
	c := chance(117)
	for range 1000 {
		a := arguments{space: c.anySpace(), number: c.anyNumber(), item: c.anyNumber(), list: c.anyList()}
		a.other = c.nearSpace(a.space)
		chapter9.wantCalls(t, a)
		a.number, a.item = c.below(4), c.below(25)-1
		for i := range a.list {
			a.list[i] = max(a.list[i], 0)
		}
		chapter9.wantCalls(t, a)
	}
}
