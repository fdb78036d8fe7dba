package tests

import (
	"slices"
	"testing"

	"loop.example/g01137/impl"
)

func areOwnDifferentSets(a arguments) bool {
	return len(a.list) <= 40 && areDifferent(a.list) && arePart(a.list, a.space.Sets)
}

func isWayThrough(a arguments) bool { return len(a.list) <= 40 && isChainOf(a.space, a.list) }

func areFullWords(a arguments) bool {
	return len(a.rows) <= 35 && !slices.ContainsFunc(a.rows, func(row []int) bool { return !isFullWordOf(a.space, row) })
}

func isOrder(a arguments) bool {
	return isBetween(1, len(a.list), 7) && isFullWordOf(freeOf(len(a.list)), a.list)
}

func isOtherSpace(a arguments) bool { return isDefined(a.other) }

func doMeet(a arguments) bool {
	if !isDefined(a.other) || a.space.Items != a.other.Items {
		return false
	}
	words, _ := wordsOfBoth(a.space, a.other)
	return len(words) > 0
}

var chapter6 = chapter{inSpaces: []demanding{
	{function{"IsAntichain", func(a arguments) (any, bool) { return result(impl.IsAntichain(a.space, a.list)) }}, areOwnDifferentSets},
	{function{"WidthOf", func(a arguments) (any, bool) { return result(impl.WidthOf(a.space)) }}, always},
	{function{"GreatestAntichain", func(a arguments) (any, bool) { return result(impl.GreatestAntichain(a.space)) }}, always},
	{function{"ChainsThrough", func(a arguments) (any, bool) { return result(impl.ChainsThrough(a.space)) }}, always},
	{function{"WordThrough", func(a arguments) (any, bool) { return result(impl.WordThrough(a.space, a.list)) }}, isWayThrough},
	{function{"MakingWords", func(a arguments) (any, bool) { return result(impl.MakingWords(a.space)) }}, always},
	{function{"AreMaking", func(a arguments) (any, bool) { return result(impl.AreMaking(a.space, a.rows)) }}, areFullWords},
	{function{"FewestWords", func(a arguments) (any, bool) { return result(impl.FewestWords(a.space)) }}, always},
	{function{"MeetOfSpaces", func(a arguments) (any, bool) { return result(impl.MeetOfSpaces(a.space, a.other)) }}, doMeet},
	{function{"IsPartOf", func(a arguments) (any, bool) { return result(impl.IsPartOf(a.space, a.other)) }}, isOtherSpace},
}, withoutSpace: []demanding{
	{function{"PrefixSets", func(a arguments) (any, bool) { return result(impl.PrefixSets(a.list)) }}, isOrder},
}}

func TestChainsInInvalidSpacesFail(t *testing.T) {
	for _, s := range invalidSpaces() {
		items := min(max(s.Items, 1), 7)
		for _, other := range []impl.Space{freeOf(items), freeOf(1), lineOf(3), s, {}} {
			chapter6.wantCalls(t, arguments{space: s, other: other})
			chapter6.wantCalls(t, arguments{space: other, other: s})
			chapter6.wantCalls(t, arguments{space: s, other: other, list: []int{0}, rows: [][]int{{0}}})
			chapter6.wantCalls(t, arguments{space: s, other: other, list: []int{0, 1}, rows: [][]int{{0, 1}, {1, 0}}})
			chapter6.wantCalls(t, arguments{space: s, other: other, list: s.Sets, rows: [][]int{nil}})
			chapter6.wantCalls(t, arguments{space: other, other: s, list: s.Sets, rows: [][]int{pointsOf(fullOf(items))}})
		}
	}
}

// ofSets are the functions that take a list of Sets.
var ofSets = []string{"IsAntichain", "WordThrough"}

func TestListsWithOtherSetsFail(t *testing.T) {
	for _, s := range pathSamples() {
		numbers := append(farNumbers(), 1<<s.Items, 1<<s.Items+1)
		for set := range 1 << s.Items {
			if !slices.Contains(s.Sets, set) {
				numbers = append(numbers, set)
			}
		}
		for _, number := range numbers {
			for _, list := range [][]int{{number}, {0, number}, {number, fullOf(s.Items)}, {s.Sets[1], number}, {number, s.Sets[1]}} {
				wantFailures(t, chapter6, ofSets, arguments{space: s, list: list})
			}
		}
	}
}

func TestListsOfSetsThatAreTooLongFail(t *testing.T) {
	for _, s := range pathSamples() {
		for _, count := range []int{41, 42, 128, 100000} {
			for _, set := range []int{0, s.Sets[1], fullOf(s.Items)} {
				wantFailures(t, chapter6, ofSets, arguments{space: s, list: slices.Repeat([]int{set}, count)})
			}
		}
		if len(s.Sets) > 40 {
			wantSuccess(t, chapter6.named("IsAntichain"), arguments{space: s, list: s.Sets[:40]})
			wantFailure(t, chapter6.named("IsAntichain"), arguments{space: s, list: s.Sets[:41]})
			wantFailure(t, chapter6.named("IsAntichain"), arguments{space: s, list: s.Sets})
		}
	}
}

func TestWordsThatDoNotMakeFail(t *testing.T) {
	f := chapter6.named("AreMaking")
	for _, s := range pathSamples() {
		word := fullWordsOf(s)[0]
		wantSuccess(t, f, arguments{space: s, rows: [][]int{word}})
		wantSuccess(t, f, arguments{space: s, rows: slices.Repeat([][]int{word}, 35)})
		wantFailure(t, f, arguments{space: s, rows: slices.Repeat([][]int{word}, 36)})
		wantFailure(t, f, arguments{space: s, rows: slices.Repeat([][]int{word}, 100000)})
		wantFailure(t, f, arguments{space: s, rows: make([][]int, 36)})
		for _, list := range append(invalidWords(s), nil, []int{}, word[:s.Items-1], word[1:]) {
			if !isFullWordOf(s, list) {
				wantFailure(t, f, arguments{space: s, rows: [][]int{list}})
				wantFailure(t, f, arguments{space: s, rows: [][]int{list, word}})
				wantFailure(t, f, arguments{space: s, rows: [][]int{word, list}})
			}
		}
	}
	// Full words of other spaces are none of this one.
	for _, rows := range [][][]int{{{1, 0, 2}}, {{0, 2, 1}, {0, 1, 2}}, {{0, 1}}, {{0, 2, 1, 3}}} {
		wantFailure(t, f, arguments{space: impl.Space{Items: 3, Sets: []int{0, 1, 4, 5, 7}}, rows: rows})
	}
}

func TestPrefixesOfNoOrderFail(t *testing.T) {
	f := chapter6.named("PrefixSets")
	for n := range 9 {
		for _, list := range [][]int{make([]int, n), slices.Repeat([]int{n}, n), pointsOf(fullOf(n))} {
			if !isOrder(arguments{list: list}) {
				wantFailure(t, f, arguments{list: list})
			}
		}
		for place := range n {
			for _, number := range append(farNumbers(), n, 7, 8, 63, 64, 65, (place+1)%n) {
				list := pointsOf(fullOf(n))
				list[place] = number
				if !isOrder(arguments{list: list}) {
					wantFailure(t, f, arguments{list: list})
				}
			}
		}
	}
	wantFailure(t, f, arguments{list: make([]int, 100000)})
}

func TestMeetsWithoutWordFail(t *testing.T) {
	f := chapter6.named("MeetOfSpaces")
	for n := 1; n <= 7; n++ {
		order := pointsOf(fullOf(n))
		chain := impl.Space{Items: n, Sets: beginnings(order)}
		slices.Reverse(order)
		turned := impl.Space{Items: n, Sets: beginnings(order)}
		for _, a := range []arguments{{space: chain, other: turned}, {space: turned, other: chain}} {
			if n == 1 {
				wantSuccess(t, f, a)
			} else {
				wantFailure(t, f, a)
			}
			wantSuccess(t, chapter6.named("IsPartOf"), a)
		}
		for m := 1; m <= 7; m++ {
			if m != n {
				wantFailure(t, f, arguments{space: chain, other: freeOf(m)})
				wantFailure(t, f, arguments{space: freeOf(m), other: turned})
				wantSuccess(t, chapter6.named("IsPartOf"), arguments{space: chain, other: freeOf(m)})
			}
		}
	}
}

// validChainCalls returns arguments with which each function of chapter 6 succeeds, and some with which it fails.
func validChainCalls() []arguments {
	s, line := impl.Space{Items: 3, Sets: []int{0, 1, 4, 5, 7}}, lineOf(3)
	return []arguments{
		{space: s, other: line, list: []int{1, 5}, rows: [][]int{{0, 2, 1}, {2, 0, 1}}},
		{space: s, other: line, list: []int{4, 1}, rows: [][]int{{2, 0, 1}}},
		{space: line, other: s, list: []int{0, 2, 1}, rows: [][]int{{2, 0, 1}, {0, 1, 2}, {2, 0, 1}}},
		{space: s, other: s, list: []int{0, 0, 4, 4, 7}, rows: [][]int{}},
		{space: s, other: freeOf(3), list: []int{}, rows: nil},
		{space: turning, other: freeOf(4), list: []int{9, 7}, rows: [][]int{{0, 3, 1, 2}, {1, 0, 2, 3}}},
		{space: manyClauses(), other: freeOf(7), list: []int{0, 1, 3, 7, 15, 31}, rows: fullWordsOf(manyClauses())[:35]},
		{space: freeOf(7), other: lineOf(7), list: []int{6, 5, 4, 3, 2, 1, 0}, rows: fullWordsOf(freeOf(7))[:36]},
		{space: lineOf(7), other: with200, list: []int{1, 64}, rows: fullWordsOf(lineOf(7))[:35]},
		{space: with201, other: with200, list: slices.Repeat([]int{1}, 40), rows: [][]int{fullWordsOf(with201)[0]}},
		{space: freeOf(1), other: freeOf(1), list: []int{0}, rows: [][]int{{0}, {0}}},
		{space: freeOf(2), other: freeOf(1), list: []int{1, 3}, rows: [][]int{{0, 1}, {1}}},
		{space: impl.Space{Items: 2, Sets: []int{0, 1, 3}}, other: impl.Space{Items: 2, Sets: []int{0, 2, 3}}, list: []int{1, 0}},
		{space: impl.Space{Items: 2, Sets: []int{3, 1, 0}}, other: freeOf(2), list: []int{1}, rows: [][]int{{0, 1}}},
		{space: freeOf(2), other: impl.Space{Items: 2, Sets: []int{3, 1, 0}}, list: []int{1, 1}, rows: [][]int{{0, 0}}},
		{},
	}
}

func TestChainArgumentsAreKept(t *testing.T) {
	for _, a := range validChainCalls() {
		chapter6.wantCalls(t, a)
	}
}

func TestValidChainCallsSucceed(t *testing.T) {
	chapter6.wantSuccesses(t, validChainCalls())
}

func TestChainResultsAreNewMemory(t *testing.T) {
	calls := validChainCalls()
	for _, s := range append(pathSamples(), turning) {
		calls = append(calls, arguments{space: s, other: s, list: s.Sets[1:2]})
	}
	chapter6.wantNewMemory(t, calls)
}

// What is behind the length of a list does not belong to it.
func TestSpareCapacityIsNoChain(t *testing.T) {
	s, order := freeOf(3), []int{0, 1, 2}
	wantFailure(t, chapter6.named("WidthOf"), arguments{space: impl.Space{Items: 3, Sets: s.Sets[:7]}})
	wantFailure(t, chapter6.named("MeetOfSpaces"), arguments{space: s, other: impl.Space{Items: 3, Sets: s.Sets[:7]}})
	wantFailure(t, chapter6.named("PrefixSets"), arguments{list: []int{1, 0}[:1]})
	wantFailure(t, chapter6.named("AreMaking"), arguments{space: s, rows: [][]int{order[:2]}})
	sets, ok := impl.PrefixSets(order[:2])
	wantWord(t, "PrefixSets", sets, ok, []int{0, 1, 3}, true)
	is, ok := impl.IsAntichain(s, []int{1, 2, 2}[:2])
	wantAnswer(t, "IsAntichain", is, ok, true)
	is, ok = impl.IsAntichain(s, make([]int, 41)[:1])
	wantAnswer(t, "IsAntichain", is, ok, true)
	word, ok := impl.WordThrough(s, []int{2, 4}[:1])
	wantWord(t, "WordThrough", word, ok, []int{1, 0, 2}, true)
	words := [][]int{{0, 1, 2}, {1, 2, 0}, {2, 0, 1}}
	is, ok = impl.AreMaking(s, words[:2])
	wantAnswer(t, "AreMaking", is, ok, false)
	is, ok = impl.AreMaking(s, words)
	wantAnswer(t, "AreMaking", is, ok, true)
}

// nearChain returns Sets of a space, each part of the next one, or a list like them.
func (c *chance) nearChain(s impl.Space) []int {
	if !isDefined(s) || c.below(5) == 0 {
		return c.anyList()
	}
	words := fullWordsOf(s)
	chain := c.someOf(beginnings(words[c.below(len(words))]))
	for range c.below(3) {
		chain = append(chain, s.Sets[c.below(len(s.Sets))])
	}
	switch c.below(8) {
	case 0:
		chain = append(chain, c.anyNumber())
	case 1:
		chain = slices.Repeat(chain, 1+c.below(20))
		slices.Sort(chain)
	case 2:
		chain = s.Sets[c.below(len(s.Sets)):]
	}
	return chain
}

// nearSpace returns a space like another one: with other Sets, with some more, with fewer, the same, or none.
func (c *chance) nearSpace(s impl.Space) impl.Space {
	if !isDefined(s) || c.below(5) == 0 {
		return c.anySpace()
	}
	near := impl.Space{Items: s.Items, Sets: slices.Clone(s.Sets)}
	switch c.below(4) {
	case 0:
		near = madeSpace(c, s.Items, 1+c.below(6))
	case 1:
		near.Sets = unions(append(near.Sets, beginnings(c.order(s.Items))...))
	case 2:
		near.Sets = slices.Delete(near.Sets, 1, 1+c.below(len(near.Sets)-1))
	}
	return near
}

func TestAnyArgumentsOfChains(t *testing.T) {
	c := chance(68)
	for range 3000 {
		a := arguments{space: c.anySpace()}
		a.other, a.list, a.rows = c.nearSpace(a.space), c.nearChain(a.space), c.nearWords(a.space)
		chapter6.wantCalls(t, a)
		a.list = c.nearWord(a.space)
		chapter6.wantCalls(t, a)
		if meet, ok := impl.MeetOfSpaces(a.space, a.other); ok && !isDefined(meet) {
			t.Errorf("MeetOfSpaces %s %s is no space: %s", textOf(a.space), textOf(a.other), textOf(meet))
		}
	}
}
