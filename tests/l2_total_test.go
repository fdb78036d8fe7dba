package tests

import (
	"math"
	"slices"
	"testing"

	"loop.example/g01137/impl"
)

func isWord(a arguments) bool     { return isWordOf(a.space, a.list) }
func isFullWord(a arguments) bool { return isFullWordOf(a.space, a.list) }

func countOf(s impl.Space) int { return countedFrom(s.Items, marksOf(s.Sets), 0) }

func canSwap(a arguments) bool {
	if !isWord(a) || a.number < 0 || a.number > len(a.list)-2 {
		return false
	}
	turned := slices.Clone(a.list)
	turned[a.number], turned[a.number+1] = a.list[a.number+1], a.list[a.number]
	return isWordOf(a.space, turned)
}

var chapter2 = chapter{inSpaces: []demanding{
	{function{"IsWord", func(a arguments) (any, bool) { return result(impl.IsWord(a.space, a.list)) }},
		func(a arguments) bool { return len(a.list) <= 7 }},
	{function{"SetOfWord", func(a arguments) (any, bool) { return result(impl.SetOfWord(a.space, a.list)) }}, isWord},
	{function{"CountWords", func(a arguments) (any, bool) { return result(impl.CountWords(a.space)) }}, always},
	{function{"CountFrom", func(a arguments) (any, bool) { return result(impl.CountFrom(a.space, a.number)) }}, isOwnSet},
	{function{"WordWith", func(a arguments) (any, bool) { return result(impl.WordWith(a.space, a.number)) }},
		func(a arguments) bool { return a.number >= 0 && a.number < countOf(a.space) }},
	{function{"RankWord", func(a arguments) (any, bool) { return result(impl.RankWord(a.space, a.list)) }}, isFullWord},
	{function{"AllWords", func(a arguments) (any, bool) { return result(impl.AllWords(a.space)) }},
		func(a arguments) bool { return countOf(a.space) <= 200 }},
	{function{"ExchangeWord", func(a arguments) (any, bool) { return result(impl.ExchangeWord(a.space, a.list, a.second)) }},
		func(a arguments) bool { return isWord(a) && isWordOf(a.space, a.second) }},
	{function{"FinishWord", func(a arguments) (any, bool) { return result(impl.FinishWord(a.space, a.list)) }}, isWord},
	{function{"SortWord", func(a arguments) (any, bool) { return result(impl.SortWord(a.space, a.number)) }}, isOwnSet},
	{function{"SwapWord", func(a arguments) (any, bool) { return result(impl.SwapWord(a.space, a.list, a.number)) }}, canSwap},
	{function{"SwapWay", func(a arguments) (any, bool) { return result(impl.SwapWay(a.space, a.list, a.second)) }},
		func(a arguments) bool { return isFullWord(a) && isFullWordOf(a.space, a.second) }},
	{function{"AreWordsOf", func(a arguments) (any, bool) { return result(impl.AreWordsOf(a.space, a.rows)) }},
		func(a arguments) bool { return len(a.rows) <= 200 }},
}, withoutSpace: []demanding{
	{function{"SpaceOfWords", func(a arguments) (any, bool) { return result(impl.SpaceOfWords(a.rows)) }}, areOrders},
	{function{"WordText", func(a arguments) (any, bool) { return result(impl.WordText(a.list)) }}, areDigits},
}}

func areOrders(a arguments) bool {
	if len(a.rows) < 1 || len(a.rows) > 200 || len(a.rows[0]) < 1 || len(a.rows[0]) > 7 {
		return false
	}
	return !slices.ContainsFunc(a.rows, func(row []int) bool {
		return len(row) != len(a.rows[0]) || !isFullWordOf(freeOf(len(row)), row)
	})
}

func areDigits(a arguments) bool {
	return len(a.list) <= 20 && !slices.ContainsFunc(a.list, func(number int) bool { return number < 0 || number > 9 })
}

func TestWordsInInvalidSpacesFail(t *testing.T) {
	for _, s := range invalidSpaces() {
		for set := -1; set <= 8; set++ {
			chapter2.wantCalls(t, arguments{space: s, number: set})
			chapter2.wantCalls(t, arguments{space: s, number: set, list: []int{0}, second: []int{0}, rows: [][]int{{0}}})
			chapter2.wantCalls(t, arguments{space: s, number: set, list: []int{0, 1}, second: []int{1, 0}, rows: [][]int{{0, 1}, {1, 0}}})
			chapter2.wantCalls(t, arguments{space: s, number: set, list: []int{0, 1, 2}, second: []int{0, 1, 2}, rows: [][]int{nil}})
		}
	}
}

func TestWordsToInvalidSetsFail(t *testing.T) {
	for _, s := range samples() {
		full := 1<<s.Items - 1
		numbers := []int{-1, -2, -128, full + 1, full + 2, 128, 255, 5040, 1 << 62, math.MaxInt, math.MinInt}
		for set := range full + 1 {
			if !slices.Contains(s.Sets, set) {
				numbers = append(numbers, set)
			}
		}
		for _, number := range numbers {
			wantFailure(t, chapter2.named("CountFrom"), arguments{space: s, number: number})
			wantFailure(t, chapter2.named("SortWord"), arguments{space: s, number: number})
		}
	}
}

func invalidWords(s impl.Space) [][]int {
	full := fullWordsOf(s)[0]
	invalid := [][]int{{-1}, {s.Items}, {7}, {8}, {63}, {64}, {128}, {math.MaxInt}, {math.MinInt}, append(slices.Clone(full), 0),
		append(slices.Clone(full), -1), append(slices.Clone(full), s.Items), append([]int{full[0]}, full...), slices.Repeat(full, 2),
		{full[0], full[0]}, {full[0], -1}, {full[0], full[0] - 64}, {full[0], full[0] + 64}, {full[0], s.Items},
		{0, 1, 2, 3, 4, 5, 6, 7}, make([]int, 100000)}
	for item := range s.Items {
		if !slices.Contains(s.Sets, 1<<item) {
			invalid = append(invalid, []int{item})
		}
	}
	return invalid
}

func TestInvalidWordsFail(t *testing.T) {
	for _, s := range samples() {
		word := fullWordsOf(s)[0]
		for _, invalid := range invalidWords(s) {
			for _, name := range []string{"SetOfWord", "RankWord", "FinishWord", "SwapWord", "ExchangeWord", "SwapWay"} {
				f := chapter2.named(name)
				wantFailure(t, f, arguments{space: s, list: invalid, second: word})
				wantFailure(t, f, arguments{space: s, list: invalid, second: invalid})
				if name == "ExchangeWord" || name == "SwapWay" {
					wantFailure(t, f, arguments{space: s, list: word, second: invalid})
				}
			}
		}
	}
}

func TestInvalidRanksAndPlacesFail(t *testing.T) {
	for _, s := range samples() {
		words := fullWordsOf(s)
		for _, number := range []int{-1, -2, len(words), 5040, 1 << 62, math.MaxInt, math.MaxInt - 1, math.MinInt, math.MinInt + 1} {
			wantFailure(t, chapter2.named("WordWith"), arguments{space: s, number: number})
		}
		for _, number := range []int{-1, -2, s.Items - 1, s.Items, 6, 7, math.MaxInt, math.MaxInt - 1, math.MinInt} {
			wantFailure(t, chapter2.named("SwapWord"), arguments{space: s, number: number, list: words[0]})
			wantFailure(t, chapter2.named("SwapWord"), arguments{space: s, number: number})
		}
	}
}

func TestInvalidListsOfListsFail(t *testing.T) {
	for _, rows := range [][][]int{nil, {}, {nil}, {{}}, {{}, {}}, {{0, 1}, {0}}, {{0}, {0, 1}}, {{0}, nil}, {nil, {0}}, {{0, 1}, {0, 0}},
		{{0, 0}}, {{1}}, {{1, 2}}, {{0, 2}}, {{-1, 0}}, {{0, 1, 2}, {2, 1, 3}}, {{0, 1, 2}, {0, 1, 2, 3}}, {{math.MaxInt}}, {{math.MinInt, 0}},
		{{0, 64}}, {{0, 1, 2, 3, 4, 5, 6, 7}}, {make([]int, 100000)}, {{0, 1, 2, 3, 4, 5, 6}, {0, 1, 2, 3, 4, 5, 6, 7}},
		slices.Repeat([][]int{{0}}, 201), slices.Repeat([][]int{{0}}, 100000), slices.Repeat([][]int{nil}, 200)} {
		wantFailure(t, chapter2.named("SpaceOfWords"), arguments{rows: rows})
	}
	for _, s := range samples() {
		wantFailure(t, chapter2.named("AreWordsOf"), arguments{space: s, rows: slices.Repeat(fullWordsOf(s)[:1], 201)})
		wantFailure(t, chapter2.named("AreWordsOf"), arguments{space: s, rows: make([][]int, 201)})
	}
}

// validWordCalls returns arguments with which each function of chapter 2 succeeds, and some with which it fails.
func validWordCalls() []arguments {
	s := impl.Space{Items: 3, Sets: []int{0, 1, 4, 5, 7}}
	return []arguments{
		{space: s, number: 0, list: []int{0, 2, 1}, second: []int{2, 0, 1}, rows: [][]int{{0, 2, 1}, {2, 0, 1}}},
		{space: s, number: 5, list: []int{2}, second: []int{0, 2}, rows: [][]int{{2, 0, 1}, {0, 2, 1}, {2, 0, 1}}},
		{space: s, number: 1, list: []int{}, second: []int{2}, rows: [][]int{{0, 2, 1}}},
		{space: s, number: 4, list: []int{2}, second: []int{}, rows: [][]int{{0, 2}, {2, 0, 1}}},
		{space: s, number: 7, list: []int{2, 1}, second: []int{0}, rows: [][]int{nil, {2, 0, 1}}},
		{space: freeOf(4), number: 2, list: []int{3, 1, 0, 2}, second: []int{0, 1, 2, 3}, rows: [][]int{{3, 2, 1, 0}, {0, 1, 2, 3}}},
		{space: freeOf(7), number: 5, list: []int{6, 5, 4, 3, 2, 1, 0}, second: []int{0, 1, 2, 3, 4, 5, 6}, rows: [][]int{{0}}},
		{space: lineOf(7), number: 1, list: []int{6, 0, 1, 2, 3, 4, 5}, second: []int{6, 5, 4, 3, 2, 1, 0}},
		{space: with200, number: 199, list: []int{0, 3}, second: []int{4}, rows: fullWordsOf(with200)},
		{space: with201, number: 200, list: []int{1, 0}, second: []int{1}, rows: fullWordsOf(with201)},
		{space: freeOf(1), number: 0, list: []int{0}, second: []int{0}, rows: [][]int{{0}}},
		{space: impl.Space{Items: 2, Sets: []int{3, 1, 0}}, number: 0, list: []int{0, 1}, second: []int{0, 1}, rows: [][]int{{1, 0}, {0}}},
	}
}

func TestWordArgumentsAreKept(t *testing.T) {
	for _, a := range validWordCalls() {
		chapter2.wantCalls(t, a)
	}
}

func TestValidWordCallsSucceed(t *testing.T) {
	chapter2.wantSuccesses(t, validWordCalls())
}

func TestWordResultsAreNewMemory(t *testing.T) {
	chapter2.wantNewMemory(t, validWordCalls())
}

// What is behind the length of a list does not belong to it.
func TestSpareCapacityIsNoWord(t *testing.T) {
	s, order := freeOf(3), []int{0, 1, 2}
	rows := [][]int{{0, 1, 2}, {2, 1, 0}}
	wantFailure(t, chapter2.named("CountWords"), arguments{space: impl.Space{Items: 3, Sets: s.Sets[:7]}})
	wantFailure(t, chapter2.named("RankWord"), arguments{space: s, list: order[:2]})
	wantFailure(t, chapter2.named("SwapWay"), arguments{space: s, list: order[:2], second: order})
	wantFailure(t, chapter2.named("SwapWay"), arguments{space: s, list: order, second: order[:2]})
	wantFailure(t, chapter2.named("SwapWord"), arguments{space: s, list: order[:2], number: 1})
	wantFailure(t, chapter2.named("SpaceOfWords"), arguments{rows: rows[:0]})
	wantFailure(t, chapter2.named("SpaceOfWords"), arguments{rows: [][]int{order, order[:2]}})
	set, ok := impl.SetOfWord(s, order[:1])
	wantCount(t, "SetOfWord", set, ok, 1)
	word, ok := impl.ExchangeWord(s, order[:1], []int{2})
	wantWord(t, "ExchangeWord", word, ok, []int{0, 2}, true)
	word, ok = impl.FinishWord(s, []int{2, 1, 0}[:1])
	wantWord(t, "FinishWord", word, ok, []int{2, 0, 1}, true)
	chain, ok := impl.SpaceOfWords(rows[:1])
	wantSpace(t, "SpaceOfWords", chain, ok, impl.Space{Items: 3, Sets: []int{0, 1, 3, 7}}, true)
	is, ok := impl.AreWordsOf(chain, rows[:1])
	wantAnswer(t, "AreWordsOf", is, ok, true)
	is, ok = impl.AreWordsOf(chain, [][]int{order[:2]})
	wantAnswer(t, "AreWordsOf a part", is, ok, false)
	text, ok := impl.WordText(order[:0])
	if !ok || text != "-" {
		t.Errorf("WordText: %q", text)
	}
}

// nearWord returns a list that is a word of a space or like one.
func (c *chance) nearWord(s impl.Space) []int {
	if !isDefined(s) || c.below(5) == 0 {
		return c.anyList()
	}
	in := marksOf(s.Sets)
	var word []int
	length := s.Items
	if c.below(2) == 0 {
		length = c.below(s.Items + 1)
	}
	for len(word) < length {
		if item := c.below(s.Items); !slices.Contains(word, item) && in[setOf(word)|1<<item] {
			word = append(word, item)
		}
	}
	if len(word) > 0 && c.below(6) == 0 {
		word[c.below(len(word))] = c.anyNumber()
	}
	return word
}

func (c *chance) nearWords(s impl.Space) [][]int {
	var words [][]int
	for range c.below(6) {
		words = append(words, c.nearWord(s))
	}
	if len(words) > 0 && c.below(20) == 0 {
		words = slices.Repeat(words, 1+c.below(100))
	}
	return words
}

func TestAnyArgumentsOfWords(t *testing.T) {
	c := chance(27)
	for range 3000 {
		a := arguments{space: c.anySpace(), number: c.anyNumber()}
		a.list, a.second, a.rows = c.nearWord(a.space), c.nearWord(a.space), c.nearWords(a.space)
		if c.below(3) == 0 {
			a.rows = nil
			for range 1 + c.below(4) {
				a.rows = append(a.rows, c.order(1+c.below(3)))
			}
		}
		chapter2.wantCalls(t, a)
		if is, _ := impl.IsWord(a.space, a.list); is != (isDefined(a.space) && isWord(a)) {
			t.Errorf("IsWord %s %v: %v", textOf(a.space), a.list, is)
		}
	}
}
