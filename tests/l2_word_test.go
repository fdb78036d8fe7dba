package tests

import (
	"fmt"
	"slices"
	"strings"
	"testing"

	"loop.example/g01137/impl"
)

// with200 and with201 have just as many full words.
var (
	with200 = impl.Space{Items: 7, Sets: []int{0, 1, 8, 9, 16, 17, 24, 25, 56, 57, 64, 65, 72, 73, 77, 79, 80, 81, 88, 89, 91, 93,
		95, 111, 120, 121, 123, 125, 127}}
	with201 = impl.Space{Items: 7, Sets: []int{0, 1, 2, 3, 8, 9, 10, 11, 34, 35, 42, 43, 46, 47, 59, 63, 66, 67, 74, 75, 90, 91, 98,
		99, 103, 106, 107, 110, 111, 122, 123, 126, 127}}
)

// wordsOf returns all words of a space, in order: each one is followed by those that begin with it.
func wordsOf(s impl.Space) [][]int {
	in := marksOf(s.Sets)
	var all [][]int
	var grow func(word []int, set int)
	grow = func(word []int, set int) {
		all = append(all, slices.Clone(word))
		for i := range s.Items {
			if next := set | 1<<i; next != set && in[next] {
				grow(append(word, i), next)
			}
		}
	}
	grow(nil, 0)
	return all
}

func fullWordsOf(s impl.Space) [][]int {
	return slices.DeleteFunc(wordsOf(s), func(word []int) bool { return len(word) < s.Items })
}

// isWordOf reports whether a list is a word, as the document defines it.
func isWordOf(s impl.Space, list []int) bool {
	set := 0
	for _, item := range list {
		if item < 0 || item >= s.Items || set>>item&1 == 1 || !slices.Contains(s.Sets, set+1<<item) {
			return false
		}
		set += 1 << item
	}
	return true
}

func isFullWordOf(s impl.Space, list []int) bool {
	return len(list) == s.Items && isWordOf(s, list)
}

func setOf(list []int) int {
	set := 0
	for _, item := range list {
		set |= 1 << item
	}
	return set
}

// some returns a list, or that many elements of it if it is longer.
func some(c *chance, all [][]int, limit int) [][]int {
	if len(all) <= limit {
		return all
	}
	chosen := [][]int{all[0], all[len(all)-1]}
	for len(chosen) < limit {
		chosen = append(chosen, all[c.below(len(all))])
	}
	return chosen
}

func wantWord(t *testing.T, what string, got []int, ok bool, want []int, fine bool) {
	t.Helper()
	if ok != fine || !slices.Equal(got, want) {
		t.Errorf("%s: %v %v, want %v %v", what, got, ok, want, fine)
	}
}

func wantCount(t *testing.T, what string, got int, ok bool, want int) {
	t.Helper()
	if !ok || got != want {
		t.Errorf("%s: %d %v, want %d", what, got, ok, want)
	}
}

func wantAnswer(t *testing.T, what string, got bool, ok bool, want bool) {
	t.Helper()
	if !ok || got != want {
		t.Errorf("%s: %v %v, want %v", what, got, ok, want)
	}
}

func sameWords(a [][]int, b [][]int) bool {
	return slices.EqualFunc(a, b, slices.Equal[[]int])
}

func TestExampleOfChapter2(t *testing.T) {
	s := impl.Space{Items: 3, Sets: []int{0, 1, 4, 5, 7}}
	words, ok := impl.AllWords(s)
	if !ok || !sameWords(words, [][]int{{0, 2, 1}, {2, 0, 1}}) {
		t.Errorf("AllWords: %v %v", words, ok)
	}
	word, ok := impl.ExchangeWord(s, []int{2}, []int{0})
	wantWord(t, "ExchangeWord", word, ok, []int{2, 0}, true)
	made, ok := impl.SpaceOfWords([][]int{{0, 2, 1}, {2, 0, 1}})
	wantSpace(t, "SpaceOfWords", made, ok, s, true)
}

// throughEachSet returns a full word through each of the Sets.
func throughEachSet(t *testing.T, s impl.Space) [][]int {
	var words [][]int
	for _, set := range s.Sets {
		word, ok := impl.SortWord(s, set)
		full, fine := impl.FinishWord(s, word)
		if !ok || !fine {
			t.Errorf("%s: no word through %d", textOf(s), set)
		}
		words = append(words, full)
	}
	return words
}

// Promise 2: words make the space again.
func TestWordsMakeTheSpaceAgain(t *testing.T) {
	for _, s := range append(samples(), with200, with201) {
		made, ok := impl.SpaceOfWords(throughEachSet(t, s))
		wantSpace(t, "SpaceOfWords through each set", made, ok, s, true)
		words, ok := impl.AllWords(s)
		if !ok {
			continue
		}
		made, ok = impl.SpaceOfWords(words)
		wantSpace(t, "SpaceOfWords of AllWords", made, ok, s, true)
		is, ok := impl.AreWordsOf(s, words)
		wantAnswer(t, "AreWordsOf AllWords of "+textOf(s), is, ok, true)
	}
}

// wantedWay returns the places that the document tells: the item b[k] goes before those behind b[:k] that it finds before it.
func wantedWay(a []int, b []int) []int {
	var places []int
	for k, item := range b {
		before := slices.DeleteFunc(slices.Clone(a[:slices.Index(a, item)]), func(i int) bool { return slices.Contains(b[:k], i) })
		for i := range before {
			places = append(places, k+len(before)-1-i)
		}
	}
	return places
}

// Promise 2: swaps lead from each full word to each other one.
func TestSwapsLeadToEachWord(t *testing.T) {
	c := chance(21)
	for _, s := range samples() {
		words := some(&c, fullWordsOf(s), 12)
		for _, a := range words {
			for _, b := range words {
				what := fmt.Sprint("SwapWay ", textOf(s), a, b)
				way, ok := impl.SwapWay(s, a, b)
				wantWord(t, what, way, ok, wantedWay(a, b), true)
				word := a
				for _, k := range way {
					next, ok := impl.SwapWord(s, word, k)
					if !ok || !isFullWordOf(s, next) {
						t.Errorf("%s: no swap of %v at %d: %v %v", what, word, k, next, ok)
					}
					word = next
				}
				wantWord(t, what+" leads", word, true, b, true)
			}
		}
	}
	way, ok := impl.SwapWay(freeOf(4), []int{0, 1, 2, 3}, []int{3, 2, 0, 1})
	wantWord(t, "SwapWay", way, ok, []int{2, 1, 0, 2, 1}, true)
}

func TestSwapWordByDefinition(t *testing.T) {
	c := chance(22)
	for _, s := range samples() {
		for _, word := range some(&c, wordsOf(s), 150) {
			for k := -2; k <= len(word)+1; k++ {
				var want []int
				if k >= 0 && k+1 < len(word) {
					turned := slices.Clone(word)
					turned[k], turned[k+1] = word[k+1], word[k]
					if isWordOf(s, turned) {
						want = turned
					}
				}
				got, ok := impl.SwapWord(s, word, k)
				wantWord(t, fmt.Sprint("SwapWord ", textOf(s), word, k), got, ok, want, want != nil)
			}
		}
	}
}

// lists returns all lists of a length of the numbers -1, 0, .., n.
func lists(length int, n int) [][]int {
	if length == 0 {
		return [][]int{nil}
	}
	var all [][]int
	for _, shorter := range lists(length-1, n) {
		for number := -1; number <= n; number++ {
			all = append(all, append(slices.Clone(shorter), number))
		}
	}
	return all
}

func wantIsWord(t *testing.T, s impl.Space, list []int) {
	t.Helper()
	want := isWordOf(s, list)
	is, ok := impl.IsWord(s, list)
	wantAnswer(t, fmt.Sprint("IsWord ", textOf(s), list), is, ok, want)
	set, ok := impl.SetOfWord(s, list)
	if ok != want || ok && set != setOf(list) || !ok && set != 0 {
		t.Errorf("SetOfWord %s %v: %d %v", textOf(s), list, set, ok)
	}
}

func TestIsWordByDefinition(t *testing.T) {
	for n := 1; n <= 3; n++ {
		for _, s := range spacesOf(n) {
			for length := range n + 2 {
				for _, list := range lists(length, n) {
					wantIsWord(t, s, list)
				}
			}
		}
	}
	c := chance(23)
	for _, s := range append(samples(), with200) {
		for _, word := range some(&c, wordsOf(s), 40) {
			wantIsWord(t, s, word)
			wantIsWord(t, s, append(word, c.below(s.Items))[:min(len(word)+1, 7)])
		}
		for range 10 {
			wantIsWord(t, s, c.order(s.Items)[:c.below(s.Items+1)])
		}
	}
}

func TestIsWordAtItsLimit(t *testing.T) {
	is, ok := impl.IsWord(freeOf(7), []int{6, 5, 4, 3, 2, 1, 0})
	wantAnswer(t, "IsWord of 7 numbers", is, ok, true)
	is, ok = impl.IsWord(freeOf(3), []int{6, 5, 4, 3, 2, 1, 0})
	wantAnswer(t, "IsWord of 7 numbers of 3 items", is, ok, false)
	for _, list := range [][]int{{6, 5, 4, 3, 2, 1, 0, 0}, make([]int, 8), make([]int, 100000)} {
		for _, s := range []impl.Space{freeOf(1), freeOf(7)} {
			if is, ok := impl.IsWord(s, list); is || ok {
				t.Errorf("IsWord of %d numbers: %v %v", len(list), is, ok)
			}
		}
	}
}

func TestRanksByDefinition(t *testing.T) {
	for _, s := range append(samples(), with200, with201) {
		words := fullWordsOf(s)
		count, ok := impl.CountWords(s)
		wantCount(t, "CountWords "+textOf(s), count, ok, len(words))
		step := 1 + len(words)/250
		for rank := 0; rank < len(words); rank += step {
			wantRank(t, s, words, rank)
		}
		wantRank(t, s, words, len(words)-1)
		for _, rank := range []int{-1, len(words), len(words) + 1, 5041, -5040} {
			word, ok := impl.WordWith(s, rank)
			wantWord(t, fmt.Sprint("WordWith ", textOf(s), rank), word, ok, nil, false)
		}
	}
}

func wantRank(t *testing.T, s impl.Space, words [][]int, rank int) {
	t.Helper()
	word, ok := impl.WordWith(s, rank)
	wantWord(t, fmt.Sprint("WordWith ", textOf(s), rank), word, ok, words[rank], true)
	got, ok := impl.RankWord(s, words[rank])
	wantCount(t, fmt.Sprint("RankWord ", textOf(s), words[rank]), got, ok, rank)
}

func TestRanksOfFreeSpaces(t *testing.T) {
	want := 1
	for n := 1; n <= 7; n++ {
		want *= n
		count, ok := impl.CountWords(freeOf(n))
		wantCount(t, fmt.Sprint("CountWords of FreeSpace ", n), count, ok, want)
	}
	word, ok := impl.WordWith(freeOf(7), 5039)
	wantWord(t, "WordWith 5039", word, ok, []int{6, 5, 4, 3, 2, 1, 0}, true)
}

// Words that are not full have no rank, and no swaps lead from or to them.
func TestShortWordsFail(t *testing.T) {
	for _, s := range samples() {
		full := fullWordsOf(s)[0]
		for length := range s.Items {
			if rank, ok := impl.RankWord(s, full[:length]); ok || rank != 0 {
				t.Errorf("RankWord %s %v: %d %v", textOf(s), full[:length], rank, ok)
			}
			for _, words := range [][2][]int{{full, full[:length]}, {full[:length], full}, {full[:length], full[:length]}} {
				way, ok := impl.SwapWay(s, words[0], words[1])
				wantWord(t, fmt.Sprint("SwapWay ", textOf(s), words), way, ok, nil, false)
			}
		}
	}
}

// countedFrom counts the words from a set one by one.
func countedFrom(n int, in map[int]bool, set int) int {
	if set == 1<<n-1 {
		return 1
	}
	count := 0
	for i := range n {
		if next := set | 1<<i; next != set && in[next] {
			count += countedFrom(n, in, next)
		}
	}
	return count
}

func TestCountFromByDefinition(t *testing.T) {
	for _, s := range samples() {
		in := marksOf(s.Sets)
		for _, set := range s.Sets {
			count, ok := impl.CountFrom(s, set)
			wantCount(t, fmt.Sprint("CountFrom ", textOf(s), set), count, ok, countedFrom(s.Items, in, set))
		}
	}
}

func TestAllWordsByDefinition(t *testing.T) {
	for _, s := range append(samples(), with200, with201) {
		want := fullWordsOf(s)
		fine := len(want) <= 200
		if !fine {
			want = nil
		}
		if got, ok := impl.AllWords(s); ok != fine || !sameWords(got, want) {
			t.Errorf("AllWords %s: %v %v", textOf(s), got, ok)
		}
	}
}

func TestAllWordsAtItsLimit(t *testing.T) {
	if n, m := len(fullWordsOf(with200)), len(fullWordsOf(with201)); n != 200 || m != 201 {
		t.Fatalf("%d and %d full words", n, m)
	}
	if words, ok := impl.AllWords(with200); !ok || len(words) != 200 {
		t.Errorf("AllWords, 200 of them: %d %v", len(words), ok)
	}
	if words, ok := impl.AllWords(with201); ok || len(words) != 0 {
		t.Errorf("AllWords, 201 of them: %d %v", len(words), ok)
	}
}

func TestExchangeWordByDefinition(t *testing.T) {
	c := chance(24)
	for _, s := range samples() {
		words := some(&c, wordsOf(s), 20)
		for _, a := range words {
			for _, b := range words {
				want := slices.Clone(a)
				for _, item := range b {
					if !slices.Contains(a, item) {
						want = append(want, item)
					}
				}
				got, ok := impl.ExchangeWord(s, a, b)
				wantWord(t, fmt.Sprint("ExchangeWord ", textOf(s), a, b), got, ok, want, true)
				if !isWordOf(s, got) {
					t.Errorf("ExchangeWord %s %v %v is no word: %v", textOf(s), a, b, got)
				}
			}
		}
	}
}

func TestFirstWordsByDefinition(t *testing.T) {
	for _, s := range samples() {
		words := wordsOf(s)
		firstTo, step := map[int][]int{}, 1+len(words)/500
		var full []int
		for i := len(words) - 1; i >= 0; i-- {
			if len(words[i]) == s.Items {
				full = words[i]
			}
			firstTo[setOf(words[i])] = words[i]
			if i%step == 0 {
				got, ok := impl.FinishWord(s, words[i])
				wantWord(t, fmt.Sprint("FinishWord ", textOf(s), words[i]), got, ok, full, true)
			}
		}
		for _, set := range s.Sets {
			got, ok := impl.SortWord(s, set)
			wantWord(t, fmt.Sprint("SortWord ", textOf(s), set), got, ok, firstTo[set], true)
		}
	}
}

func TestEmptyWord(t *testing.T) {
	for _, s := range samples() {
		words := fullWordsOf(s)
		for _, empty := range [][]int{nil, {}} {
			is, ok := impl.IsWord(s, empty)
			wantAnswer(t, "IsWord of none", is, ok, true)
			set, ok := impl.SetOfWord(s, empty)
			wantCount(t, "SetOfWord of none", set, ok, 0)
			first, ok := impl.FinishWord(s, empty)
			wantWord(t, "FinishWord of none", first, ok, words[0], true)
			last := words[len(words)-1]
			word, ok := impl.ExchangeWord(s, empty, last)
			wantWord(t, "ExchangeWord of none", word, ok, last, true)
			word, ok = impl.ExchangeWord(s, last, empty)
			wantWord(t, "ExchangeWord and none", word, ok, last, true)
			word, ok = impl.ExchangeWord(s, empty, empty)
			wantWord(t, "ExchangeWord of none and none", word, ok, nil, true)
			word, ok = impl.SortWord(s, 0)
			wantWord(t, "SortWord of no items", word, ok, nil, true)
		}
	}
}

func TestWordsOfOneItem(t *testing.T) {
	one, only := freeOf(1), []int{0}
	words, ok := impl.AllWords(one)
	if !ok || !sameWords(words, [][]int{only}) {
		t.Errorf("AllWords: %v %v", words, ok)
	}
	for set := range 2 {
		count, ok := impl.CountFrom(one, set)
		wantCount(t, "CountFrom", count, ok, 1)
	}
	count, ok := impl.CountWords(one)
	wantCount(t, "CountWords", count, ok, 1)
	rank, ok := impl.RankWord(one, only)
	wantCount(t, "RankWord", rank, ok, 0)
	word, ok := impl.WordWith(one, 0)
	wantWord(t, "WordWith", word, ok, only, true)
	word, ok = impl.WordWith(one, 1)
	wantWord(t, "WordWith 1", word, ok, nil, false)
	word, ok = impl.ExchangeWord(one, only, only)
	wantWord(t, "ExchangeWord", word, ok, only, true)
	word, ok = impl.SortWord(one, 1)
	wantWord(t, "SortWord", word, ok, only, true)
	word, ok = impl.SwapWord(one, only, 0)
	wantWord(t, "SwapWord", word, ok, nil, false)
	way, ok := impl.SwapWay(one, only, only)
	wantWord(t, "SwapWay", way, ok, nil, true)
	made, ok := impl.SpaceOfWords([][]int{only})
	wantSpace(t, "SpaceOfWords", made, ok, one, true)
	is, ok := impl.AreWordsOf(one, [][]int{only, only})
	wantAnswer(t, "AreWordsOf", is, ok, true)
}

// chosen returns the elements of a list that have a mark.
func chosen(all [][]int, marks int) [][]int {
	var part [][]int
	for i, element := range all {
		if marks>>i&1 == 1 {
			part = append(part, element)
		}
	}
	return part
}

func beginningsOf(words [][]int) []int {
	var sets []int
	for _, word := range words {
		sets = append(sets, beginnings(word)...)
	}
	return sets
}

func TestSpaceOfWordsByDefinition(t *testing.T) {
	c := chance(25)
	for n := 1; n <= 4; n++ {
		spaces, all := spacesOf(n), orders(n)
		for i := 1; i < min(1<<len(all), 300); i++ {
			marks := i
			if n == 4 {
				marks = 1<<c.below(24) | 1<<c.below(24) | 1<<c.below(24)
			}
			words := chosen(all, marks)
			want, _ := leastWith(spaces, beginningsOf(words))
			got, ok := impl.SpaceOfWords(words)
			wantSpace(t, fmt.Sprint("SpaceOfWords ", words), got, ok, want, true)
		}
	}
	for n := 5; n <= 7; n++ {
		for count := 1; count < 200; count += 9 {
			var words [][]int
			for range count {
				words = append(words, c.order(n))
			}
			got, ok := impl.SpaceOfWords(words)
			want := impl.Space{Items: n, Sets: unions(beginningsOf(words))}
			wantSpace(t, fmt.Sprint("SpaceOfWords ", words), got, ok, want, true)
		}
	}
}

func TestSpaceOfWordsAtItsLimits(t *testing.T) {
	for n := 1; n <= 7; n++ {
		c := chance(n)
		order := c.order(n)
		chain := impl.Space{Items: n, Sets: slices.Sorted(slices.Values(beginnings(order)))}
		got, ok := impl.SpaceOfWords(slices.Repeat([][]int{order}, 200))
		wantSpace(t, "SpaceOfWords of 200", got, ok, chain, true)
		got, ok = impl.SpaceOfWords(slices.Repeat([][]int{order}, 201))
		wantSpace(t, "SpaceOfWords of 201", got, ok, impl.Space{}, false)
	}
	got, ok := impl.SpaceOfWords(fullWordsOf(with200))
	wantSpace(t, "SpaceOfWords of 200 different ones", got, ok, with200, true)
	got, ok = impl.SpaceOfWords(fullWordsOf(with201))
	wantSpace(t, "SpaceOfWords of 201 different ones", got, ok, impl.Space{}, false)
	got, ok = impl.SpaceOfWords([][]int{{0, 1, 2, 3, 4, 5, 6, 7}})
	wantSpace(t, "SpaceOfWords of 8 items", got, ok, impl.Space{}, false)
}

func TestAreWordsOfByDefinition(t *testing.T) {
	c := chance(26)
	for n := 1; n <= 3; n++ {
		all := orders(n)
		for _, s := range spacesOf(n) {
			for marks := range 1 << len(all) {
				words := chosen(all, marks)
				full := fullWordsOf(s)
				want := len(words) == len(full) && !slices.ContainsFunc(words, func(w []int) bool { return !isWordOf(s, w) })
				wantAreWords(t, &c, s, words, want)
			}
		}
	}
	for _, s := range samples() {
		words := fullWordsOf(s)
		if len(words) > 100 {
			continue
		}
		wantAreWords(t, &c, s, words, true)
		wantAreWords(t, &c, s, words[1:], false)
		wantAreWords(t, &c, s, words[:len(words)-1], false)
		for range 5 {
			other := c.order(s.Items)
			wantAreWords(t, &c, s, append(words, other), isWordOf(s, other))
			wantAreWords(t, &c, s, append(slices.Clone(words[1:]), other), slices.Equal(other, words[0]))
		}
	}
}

// wantAreWords asks for words in their order, and mixed, some of them twice.
func wantAreWords(t *testing.T, c *chance, s impl.Space, words [][]int, want bool) {
	t.Helper()
	is, ok := impl.AreWordsOf(s, words)
	wantAnswer(t, fmt.Sprint("AreWordsOf ", textOf(s), words), is, ok, want)
	var mixed [][]int
	for _, place := range c.order(len(words)) {
		mixed = append(mixed, words[place])
	}
	mixed = append(mixed, mixed[:len(mixed)/2]...)
	is, ok = impl.AreWordsOf(s, mixed)
	wantAnswer(t, fmt.Sprint("AreWordsOf ", textOf(s), mixed), is, ok, want)
}

// Lists that are no words are none of the full words of a space.
func TestAreWordsOfOtherLists(t *testing.T) {
	for _, s := range samples() {
		words := fullWordsOf(s)
		if len(words) > 150 {
			continue
		}
		full := words[len(words)-1]
		longer := append(slices.Clone(full), full[0])
		turned := slices.Clone(full)
		turned[0] = -1
		great := slices.Clone(full)
		great[s.Items-1] = s.Items
		twice := slices.Clone(full)
		twice[0] = twice[s.Items-1]
		others := [][]int{nil, {}, full[1:], full[:s.Items-1], longer, turned, great, make([]int, 8), make([]int, 1000), {0, 1, 2, 3, 4, 5, 6, 7}}
		if s.Items > 1 {
			others = append(others, twice)
		}
		for _, other := range others {
			is, ok := impl.AreWordsOf(s, append(slices.Clone(words), other))
			wantAnswer(t, fmt.Sprint("AreWordsOf ", textOf(s), " and ", other), is, ok, false)
			is, ok = impl.AreWordsOf(s, append(slices.Clone(words[:len(words)-1]), other))
			wantAnswer(t, fmt.Sprint("AreWordsOf but one ", textOf(s), " and ", other), is, ok, false)
		}
		is, ok := impl.AreWordsOf(s, nil)
		wantAnswer(t, "AreWordsOf of none", is, ok, false)
	}
}

func TestAreWordsOfAtItsLimits(t *testing.T) {
	words := fullWordsOf(with200)
	is, ok := impl.AreWordsOf(with200, words)
	wantAnswer(t, "AreWordsOf 200", is, ok, true)
	is, ok = impl.AreWordsOf(with200, append(words[:199:199], words[0]))
	wantAnswer(t, "AreWordsOf 199 and one twice", is, ok, false)
	if is, ok := impl.AreWordsOf(with200, append(words, words[0])); is || ok {
		t.Errorf("AreWordsOf 201: %v %v", is, ok)
	}
	is, ok = impl.AreWordsOf(with201, fullWordsOf(with201)[:200])
	wantAnswer(t, "AreWordsOf 200 of 201", is, ok, false)
	if is, ok := impl.AreWordsOf(with201, fullWordsOf(with201)); is || ok {
		t.Errorf("AreWordsOf 201 of 201: %v %v", is, ok)
	}
	two := slices.Repeat([][]int{{0, 1}, {1, 0}}, 100)
	is, ok = impl.AreWordsOf(freeOf(2), two)
	wantAnswer(t, "AreWordsOf 2, 100 times", is, ok, true)
	if is, ok := impl.AreWordsOf(freeOf(2), append(two, two[0])); is || ok {
		t.Errorf("AreWordsOf 2, 100 times and once more: %v %v", is, ok)
	}
}

func TestTextsOfWords(t *testing.T) {
	wanted := map[string][]int{
		"-":                     nil,
		"0":                     {0},
		"021":                   {0, 2, 1},
		"9876543210":            {9, 8, 7, 6, 5, 4, 3, 2, 1, 0},
		"00":                    {0, 0},
		strings.Repeat("9", 20): slices.Repeat([]int{9}, 20),
	}
	for want, list := range wanted {
		if got, ok := impl.WordText(list); !ok || got != want {
			t.Errorf("WordText %v: %q %v", list, got, ok)
		}
	}
	if got, ok := impl.WordText([]int{}); !ok || got != "-" {
		t.Errorf("WordText of none: %q %v", got, ok)
	}
	for length := range 20 {
		list := slices.Repeat([]int{length % 10}, length+1)
		if got, ok := impl.WordText(list); !ok || got != strings.Repeat(fmt.Sprint(length%10), length+1) {
			t.Errorf("WordText %v: %q %v", list, got, ok)
		}
	}
	for _, list := range [][]int{make([]int, 21), make([]int, 1000), {10}, {-1}, {0, 1, 10}, {0, -1, 1}, {1 << 62}, {-1 << 63}, {256}, {-48}} {
		if got, ok := impl.WordText(list); ok || got != "" {
			t.Errorf("WordText %v: %q %v", list, got, ok)
		}
	}
}
