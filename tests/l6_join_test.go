package tests

import (
	"fmt"
	"slices"
	"testing"

	"loop.example/g01137/impl"
)

// doMake reports whether the beginnings of full words have all Sets of a space as their unions.
func doMake(s impl.Space, words [][]int) bool {
	return slices.Equal(unions(beginningsOf(words)), s.Sets)
}

// Promise 6: as many full words as the width make the space.
func TestMakingWordsMakeTheSpace(t *testing.T) {
	for _, s := range append(pathSamples(), turning) {
		all := fullWordsOf(s)
		var want [][]int
		for _, chain := range chainsOf(allPathsIn(s)) {
			word, _ := firstThrough(all, chain)
			want = append(want, word)
		}
		words, ok := impl.MakingWords(s)
		wantRows(t, "MakingWords "+textOf(s), words, ok, want)
		chains, ok := impl.ChainsThrough(s)
		for i, chain := range chains {
			word, fine := impl.WordThrough(s, chain)
			wantWord(t, fmt.Sprint("WordThrough ", textOf(s), chain), word, ok && fine, words[i], true)
		}
		made, ok := impl.SpaceOfWords(words)
		wantSpace(t, "SpaceOfWords MakingWords", made, ok, s, true)
		is, ok := impl.AreMaking(s, words)
		wantAnswer(t, "AreMaking MakingWords "+textOf(s), is, ok, true)
		for i := range words {
			is, ok = impl.AreMaking(s, slices.Delete(slices.Clone(words), i, i+1))
			wantAnswer(t, "AreMaking MakingWords but one of "+textOf(s), is, ok, false)
		}
		width, ok := impl.WidthOf(s)
		fewest, fine := impl.FewestWords(s)
		wantCount(t, "WidthOf "+textOf(s), width, ok, len(words))
		wantCount(t, "FewestWords "+textOf(s), fewest, fine, len(words))
	}
}

func TestMakingWordsOfSomeSpaces(t *testing.T) {
	for _, made := range []struct {
		space impl.Space
		words [][]int
	}{
		{freeOf(1), [][]int{{0}}},
		{freeOf(2), [][]int{{0, 1}, {1, 0}}},
		{freeOf(3), [][]int{{0, 1, 2}, {1, 0, 2}, {2, 0, 1}}},
		{lineOf(3), [][]int{{0, 1, 2}, {2, 1, 0}}},
		{chapter3Example, [][]int{{0, 2, 1}, {1, 2, 0}}},
		{turning, [][]int{{0, 3, 1, 2}, {1, 0, 2, 3}}},
		{impl.Space{Items: 3, Sets: []int{0, 2, 6, 7}}, [][]int{{1, 2, 0}}},
	} {
		words, ok := impl.MakingWords(made.space)
		wantRows(t, "MakingWords "+textOf(made.space), words, ok, made.words)
	}
}

// grown returns the sets of what beginnings of some words have, told as marks, with one of all full words more.
func grown(marks map[int]bool, words [][]int) map[int]bool {
	more := map[int]bool{}
	for old := range marks {
		for _, word := range words {
			mark := old
			for _, set := range beginnings(word) {
				mark |= 1 << set
			}
			more[mark] = true
		}
	}
	return more
}

// fewestOf looks at all lists of 1, 2, .. full words of a space of at most 4 items.
func fewestOf(s impl.Space) int {
	words := fullWordsOf(s)
	marks := map[int]bool{0: true}
	for count := 1; ; count++ {
		marks = grown(marks, words)
		for mark := range marks {
			if slices.Equal(unions(pointsOf(mark)), s.Sets) {
				return count
			}
		}
	}
}

// Promise 6: no fewer full words make the space than the width of its paths.
func TestFewestWordsByDefinition(t *testing.T) {
	for n := 1; n <= 4; n++ {
		for _, s := range spacesOf(n) {
			count, ok := impl.FewestWords(s)
			wantCount(t, "FewestWords "+textOf(s), count, ok, fewestOf(s))
		}
	}
}

func wantMaking(t *testing.T, s impl.Space, words [][]int) {
	t.Helper()
	is, ok := impl.AreMaking(s, words)
	wantAnswer(t, fmt.Sprint("AreMaking ", textOf(s), words), is, ok, doMake(s, words))
}

func TestAreMakingByDefinition(t *testing.T) {
	for n := 1; n <= 3; n++ {
		for _, s := range spacesOf(n) {
			words := fullWordsOf(s)
			for marks := range 1 << len(words) {
				wantMaking(t, s, chosen(words, marks))
			}
		}
	}
	c := chance(64)
	for _, s := range pathSamples() {
		words := fullWordsOf(s)
		wantMaking(t, s, nil)
		wantMaking(t, s, [][]int{})
		for _, word := range some(&c, words, 3) {
			wantMaking(t, s, [][]int{word})
			wantMaking(t, s, [][]int{word, word})
		}
		for _, count := range []int{2, 3, 5, 8, 20, 35} {
			wantMaking(t, s, some(&c, words, count)[:min(count, len(words))])
		}
		making, _ := impl.MakingWords(s)
		twice := slices.Concat(making, making[:min(len(making), 15)])
		slices.Reverse(twice)
		wantMaking(t, s, twice)
	}
}

func TestAreMakingAtItsLimit(t *testing.T) {
	for _, s := range append(samples(), turning) {
		words, _ := impl.MakingWords(s)
		words = append(words, slices.Repeat(words[:1], 36-len(words))...)
		is, ok := impl.AreMaking(s, words[:35])
		wantAnswer(t, "AreMaking of 35 words of "+textOf(s), is, ok, true)
		if is, ok := impl.AreMaking(s, words); is || ok {
			t.Errorf("AreMaking of 36 words of %s: %v %v", textOf(s), is, ok)
		}
	}
	many := fullWordsOf(freeOf(7))
	wantMaking(t, freeOf(7), many[:35])
	for _, count := range []int{36, 200, 5040} {
		if is, ok := impl.AreMaking(freeOf(7), many[:count]); is || ok {
			t.Errorf("AreMaking of %d words: %v %v", count, is, ok)
		}
	}
}

func TestPrefixSetsOfAllOrders(t *testing.T) {
	for n := 1; n <= 7; n++ {
		for _, order := range orders(n) {
			sets, ok := impl.PrefixSets(order)
			wantWord(t, fmt.Sprint("PrefixSets ", order), sets, ok, beginnings(order), true)
		}
	}
	sets, ok := impl.PrefixSets([]int{0})
	wantWord(t, "PrefixSets of one item", sets, ok, []int{0, 1}, true)
	sets, ok = impl.PrefixSets([]int{2, 0, 1})
	wantWord(t, "PrefixSets", sets, ok, []int{0, 4, 5, 7}, true)
	for _, list := range [][]int{nil, {}, {1}, {-1}, {0, 0}, {0, 2}, {1, 2}, {0, 1, 1}, {0, 1, 2, 3, 4, 5, 6, 7}} {
		sets, ok = impl.PrefixSets(list)
		wantWord(t, fmt.Sprint("PrefixSets ", list), sets, ok, nil, false)
	}
}

// greatestSpace returns the space that has as parts all spaces of a list whose Sets are some of given ones.
func greatestSpace(spaces []impl.Space, sets []int) (impl.Space, bool) {
	var within []impl.Space
	for _, s := range spaces {
		if arePart(s.Sets, sets) {
			within = append(within, s)
		}
	}
	for _, greatest := range within {
		if !slices.ContainsFunc(within, func(s impl.Space) bool { return !arePart(s.Sets, greatest.Sets) }) {
			return greatest, true
		}
	}
	return impl.Space{}, false
}

func commonOf(a []int, b []int) []int {
	return slices.DeleteFunc(slices.Clone(a), func(set int) bool { return !slices.Contains(b, set) })
}

// wordsOfBoth returns the full words that two spaces have in common, and the space of their beginnings.
func wordsOfBoth(a impl.Space, b impl.Space) ([][]int, impl.Space) {
	words := slices.DeleteFunc(fullWordsOf(a), func(word []int) bool { return !isFullWordOf(b, word) })
	if len(words) == 0 {
		return nil, impl.Space{}
	}
	return words, impl.Space{Items: a.Items, Sets: sortedKeys(marksOf(beginningsOf(words)))}
}

func wantMeet(t *testing.T, a impl.Space, b impl.Space, want impl.Space, fine bool) {
	t.Helper()
	got, ok := impl.MeetOfSpaces(a, b)
	wantSpace(t, "MeetOfSpaces "+textOf(a)+" "+textOf(b), got, ok, want, fine)
	if words, made := wordsOfBoth(a, b); len(words) > 0 != ok || !sameSpace(made, got) {
		t.Errorf("MeetOfSpaces %s %s: %s %v with %d full words of both", textOf(a), textOf(b), textOf(got), ok, len(words))
	}
}

func TestMeetOfSpacesByDefinition(t *testing.T) {
	c := chance(65)
	for n := 1; n <= 4; n++ {
		spaces := spacesOf(n)
		for _, a := range spaces {
			others := spaces
			if n == 4 {
				others = slices.Repeat([]impl.Space{a}, 5)
				for i := range others {
					others[i] = spaces[c.below(len(spaces))]
				}
			}
			for _, b := range others {
				want, fine := greatestSpace(spaces, commonOf(a.Sets, b.Sets))
				wantMeet(t, a, b, want, fine)
			}
		}
	}
}

// Promise 6 for greater spaces: what two spaces have in common is what can be learnt in both, whichever comes first.
func TestMeetsOfGreaterSpaces(t *testing.T) {
	c := chance(66)
	for n := 5; n <= 7; n++ {
		for count := 1; count <= 24; count++ {
			a, b := madeSpace(&c, n, 1+count/4), madeSpace(&c, n, 1+count%8)
			words, want := wordsOfBoth(a, b)
			wantMeet(t, a, b, want, len(words) > 0)
			wantMeet(t, b, a, want, len(words) > 0)
			order := c.order(n)
			for _, s := range []*impl.Space{&a, &b} {
				s.Sets = unions(slices.Concat(s.Sets, beginnings(order)))
			}
			_, want = wordsOfBoth(a, b)
			wantMeet(t, a, b, want, true)
		}
	}
}

func TestMeetsOfSomeSpaces(t *testing.T) {
	for _, s := range pathSamples() {
		meet, ok := impl.MeetOfSpaces(s, s)
		wantSpace(t, "MeetOfSpaces of a space with itself", meet, ok, s, true)
		meet, ok = impl.MeetOfSpaces(s, freeOf(s.Items))
		wantSpace(t, "MeetOfSpaces of a space with that of all sets", meet, ok, s, true)
		meet, ok = impl.MeetOfSpaces(freeOf(s.Items), s)
		wantSpace(t, "MeetOfSpaces of that of all sets with a space", meet, ok, s, true)
		word := fullWordsOf(s)[0]
		chain := impl.Space{Items: s.Items, Sets: beginnings(word)}
		meet, ok = impl.MeetOfSpaces(chain, s)
		wantSpace(t, "MeetOfSpaces of a chain with a space", meet, ok, chain, true)
	}
	// One full word in common, 0 1 2.
	a, b := impl.Space{Items: 3, Sets: []int{0, 1, 3, 5, 7}}, impl.Space{Items: 3, Sets: []int{0, 1, 2, 3, 7}}
	wantMeet(t, a, b, impl.Space{Items: 3, Sets: []int{0, 1, 3, 7}}, true)
	// 3 is one of both, but not by a word of both; then 5 is, beside a word of both, 1 0 2.
	a, b = impl.Space{Items: 3, Sets: []int{0, 1, 3, 7}}, impl.Space{Items: 3, Sets: []int{0, 2, 3, 7}}
	wantMeet(t, a, b, impl.Space{}, false)
	a, b = impl.Space{Items: 3, Sets: []int{0, 1, 2, 3, 5, 7}}, impl.Space{Items: 3, Sets: []int{0, 2, 3, 4, 5, 6, 7}}
	wantMeet(t, a, b, impl.Space{Items: 3, Sets: []int{0, 2, 3, 7}}, true)
	// Nothing in common but what each space has.
	a, b = impl.Space{Items: 3, Sets: []int{0, 1, 3, 7}}, impl.Space{Items: 3, Sets: []int{0, 4, 6, 7}}
	wantMeet(t, a, b, impl.Space{}, false)
	wantMeet(t, freeOf(1), freeOf(1), freeOf(1), true)
	for n := 1; n <= 7; n++ {
		for m := 1; m <= 7; m++ {
			if meet, ok := impl.MeetOfSpaces(freeOf(n), lineOf(m)); n != m && (ok || !isZero(meet)) {
				t.Errorf("MeetOfSpaces of %d and %d items: %s", n, m, textOf(meet))
			}
		}
	}
}

func wantPart(t *testing.T, a impl.Space, b impl.Space, want bool) {
	t.Helper()
	is, ok := impl.IsPartOf(a, b)
	wantAnswer(t, "IsPartOf "+textOf(a)+" "+textOf(b), is, ok, want)
}

func TestIsPartOfByDefinition(t *testing.T) {
	all := samples()
	spaces := slices.Concat(spacesOf(1), spacesOf(2), spacesOf(3), all[len(all)-30:])
	for _, a := range spaces {
		for _, b := range spaces {
			wantPart(t, a, b, a.Items == b.Items && arePart(a.Sets, b.Sets))
		}
	}
	c := chance(67)
	for _, a := range pathSamples() {
		word := fullWordsOf(a)[0]
		chain, more := impl.Space{Items: a.Items, Sets: beginnings(word)}, a
		more.Sets = unions(slices.Concat(a.Sets, beginnings(c.order(a.Items))))
		wantPart(t, a, a, true)
		wantPart(t, chain, a, true)
		wantPart(t, a, chain, len(a.Sets) == a.Items+1)
		wantPart(t, a, more, true)
		wantPart(t, more, a, len(more.Sets) == len(a.Sets))
		wantPart(t, a, freeOf(a.Items), true)
		wantPart(t, a, freeOf(a.Items%7+1), false)
	}
}
