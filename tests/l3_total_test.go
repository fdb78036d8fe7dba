package tests

import (
	"fmt"
	"math"
	"slices"
	"testing"

	"loop.example/g01137/impl"
)

func isSetOfItems(a arguments) bool { return 0 <= a.number && a.number < 1<<a.space.Items }
func isItem(a arguments) bool       { return 0 <= a.item && a.item < a.space.Items }

func isOpenItem(a arguments) bool {
	return isOwnSet(a) && isItem(a) && a.number>>a.item&1 == 0
}

// areClausesToLearn reports whether a list tells clauses by which all items can be learnt.
func areClausesToLearn(a arguments) bool {
	n := a.number
	if n < 1 || n > 7 || len(a.rows) > 60 {
		return false
	}
	for _, row := range a.rows {
		if len(row) != 2 || row[0] < 0 || row[0] >= n || row[1] < 0 || row[1] >= 1<<n || row[1]>>row[0]&1 == 1 {
			return false
		}
	}
	known := 0
	for range n {
		for _, row := range a.rows {
			if isPart(row[1], known) {
				known |= 1 << row[0]
			}
		}
	}
	return known == 1<<n-1
}

var chapter3 = chapter{inSpaces: []demanding{
	{function{"IsPath", func(a arguments) (any, bool) { return result(impl.IsPath(a.space, a.number)) }}, isSetOfItems},
	{function{"PathsOf", func(a arguments) (any, bool) { return result(impl.PathsOf(a.space)) }}, always},
	{function{"EndOf", func(a arguments) (any, bool) { return result(impl.EndOf(a.space, a.number)) }},
		func(a arguments) bool { _, ok := endIn(a.space, a.number); return ok }},
	{function{"PathsTo", func(a arguments) (any, bool) { return result(impl.PathsTo(a.space, a.item)) }}, isItem},
	{function{"PathsWithin", func(a arguments) (any, bool) { return result(impl.PathsWithin(a.space, a.number)) }}, isOwnSet},
	{function{"ClausesOf", func(a arguments) (any, bool) { return result(impl.ClausesOf(a.space)) }}, always},
	{function{"IsOrderSpace", func(a arguments) (any, bool) { return result(impl.IsOrderSpace(a.space)) }}, always},
	{function{"CoversOf", func(a arguments) (any, bool) { return result(impl.CoversOf(a.space)) }}, always},
	{function{"CriticalOf", func(a arguments) (any, bool) { return result(impl.CriticalOf(a.space)) }}, always},
	{function{"CanLearn", func(a arguments) (any, bool) { return result(impl.CanLearn(a.space, a.number, a.item)) }}, isOpenItem},
	{function{"DifferentEnds", func(a arguments) (any, bool) { return result(impl.DifferentEnds(a.space)) }}, always},
	{function{"LongestPath", func(a arguments) (any, bool) { return result(impl.LongestPath(a.space)) }}, always},
}, withoutSpace: []demanding{
	{function{"SpaceOfPaths", func(a arguments) (any, bool) { return result(impl.SpaceOfPaths(a.number, a.list)) }},
		func(a arguments) bool { return arePathsToMake(a.number, a.list) }},
	{function{"SpaceOfClauses", func(a arguments) (any, bool) { return result(impl.SpaceOfClauses(a.number, a.rows)) }}, areClausesToLearn},
}}

func TestPathsInInvalidSpacesFail(t *testing.T) {
	for _, s := range invalidSpaces() {
		for set := -1; set <= 8; set++ {
			for item := -1; item <= 3; item++ {
				chapter3.wantCalls(t, arguments{space: s, number: set, item: item})
			}
		}
	}
}

// farNumbers are no sets, and no items either.
func farNumbers() []int {
	return []int{-1, -2, -7, -64, -128, 128, 129, 255, 256, 1 << 62, math.MaxInt, math.MaxInt - 1, math.MinInt, math.MinInt + 1}
}

func TestSetsThatAreNoneFail(t *testing.T) {
	for _, s := range pathSamples() {
		for _, number := range append(farNumbers(), 1<<s.Items, 1<<s.Items+1) {
			for _, name := range []string{"IsPath", "EndOf", "PathsWithin", "CanLearn"} {
				wantFailure(t, chapter3.named(name), arguments{space: s, number: number})
			}
		}
		for set := range 1 << s.Items {
			if !slices.Contains(s.Sets, set) {
				for _, name := range []string{"EndOf", "PathsWithin", "CanLearn"} {
					wantFailure(t, chapter3.named(name), arguments{space: s, number: set})
					wantFailure(t, chapter3.named(name), arguments{space: s, number: set, item: s.Items - 1})
				}
			}
		}
	}
}

func TestItemsThatAreNoneFail(t *testing.T) {
	for _, s := range pathSamples() {
		for _, item := range append(farNumbers(), s.Items, 7, 8, 63, 64, 65) {
			wantFailure(t, chapter3.named("PathsTo"), arguments{space: s, item: item})
			for _, set := range []int{0, s.Sets[1], 1<<s.Items - 1} {
				wantFailure(t, chapter3.named("CanLearn"), arguments{space: s, number: set, item: item})
			}
		}
		for item := range s.Items {
			wantFailure(t, chapter3.named("CanLearn"), arguments{space: s, number: 1<<s.Items - 1, item: item})
		}
	}
}

func TestSpacesOfInvalidNumbersOfItemsFail(t *testing.T) {
	for _, n := range append(farNumbers(), 0, 8, 9, 63, 64, 65) {
		for _, paths := range [][]int{nil, {0}, {1}, {1, 2}, {1, 2, 4, 8, 16, 32, 64}, {1, 2, 4, 8, 16, 32, 64, 128}} {
			wantFailure(t, chapter3.named("SpaceOfPaths"), arguments{number: n, list: paths})
		}
		for _, clauses := range [][][]int{nil, {{0, 0}}, {{0, 0}, {1, 0}}, clausesIn(freeOf(7)), append(clausesIn(freeOf(7)), []int{7, 0})} {
			wantFailure(t, chapter3.named("SpaceOfClauses"), arguments{number: n, rows: clauses})
		}
	}
}

func TestInvalidPathsFail(t *testing.T) {
	for _, paths := range [][]int{nil, {}, {0}, {7}, {1, 2}, {1, 2, 7, 8}, {1, 3}, {1, 3, 6, 7}, {3, 7}, {1, 7}, {3, 5, 6}, {0, 1, 3, 7}, {0, 1, 2, 4},
		{1, 2, 4, 0}, {1, 2, 4, 8}, {1, 2, 4, 15}, {1, 2, 3}, {1, 1, 2, 2}, make([]int, 60), make([]int, 100000), slices.Repeat([]int{1, 2, 4}, 21)} {
		wantFailure(t, chapter3.named("SpaceOfPaths"), arguments{number: 3, list: paths})
	}
	for _, s := range pathSamples() {
		for _, number := range append(farNumbers(), 0, 1<<s.Items, 1<<s.Items+1) {
			paths := allPathsIn(s)
			wantFailure(t, chapter3.named("SpaceOfPaths"), arguments{number: s.Items, list: append(paths, number)})
			wantFailure(t, chapter3.named("SpaceOfPaths"), arguments{number: s.Items, list: append([]int{number}, paths...)})
		}
	}
}

// invalidClauses returns lists that are no clauses of n items.
func invalidClauses(n int) [][]int {
	invalid := [][]int{nil, {}, {0}, {0, 0, 0}, make([]int, 100000), {n, 0}, {7, 0}, {8, 0}, {63, 0}, {64, 0}, {0, 1 << n}, {0, 1<<n + 1}}
	for _, number := range farNumbers() {
		invalid = append(invalid, []int{number, 0}, []int{0, number}, []int{number, number})
	}
	for item := range n {
		invalid = append(invalid, []int{item, 1 << item}, []int{item, 1<<n - 1})
	}
	return invalid
}

func TestInvalidClausesFail(t *testing.T) {
	f := chapter3.named("SpaceOfClauses")
	for _, s := range pathSamples() {
		clauses := clausesIn(s)
		wantSuccess(t, f, arguments{number: s.Items, rows: clauses})
		for _, invalid := range invalidClauses(s.Items) {
			wantFailure(t, f, arguments{number: s.Items, rows: append(clauses[:len(clauses):len(clauses)], invalid)})
			wantFailure(t, f, arguments{number: s.Items, rows: append([][]int{invalid}, clauses...)})
		}
	}
	for _, clauses := range [][][]int{nil, {}, {nil}, slices.Repeat([][]int{{0, 0}}, 61), slices.Repeat([][]int{{0, 0}}, 100000)} {
		wantFailure(t, f, arguments{number: 1, rows: clauses})
	}
	wantSuccess(t, f, arguments{number: 1, rows: slices.Repeat([][]int{{0, 0}}, 60)})
}

// validPathCalls returns arguments with which each function of chapter 3 succeeds, and some with which it fails.
func validPathCalls() []arguments {
	s, many := chapter3Example, manyClauses()
	return []arguments{
		{space: s, number: 5, item: 1, list: []int{1, 2, 5, 6}, rows: [][]int{{0, 0}, {1, 0}, {2, 1}, {2, 2}}},
		{space: s, number: 3, item: 2, list: []int{6, 5, 2, 1}, rows: [][]int{{2, 2}, {2, 1}, {1, 0}, {0, 0}, {0, 0}}},
		{space: s, number: 0, item: 0},
		{space: s, number: 7, item: 2, list: allPathsIn(many), rows: clausesIn(many)},
		{space: many, number: 7, item: 6, list: allPathsIn(many), rows: clausesIn(many)},
		{space: freeOf(7), number: 7, item: 6, list: []int{1, 2, 4, 8, 16, 32, 64}, rows: clausesIn(freeOf(7))},
		{space: lineOf(7), number: 1, item: 1, list: []int{1}, rows: [][]int{{0, 0}}},
		{space: freeOf(1), number: 1, item: 0, list: []int{1, 1}, rows: [][]int{{0, 0}, {0, 0}}},
		{space: freeOf(3), number: 4, item: 3, list: []int{1, 3, 7, 15}, rows: [][]int{{3, 7}, {2, 3}, {1, 1}, {0, 0}}},
		{space: impl.Space{Items: 2, Sets: []int{3, 1, 0}}, number: 2, item: 1, list: []int{3, 1, 2}, rows: [][]int{{1, 0}, {0}}},
		{space: lineOf(5), number: 3, item: -1, list: []int{1, 2, 4, -1}, rows: [][]int{{0, 0}, {1, 2}, {2, 0}}},
	}
}

func TestPathArgumentsAreKept(t *testing.T) {
	for _, a := range validPathCalls() {
		chapter3.wantCalls(t, a)
	}
}

func TestValidPathCallsSucceed(t *testing.T) {
	chapter3.wantSuccesses(t, validPathCalls())
}

func TestPathResultsAreNewMemory(t *testing.T) {
	chapter3.wantNewMemory(t, validPathCalls())
}

// What is behind the length of a list does not belong to it.
func TestSpareCapacityIsNoPath(t *testing.T) {
	paths, clauses := []int{1, 2, 4, 7}, [][]int{{0, 0}, {1, 0}, {2, 1}, {2, 2}}
	wantFailure(t, chapter3.named("PathsOf"), arguments{space: impl.Space{Items: 3, Sets: freeOf(3).Sets[:7]}})
	wantFailure(t, chapter3.named("SpaceOfPaths"), arguments{number: 3, list: paths[:2]})
	wantFailure(t, chapter3.named("SpaceOfClauses"), arguments{number: 3, rows: clauses[:2]})
	wantFailure(t, chapter3.named("SpaceOfClauses"), arguments{number: 1, rows: [][]int{clauses[0][:1]}})
	made, ok := impl.SpaceOfPaths(2, paths[:2])
	wantSpace(t, "SpaceOfPaths", made, ok, freeOf(2), true)
	made, ok = impl.SpaceOfClauses(3, clauses[:3])
	wantSpace(t, "SpaceOfClauses", made, ok, impl.Space{Items: 3, Sets: []int{0, 1, 2, 3, 5, 7}}, true)
}

// nearPaths returns the paths of a space, or a list like it.
func (c *chance) nearPaths(s impl.Space) []int {
	if !isDefined(s) || c.below(5) == 0 {
		return c.anyList()
	}
	paths := allPathsIn(s)
	for range c.below(3) {
		paths[c.below(len(paths))] = c.below(1 << s.Items)
	}
	if c.below(6) == 0 {
		paths = append(paths, c.anyNumber())
	}
	if c.below(10) == 0 {
		paths = slices.Repeat(paths, 1+c.below(40))
	}
	return paths
}

// nearClauses returns the clauses of a space, or a list like it.
func (c *chance) nearClauses(s impl.Space) [][]int {
	if !isDefined(s) || c.below(5) == 0 {
		return c.anyRows()
	}
	clauses := clausesIn(s)
	for range c.below(4) {
		clauses[c.below(len(clauses))][c.below(2)] = c.below(1 << c.below(1+s.Items))
	}
	if c.below(6) == 0 {
		clauses = append(clauses, []int{c.anyNumber(), c.anyNumber()})
	}
	if c.below(10) == 0 {
		clauses = slices.Repeat(clauses, 1+c.below(40))
	}
	return clauses
}

func TestAnyArgumentsOfPaths(t *testing.T) {
	c := chance(37)
	for range 3000 {
		a := arguments{space: c.anySpace(), number: c.anyNumber(), item: c.anyNumber()}
		a.list, a.rows = c.nearPaths(a.space), c.nearClauses(a.space)
		chapter3.wantCalls(t, a)
		if isDefined(a.space) {
			a.number, a.item = a.space.Sets[c.below(len(a.space.Sets))], c.below(a.space.Items)
			chapter3.wantCalls(t, a)
			a.number = a.space.Items
			chapter3.wantCalls(t, a)
		}
		for _, f := range chapter3.withoutSpace {
			value, ok := f.call(a)
			if s, is := value.(impl.Space); ok && (!is || !isDefined(s)) {
				t.Error(fmt.Sprint(f.name, " makes no space: ", value))
			}
		}
	}
}
