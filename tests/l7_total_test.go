package tests

import (
	"slices"
	"testing"

	"loop.example/g01137/impl"
)

// areAnswers reports whether yes and no are sets of items of the space without a common one.
func areAnswers(a arguments) bool {
	return isBelow(a.yes, 1<<a.space.Items) && isBelow(a.no, 1<<a.space.Items) && a.yes&a.no == 0
}

func isOneLeft(a arguments) bool   { return areAnswers(a) && len(leftIn(a.space, a.yes, a.no)) > 0 }
func areMoreLeft(a arguments) bool { return areAnswers(a) && len(leftIn(a.space, a.yes, a.no)) > 1 }

func areFringes(a arguments) bool {
	_, ok := setsByFringes(a.space)[[2]int{a.yes, a.no}]
	return ok
}

// pair makes one value of two numbers.
func pair(first int, second int, ok bool) (any, bool) { return [2]int{first, second}, ok }

// Sets are told by the number of an argument, inner and outer fringes as yes and no.
var chapter7 = chapter{inSpaces: []demanding{
	{function{"SetsLeft", func(a arguments) (any, bool) { return result(impl.SetsLeft(a.space, a.yes, a.no)) }}, isOneLeft},
	{function{"CountLeft", func(a arguments) (any, bool) { return result(impl.CountLeft(a.space, a.yes, a.no)) }}, isOneLeft},
	{function{"KnownOf", func(a arguments) (any, bool) { return pair(impl.KnownOf(a.space, a.yes, a.no)) }}, isOneLeft},
	{function{"LeastWorst", func(a arguments) (any, bool) { return result(impl.LeastWorst(a.space, a.yes, a.no)) }}, isOneLeft},
	{function{"BestQuestion", func(a arguments) (any, bool) { return result(impl.BestQuestion(a.space, a.yes, a.no)) }}, areMoreLeft},
	{function{"AskRun", func(a arguments) (any, bool) { return result(impl.AskRun(a.space, a.number)) }}, isOwnSet},
	{function{"WorstSet", func(a arguments) (any, bool) { return result(impl.WorstSet(a.space)) }}, always},
	{function{"LeastTotal", func(a arguments) (any, bool) { return result(impl.LeastTotal(a.space)) }}, always},
	{function{"HalfQuestion", func(a arguments) (any, bool) { return result(impl.HalfQuestion(a.space, a.yes, a.no)) }}, areMoreLeft},
	{function{"HalfRun", func(a arguments) (any, bool) { return result(impl.HalfRun(a.space, a.number)) }}, isOwnSet},
	{function{"HalfWorst", func(a arguments) (any, bool) { return result(impl.HalfWorst(a.space)) }}, always},
	{function{"HalvingBound", func(a arguments) (any, bool) { return result(impl.HalvingBound(a.space)) }}, always},
	{function{"ProofOf", func(a arguments) (any, bool) { return pair(impl.ProofOf(a.space, a.number)) }}, isOwnSet},
	{function{"IsProof", func(a arguments) (any, bool) { return result(impl.IsProof(a.space, a.number, a.yes, a.no)) }},
		func(a arguments) bool { return isOwnSet(a) && areAnswers(a) }},
	{function{"SetOfFringes", func(a arguments) (any, bool) { return result(impl.SetOfFringes(a.space, a.yes, a.no)) }}, areFringes},
	{function{"LongestProof", func(a arguments) (any, bool) { return result(impl.LongestProof(a.space)) }}, always},
}}

var (
	// byAnswers are the functions that take answers.
	byAnswers = []string{"SetsLeft", "CountLeft", "KnownOf", "LeastWorst", "BestQuestion", "HalfQuestion", "IsProof"}
	// toFind are the functions that take one of the Sets.
	toFind = []string{"AskRun", "HalfRun", "ProofOf", "IsProof"}
)

func TestQuestionsInInvalidSpacesFail(t *testing.T) {
	for _, s := range invalidSpaces() {
		for set := -1; set <= 8; set++ {
			for _, a := range [][2]int{{0, 0}, {1, 0}, {0, 1}, {0, 2}, {1, 2}, {2, 4}, {set, 0}, {0, set}, {set, 7 &^ set}, {0, 127}, {-1, 0}} {
				chapter7.wantCalls(t, arguments{space: s, number: set, yes: a[0], no: a[1]})
			}
		}
	}
}

func TestAnswersThatAreNoneFail(t *testing.T) {
	for _, s := range askSamples() {
		full := fullOf(s.Items)
		for _, number := range append(farNumbers(), full+1, full+2, 2*full+1, 2*full+2) {
			for _, a := range [][2]int{{number, 0}, {0, number}, {number, full}, {full, number}, {number, 1}, {1, number}, {number, number}} {
				wantFailures(t, chapter7, byAnswers, arguments{space: s, yes: a[0], no: a[1]})
				wantFailure(t, chapter7.named("SetOfFringes"), arguments{space: s, yes: a[0], no: a[1]})
			}
		}
		for item := range s.Items {
			for _, a := range [][2]int{{1 << item, 1 << item}, {full, 1 << item}, {1 << item, full}, {full, full}} {
				wantFailures(t, chapter7, byAnswers, arguments{space: s, yes: a[0], no: a[1]})
				wantFailures(t, chapter7, byAnswers, arguments{space: s, number: full, yes: a[0], no: a[1]})
			}
		}
	}
}

// Answers by which no set is left prove none, but may be asked about; one set that is left leaves no question.
func TestAnswersThatLeaveNoneOrOne(t *testing.T) {
	c := chance(81)
	for _, s := range askSamples() {
		for _, answers := range some(&c, allAnswers(s.Items), 40) {
			a := arguments{space: s, number: s.Sets[c.below(len(s.Sets))], yes: answers[0], no: answers[1]}
			left := len(leftIn(s, a.yes, a.no))
			if left == 0 {
				wantFailures(t, chapter7, byAnswers[:6], a)
			}
			if left == 1 {
				wantFailures(t, chapter7, []string{"BestQuestion", "HalfQuestion"}, a)
				wantSuccess(t, chapter7.named("LeastWorst"), a)
			}
			if left > 1 {
				wantSuccess(t, chapter7.named("BestQuestion"), a)
				wantSuccess(t, chapter7.named("HalfQuestion"), a)
			}
			wantSuccess(t, chapter7.named("IsProof"), a)
		}
	}
}

func TestSetsToFindThatAreNoneFail(t *testing.T) {
	for _, s := range askSamples() {
		for _, number := range append(farNumbers(), 1<<s.Items, 1<<s.Items+1) {
			wantFailures(t, chapter7, toFind, arguments{space: s, number: number})
			wantFailures(t, chapter7, toFind, arguments{space: s, number: number, yes: fullOf(s.Items)})
		}
		for set := range 1 << s.Items {
			if !slices.Contains(s.Sets, set) {
				wantFailures(t, chapter7, toFind, arguments{space: s, number: set, yes: set, no: fullOf(s.Items) - set})
			}
		}
	}
}

// validQuestionCalls returns arguments with which each function of chapter 7 succeeds, and some with which it fails.
func validQuestionCalls() []arguments {
	return []arguments{
		{space: chapter3Example, number: 5, yes: 4, no: 2},
		{space: chapter3Example, number: 6, yes: 4, no: 1},
		{space: chapter3Example, number: 4, yes: 4, no: 3},
		{space: chapter3Example, number: 0, yes: 0, no: 3},
		{space: turning, number: 15, yes: 1, no: 6},
		{space: halfIsWorse, number: 31, yes: 2, no: 0},
		{space: worstIsMore, number: 0, yes: 0, no: 8},
		{space: farFromHalving, number: 63, yes: 32, no: 2},
		{space: manyClauses(), number: 127, yes: 0, no: 0},
		{space: freeOf(7), number: 85, yes: 85, no: 42},
		{space: freeOf(7), number: 0, yes: 64, no: 1},
		{space: lineOf(7), number: 65, yes: 8, no: 4},
		{space: with201, number: 127, yes: 3, no: 127},
		{space: freeOf(1), number: 1, yes: 0, no: 0},
		{space: freeOf(1), number: 0, yes: 1, no: 0},
		{space: impl.Space{Items: 2, Sets: []int{0, 1, 3}}, number: 2, yes: 2, no: 1},
		{space: impl.Space{Items: 2, Sets: []int{3, 1, 0}}, number: 0, yes: 0, no: 0},
		{},
	}
}

func TestQuestionArgumentsAreKept(t *testing.T) {
	for _, a := range validQuestionCalls() {
		chapter7.wantCalls(t, a)
	}
}

func TestValidQuestionCallsSucceed(t *testing.T) {
	chapter7.wantSuccesses(t, validQuestionCalls())
}

func TestQuestionResultsAreNewMemory(t *testing.T) {
	calls := validQuestionCalls()
	for _, s := range askSamples() {
		calls = append(calls, arguments{space: s, number: s.Sets[1], yes: 0, no: 0})
	}
	chapter7.wantNewMemory(t, calls)
}

// What is behind the length of a list does not belong to it.
func TestSpareCapacityIsNoSetToFind(t *testing.T) {
	sets := freeOf(3).Sets
	wantFailures(t, chapter7, []string{"SetsLeft", "AskRun", "LeastTotal", "HalvingBound"}, arguments{space: impl.Space{Items: 3, Sets: sets[:7]}})
	s := impl.Space{Items: 2, Sets: sets[:4]}
	left, ok := impl.SetsLeft(s, 0, 0)
	wantWord(t, "SetsLeft", left, ok, []int{0, 1, 2, 3}, true)
	run, ok := impl.AskRun(s, 3)
	wantWord(t, "AskRun", run, ok, []int{0, 1}, true)
	bound, ok := impl.HalvingBound(s)
	wantCount(t, "HalvingBound", bound, ok, 2)
}

func TestAnyArgumentsOfQuestions(t *testing.T) {
	c := chance(82)
	for range 1500 {
		a := arguments{space: c.anySpace(), number: c.anyNumber(), yes: c.anyNumber(), no: c.anyNumber()}
		chapter7.wantCalls(t, a)
		a.yes, a.no = c.below(8), c.below(8)
		chapter7.wantCalls(t, a)
		if isDefined(a.space) {
			a.number = a.space.Sets[c.below(len(a.space.Sets))]
			answers := allAnswers(a.space.Items)
			few := answers[c.below(len(answers))]
			a.yes, a.no = few[0]&c.below(128), few[1]&c.below(128)
			chapter7.wantCalls(t, a)
			a.yes, a.no = fringesIn(a.space, a.number)
			chapter7.wantCalls(t, a)
		}
	}
}
