package impl

import "slices"

// leftBy returns the family of those of the sets that answers leave: they have all items of yes and none of no.
func (f family) leftBy(yes itemSet, no itemSet) family {
	return familyWhere(f.items, func(set itemSet) bool { return f.has[set] && yes.within(set) && set&no == 0 })
}

// parted returns the families that are left if an item is known, and if it is not.
func (f family) parted(item int) (family, family) {
	return f.leftBy(single(item), 0), f.leftBy(0, single(item))
}

func (f family) areAnswers(yes int, no int) bool {
	return f.isSet(yes) && f.isSet(no) && yes&no == 0
}

// familyLeft returns the family of those Sets of a space that answers leave. If there is none, it fails and returns a
// family of no items and no sets, for which all that is asked is zero.
func familyLeft(s Space, yes int, no int) (family, bool) {
	f, ok := familyOf(s)
	if !ok || !f.areAnswers(yes, no) {
		return family{}, false
	}
	left := f.leftBy(itemSet(yes), itemSet(no))
	if left.count() == 0 {
		return family{}, false
	}
	return left, true
}

// familyToAsk is familyLeft for answers that leave more than one set.
func familyToAsk(s Space, yes int, no int) (family, bool) {
	left, ok := familyLeft(s, yes, no)
	if !ok || left.open() == 0 {
		return family{}, false
	}
	return left, true
}

func (f family) count() int { return len(f.sets()) }

// known returns the items that all of the sets have, and those that none of them has.
func (f family) known() (itemSet, itemSet) {
	all, none := f.full(), f.full()
	for _, set := range f.sets() {
		all &= itemSet(set)
		none &^= itemSet(set)
	}
	return all, none
}

// open returns the items that some, but not all of the sets have. There is none just if there is no second set.
func (f family) open() itemSet {
	all, none := f.known()
	return f.full() &^ (all | none)
}

// strategy asks as long as more than one set is left.
type strategy struct {
	// question returns the item that is asked for: one that is open.
	question func(left family) int
}

// run returns the items that are asked for, in order, if one of the sets is what the learner knows.
func (s strategy) run(left family, set itemSet) []int {
	var asked []int
	for left.open() != 0 {
		item := s.question(left)
		asked = append(asked, item)
		with, without := left.parted(item)
		if set.has(item) {
			left = with
		} else {
			left = without
		}
	}
	return asked
}

// worst returns the first one of the sets for which the run is longest, and how long it is.
func (s strategy) worst(sets family) (int, int) {
	first, longest := 0, 0
	for _, set := range sets.sets() {
		if length := len(s.run(sets, itemSet(set))); length > longest {
			first, longest = set, length
		}
	}
	return first, longest
}

// plan is the least item with which a strategy can begin that needs no more questions in the worst case than any, and how
// many it needs.
type plan struct {
	item, worst int
}

// plans keeps the plans for families that may be left, so that each of them is made once.
type plans map[family]plan

// planFor returns the plan for a family that has a set. If it has no second one, nothing is asked.
func (p plans) planFor(left family) plan {
	if made, ok := p[left]; ok {
		return made
	}
	open := left.open().items()
	if len(open) == 0 {
		return plan{}
	}
	var best plan
	// No strategy needs fewer questions than the first number that is tried here, and most often this is enough.
search:
	for worst := halvings(left.count()); ; worst++ {
		for _, item := range open {
			with, without := left.parted(item)
			if p.planFor(with).worst < worst && p.planFor(without).worst < worst {
				best = plan{item: item, worst: worst}
				break search
			}
		}
	}
	p[left] = best
	return best
}

// bestStrategy asks for the items of the plans. It keeps them as long as it is used.
func bestStrategy() strategy {
	made := plans{}
	return strategy{question: func(left family) int { return made.planFor(left).item }}
}

// halfStrategy asks for the item for which the numbers of sets that are left with it and without it differ least, of these
// the least item.
func halfStrategy() strategy {
	return strategy{question: func(left family) int {
		difference := func(item int) int {
			with, without := left.parted(item)
			return max(with.count(), without.count()) - min(with.count(), without.count())
		}
		// An item that is not open makes the greatest difference.
		return slices.MinFunc(left.open().items(), func(a, b int) int { return difference(a) - difference(b) })
	}}
}

// totals keeps, for families that may be left, the least sum, over all of their sets, of the numbers of questions of a
// strategy.
type totals map[family]int

// least returns the sum for a family. If it has no second set, nothing is asked.
func (t totals) least(left family) int {
	if sum, ok := t[left]; ok {
		return sum
	}
	least := 0
	for _, item := range left.open().items() {
		with, without := left.parted(item)
		// This first question is one more for each of the sets.
		sum := left.count() + t.least(with) + t.least(without)
		if least == 0 || sum < least {
			least = sum
		}
	}
	t[left] = least
	return least
}

// halvings returns the least number k for which 2^k is at least a count.
func halvings(count int) int {
	k := 0
	for 1<<k < count {
		k++
	}
	return k
}

// SetsLeft returns all Sets that are left, increasing.
func SetsLeft(s Space, yes int, no int) ([]int, bool) {
	left, ok := familyLeft(s, yes, no)
	return left.sets(), ok
}

// CountLeft returns how many are left.
func CountLeft(s Space, yes int, no int) (int, bool) {
	left, ok := familyLeft(s, yes, no)
	return left.count(), ok
}

// KnownOf returns the items that all Sets that are left have, and those that none of them has.
func KnownOf(s Space, yes int, no int) (int, int, bool) {
	left, ok := familyLeft(s, yes, no)
	all, none := left.known()
	return int(all), int(none), ok
}

// LeastWorst returns the least number of questions that are enough for each of the Sets that are left.
func LeastWorst(s Space, yes int, no int) (int, bool) {
	left, ok := familyLeft(s, yes, no)
	return plans{}.planFor(left).worst, ok
}

// BestQuestion returns the least item with which a strategy can begin that needs no more than LeastWorst. It fails if
// just one set is left.
func BestQuestion(s Space, yes int, no int) (int, bool) {
	left, ok := familyToAsk(s, yes, no)
	if !ok {
		return 0, false
	}
	return bestStrategy().question(left), true
}

// AskRun returns the items that are asked for, in order, always BestQuestion, beginning with no answers, if the learner
// knows the items of a set, one of the Sets.
func AskRun(s Space, set int) ([]int, bool) {
	f, own, ok := familyAndOwnSet(s, set)
	return bestStrategy().run(f, own), ok
}

// WorstSet returns the first one of the Sets for which AskRun is longest: as long as LeastWorst without answers.
func WorstSet(s Space) (int, bool) {
	f, ok := familyOf(s)
	first, _ := bestStrategy().worst(f)
	return first, ok
}

// LeastTotal returns the least sum, over all of the Sets, of the numbers of questions of a strategy.
func LeastTotal(s Space) (int, bool) {
	f, ok := familyOf(s)
	return totals{}.least(f), ok
}

// HalfQuestion returns the item for which the numbers of Sets that are left with it and without it differ least, of these
// the least item. It fails if just one set is left.
func HalfQuestion(s Space, yes int, no int) (int, bool) {
	left, ok := familyToAsk(s, yes, no)
	if !ok {
		return 0, false
	}
	return halfStrategy().question(left), true
}

// HalfRun returns what AskRun does, always with HalfQuestion.
func HalfRun(s Space, set int) ([]int, bool) {
	f, own, ok := familyAndOwnSet(s, set)
	return halfStrategy().run(f, own), ok
}

// HalfWorst returns the greatest length of a HalfRun.
func HalfWorst(s Space) (int, bool) {
	f, ok := familyOf(s)
	_, longest := halfStrategy().worst(f)
	return longest, ok
}

// HalvingBound returns the least number k for which 2^k is at least the number of the Sets: no strategy has a worst case
// with fewer questions.
func HalvingBound(s Space) (int, bool) {
	f, ok := familyOf(s)
	return halvings(f.count()), ok
}

// ProofOf returns the inner and the outer fringe of a set, one of the Sets: with the inner fringe as yes and the outer one
// as no, just this set is left; and all answers by which just this set is left have these items, too.
func ProofOf(s Space, set int) (int, int, bool) {
	f, own, ok := familyAndOwnSet(s, set)
	return int(f.innerFringe(own)), int(f.outerFringe(own)), ok
}

// IsProof reports whether just this set, one of the Sets, is left by answers, which may be any two sets of items without a
// common one: they need not leave any set.
func IsProof(s Space, set int, yes int, no int) (bool, bool) {
	f, own, ok := familyAndOwnSet(s, set)
	if !ok || !f.areAnswers(yes, no) {
		return false, false
	}
	return slices.Equal(f.leftBy(itemSet(yes), itemSet(no)).sets(), []int{int(own)}), true
}

// SetOfFringes returns the only one of the Sets with such fringes. It fails if there is none.
func SetOfFringes(s Space, inner int, outer int) (int, bool) {
	// If s is no space, there are no sets to look at.
	f, _ := familyOf(s)
	for _, set := range f.sets() {
		if int(f.innerFringe(itemSet(set))) == inner && int(f.outerFringe(itemSet(set))) == outer {
			return set, true
		}
	}
	return 0, false
}

// LongestProof returns the greatest number of items that both fringes of one of the Sets have together.
func LongestProof(s Space) (int, bool) {
	f, ok := familyOf(s)
	longest := 0
	for _, set := range f.sets() {
		proof := f.innerFringe(itemSet(set)) | f.outerFringe(itemSet(set))
		longest = max(longest, proof.size())
	}
	return longest, ok
}
