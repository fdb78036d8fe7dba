package impl

// SetsLeft returns all Sets that are left, increasing.
func SetsLeft(s Space, yes int, no int) ([]int, bool) { return nil, false }

// CountLeft returns how many are left.
func CountLeft(s Space, yes int, no int) (int, bool) { return 0, false }

// KnownOf returns the items that all Sets that are left have, and those that none of them has.
func KnownOf(s Space, yes int, no int) (int, int, bool) { return 0, 0, false }

// LeastWorst returns the least number of questions that are enough for each of the Sets that are left.
func LeastWorst(s Space, yes int, no int) (int, bool) { return 0, false }

// BestQuestion returns the least item with which a strategy can begin that needs no more than LeastWorst.
func BestQuestion(s Space, yes int, no int) (int, bool) { return 0, false }

// AskRun returns the items that are asked for, in order, always BestQuestion, beginning with no answers, if the learner knows the items of a set.
func AskRun(s Space, set int) ([]int, bool) { return nil, false }

// WorstSet returns the first one of the Sets for which AskRun is longest:
func WorstSet(s Space) (int, bool) { return 0, false }

// LeastTotal returns the least sum, over all of the Sets, of the numbers of questions of a strategy.
func LeastTotal(s Space) (int, bool) { return 0, false }

// HalfQuestion returns the item for which the numbers of Sets that are left with it and without it differ least, of these the least item.
func HalfQuestion(s Space, yes int, no int) (int, bool) { return 0, false }

// HalfRun returns what AskRun does, always with HalfQuestion.
func HalfRun(s Space, set int) ([]int, bool) { return nil, false }

// HalfWorst returns the greatest length of a HalfRun.
func HalfWorst(s Space) (int, bool) { return 0, false }

// HalvingBound returns the least number k for which 2^k is at least the number of the Sets:
func HalvingBound(s Space) (int, bool) { return 0, false }

// ProofOf returns the inner and the outer fringe of a set:
func ProofOf(s Space, set int) (int, int, bool) { return 0, 0, false }

// IsProof reports whether just this set is left by answers that may be any, without a common item.
func IsProof(s Space, set int, yes int, no int) (bool, bool) { return false, false }

// SetOfFringes returns the only one of the Sets with such fringes.
func SetOfFringes(s Space, inner int, outer int) (int, bool) { return 0, false }

// LongestProof returns the greatest number of items that both fringes of one of the Sets have together.
func LongestProof(s Space) (int, bool) { return 0, false }
