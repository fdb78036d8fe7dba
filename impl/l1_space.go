package impl

import (
	"math/bits"
	"strconv"
	"strings"
)

const MaxItems = 7

// maxGiven is the greatest number of sets, or of pairs, of which a space is made.
const maxGiven = 40

type Space struct {
	Items int
	Sets  []int
}

// itemSet is a set of items, told as the sum of 2^i over its items i.
type itemSet int

func single(item int) itemSet { return 1 << item }

// below returns the set of the items 0, 1, .., item - 1.
func below(item int) itemSet { return single(item) - 1 }

func (a itemSet) has(item int) bool        { return a&single(item) != 0 }
func (a itemSet) with(item int) itemSet    { return a | single(item) }
func (a itemSet) without(item int) itemSet { return a &^ single(item) }
func (a itemSet) within(b itemSet) bool    { return a&^b == 0 }
func (a itemSet) size() int                { return bits.OnesCount(uint(a)) }

// renumbered returns the items that a has in common with kept, each with its number among those of kept.
func (a itemSet) renumbered(kept itemSet) itemSet {
	return sumOf(MaxItems, func(item int) itemSet {
		if !(a & kept).has(item) {
			return 0
		}
		return single((kept & below(item)).size())
	})
}

// sumOf returns the union of what part makes of 0, 1, .., limit - 1: of items (int) or of sets (itemSet).
func sumOf[T ~int](limit T, part func(T) itemSet) itemSet {
	var sum itemSet
	for value := range limit {
		sum |= part(value)
	}
	return sum
}

// itemsWhere returns the set of those of n items that keep accepts.
func itemsWhere(n int, keep func(int) bool) itemSet {
	return sumOf(n, func(item int) itemSet {
		if keep(item) {
			return single(item)
		}
		return 0
	})
}

// family is a family of sets of items. It has a mark for each set that there may be, so that sets are found at once,
// come in increasing order, and cannot be listed twice.
type family struct {
	items int
	has   [1 << MaxItems]bool
}

func (f family) full() itemSet { return below(f.items) }

// familyOf returns the family of a space; it fails if s is none.
func familyOf(s Space) (family, bool) {
	if !isItemCount(s.Items) {
		return family{}, false
	}
	f := family{items: s.Items}
	last := -1
	for _, set := range s.Sets {
		if set <= last || !f.isSet(set) {
			return family{}, false
		}
		f.has[set] = true
		last = set
	}
	if !f.isSpace() {
		return family{}, false
	}
	return f, true
}

// familyAndSet returns the family of a space and a set of its items. If it fails, it returns a family of no items and
// the set of none, for which all that is asked is zero.
func familyAndSet(s Space, set int) (family, itemSet, bool) {
	f, ok := familyOf(s)
	if !ok || !f.isSet(set) {
		return family{}, 0, false
	}
	return f, itemSet(set), true
}

// familyAndOwnSet is familyAndSet for one of the Sets.
func familyAndOwnSet(s Space, set int) (family, itemSet, bool) {
	f, own, ok := familyAndSet(s, set)
	if !ok || !f.has[own] {
		return family{}, 0, false
	}
	return f, own, true
}

// familiesOf returns the families of two spaces.
func familiesOf(a Space, b Space) (family, family, bool) {
	f, okA := familyOf(a)
	g, okB := familyOf(b)
	if !okA || !okB {
		return family{}, family{}, false
	}
	return f, g, true
}

// familyWhere returns the family of those sets of n items that keep accepts.
func familyWhere(n int, keep func(itemSet) bool) family {
	f := family{items: n}
	for set := range f.full() + 1 {
		f.has[set] = keep(set)
	}
	return f
}

// reachedBy returns the family of all sets that are reached from that of no items by one item at a time, one of those
// that next tells for the set.
func reachedBy(n int, next func(itemSet) itemSet) family {
	f := family{items: n}
	f.has[0] = true
	// A set with one item more has a greater number, so that each set is there before it is looked at.
	for set := range f.full() + 1 {
		if !f.has[set] {
			continue
		}
		for _, item := range next(set).items() {
			f.has[set.with(item)] = true
		}
	}
	return f
}

// unionsOf returns the family of all unions of sets, that of none of them counted.
func unionsOf(n int, sets []int) family {
	f := family{items: n}
	f.has[0] = true
	for _, set := range sets {
		for old, there := range f.has {
			if there {
				f.has[old|set] = true
			}
		}
	}
	return f
}

func (f family) isSet(set int) bool {
	return 0 <= set && set <= int(f.full())
}

func (f family) isSpace() bool {
	return f.has[0] && f.has[f.full()] && f.isGraded() && f.isClosed()
}

// isGraded reports whether each of the sets with items has one without which it is one of the sets.
func (f family) isGraded() bool {
	for set, there := range f.has {
		if there && set != 0 && f.innerFringe(itemSet(set)) == 0 {
			return false
		}
	}
	return true
}

func (f family) isClosed() bool {
	return f == unionsOf(f.items, f.sets())
}

// sets returns the sets of the family, increasing.
func (f family) sets() []int {
	var sets []int
	for set, there := range f.has {
		if there {
			sets = append(sets, set)
		}
	}
	return sets
}

func (f family) space() Space {
	return Space{Items: f.items, Sets: f.sets()}
}

// image returns the family of what change makes of each of the sets, which are sets of n items then.
func (f family) image(n int, change func(itemSet) itemSet) family {
	made := family{items: n}
	for set, there := range f.has {
		if there {
			made.has[change(itemSet(set))] = true
		}
	}
	return made
}

// trace returns the family of what kept has in common with the sets, its items numbered anew.
func (f family) trace(kept itemSet) family {
	return f.image(kept.size(), func(set itemSet) itemSet {
		return set.renumbered(kept)
	})
}

// renamed returns the family with the item names[i] for each i.
func (f family) renamed(names []int) family {
	return f.image(f.items, func(set itemSet) itemSet {
		return sumOf(f.items, func(item int) itemSet {
			if !set.has(item) {
				return 0
			}
			return single(names[item])
		})
	})
}

// fringe returns the items with which a step leads from a set to another one of the family.
func (f family) fringe(set itemSet, step func(itemSet, int) itemSet) itemSet {
	return itemsWhere(f.items, func(item int) bool {
		next := step(set, item)
		return next != set && f.has[next]
	})
}

func (f family) outerFringe(set itemSet) itemSet { return f.fringe(set, itemSet.with) }
func (f family) innerFringe(set itemSet) itemSet { return f.fringe(set, itemSet.without) }

func (f family) greatestWithin(limit itemSet) itemSet {
	return sumOf(f.full()+1, func(set itemSet) itemSet {
		if f.has[set] && set.within(limit) {
			return set
		}
		return 0
	})
}

func (f family) leastAbove(set itemSet) itemSet {
	best := f.full()
	for number, there := range f.has {
		above := itemSet(number)
		if there && set.within(above) && above.size() < best.size() {
			best = above
		}
	}
	return best
}

func (f family) hull(set itemSet) itemSet {
	return f.full() &^ f.greatestWithin(f.full()&^set)
}

func (f family) extreme(set itemSet) itemSet {
	return itemsWhere(f.items, func(item int) bool {
		return set.has(item) && !f.hull(set.without(item)).has(item)
	})
}

func isItemCount(n int) bool { return 1 <= n && n <= MaxItems }

func isItem(item int, n int) bool { return 0 <= item && item < n }

// isOrder reports whether a list has each of 0..n - 1 once, for n up to MaxItems.
func isOrder(list []int, n int) bool {
	if len(list) != n {
		return false
	}
	var seen itemSet
	for _, item := range list {
		if !isItem(item, n) || seen.has(item) {
			return false
		}
		seen = seen.with(item)
	}
	return true
}

// arePairs reports whether lists are at most maxGiven pairs of different ones of n items.
func arePairs(pairs [][]int, n int) bool {
	if len(pairs) > maxGiven {
		return false
	}
	for _, pair := range pairs {
		if len(pair) != 2 || !isItem(pair[0], n) || !isItem(pair[1], n) || pair[0] == pair[1] {
			return false
		}
	}
	return true
}

// keepsPairs reports whether a set has with the second item of each pair the first one.
func keepsPairs(set itemSet, pairs [][]int) bool {
	for _, pair := range pairs {
		if set.has(pair[1]) && !set.has(pair[0]) {
			return false
		}
	}
	return true
}

// plainNumber returns the number, at least 0, with a decimal text without superfluous zeros.
func plainNumber(text string) (int, bool) {
	number, err := strconv.Atoi(text)
	if err != nil || number < 0 || strconv.Itoa(number) != text {
		return 0, false
	}
	return number, true
}

// withCommas returns numbers in decimal with , between them.
func withCommas(numbers []int) string {
	var texts []string
	for _, number := range numbers {
		texts = append(texts, strconv.Itoa(number))
	}
	return strings.Join(texts, ",")
}

// IsSpace reports whether s is a space.
func IsSpace(s Space) bool {
	_, ok := familyOf(s)
	return ok
}

// HasSet reports whether a set is one of the Sets.
func HasSet(s Space, set int) (bool, bool) {
	f, a, ok := familyAndSet(s, set)
	return ok && f.has[a], ok
}

// OuterFringe returns the outer fringe of one of the Sets.
func OuterFringe(s Space, set int) (int, bool) {
	f, own, ok := familyAndOwnSet(s, set)
	return int(f.outerFringe(own)), ok
}

// InnerFringe returns the inner fringe of one of the Sets.
func InnerFringe(s Space, set int) (int, bool) {
	f, own, ok := familyAndOwnSet(s, set)
	return int(f.innerFringe(own)), ok
}

// LeastAbove returns the first one, by its number, of the Sets with the fewest items that have all items of a set.
func LeastAbove(s Space, set int) (int, bool) {
	f, a, ok := familyAndSet(s, set)
	return int(f.leastAbove(a)), ok
}

// GreatestWithin returns the union of all of the Sets that have no items but those of a set: it is one of them.
func GreatestWithin(s Space, set int) (int, bool) {
	f, a, ok := familyAndSet(s, set)
	return int(f.greatestWithin(a)), ok
}

// IsConvex reports whether a set is convex: the set of all items that are not in one of the Sets.
func IsConvex(s Space, set int) (bool, bool) {
	f, a, ok := familyAndSet(s, set)
	return ok && f.has[f.full()&^a], ok
}

// HullOf returns the hull of a set: the least convex set that has its items.
func HullOf(s Space, set int) (int, bool) {
	f, a, ok := familyAndSet(s, set)
	return int(f.hull(a)), ok
}

// ExtremeOf returns all extreme items of a set: those that are not in the hull of its others.
func ExtremeOf(s Space, set int) (int, bool) {
	f, a, ok := familyAndSet(s, set)
	return int(f.extreme(a)), ok
}

// SpaceWith returns the least space of n items that has the given sets, at most 40 of them.
// It fails if one of them has items, but none without which it is another one of them or the set of no items;
// and if they do not have all items together.
func SpaceWith(n int, sets []int) (Space, bool) {
	if !isItemCount(n) || len(sets) > maxGiven {
		return Space{}, false
	}
	given := family{items: n}
	given.has[0] = true
	for _, set := range sets {
		if !given.isSet(set) {
			return Space{}, false
		}
		given.has[set] = true
	}
	if !given.isGraded() || given.greatestWithin(given.full()) != given.full() {
		return Space{}, false
	}
	return unionsOf(n, sets).space(), true
}

// FreeSpace returns the space of all sets of n items.
func FreeSpace(n int) (Space, bool) {
	return OrderSpace(n, nil)
}

// ChainSpace returns the space of 0, and of the first 1, 2, .. items of an order, a list that has each of 0..n - 1 once.
func ChainSpace(order []int) (Space, bool) {
	if !isItemCount(len(order)) || !isOrder(order, len(order)) {
		return Space{}, false
	}
	chain := family{items: len(order)}
	var first itemSet
	chain.has[first] = true
	for _, item := range order {
		first = first.with(item)
		chain.has[first] = true
	}
	return chain.space(), true
}

// OrderSpace returns the space of all sets that have with the second item of each of the pairs the first one,
// at most 40 pairs of different items. It fails if that is no space.
func OrderSpace(n int, pairs [][]int) (Space, bool) {
	if !isItemCount(n) || !arePairs(pairs, n) {
		return Space{}, false
	}
	f := familyWhere(n, func(set itemSet) bool { return keepsPairs(set, pairs) })
	if !f.isSpace() {
		return Space{}, false
	}
	return f.space(), true
}

// LineSpace returns the space of all sets outside of a stretch: those of all items but i, i + 1, .., j - 1,
// for all i <= j in 0..n.
func LineSpace(n int) (Space, bool) {
	if !isItemCount(n) {
		return Space{}, false
	}
	line := family{items: n}
	for j := range n + 1 {
		for i := range j + 1 {
			stretch := below(j) &^ below(i)
			line.has[line.full()&^stretch] = true
		}
	}
	return line.space(), true
}

// UnionSpaces returns the least space that has the Sets of both, which have as many items.
func UnionSpaces(a Space, b Space) (Space, bool) {
	f, g, ok := familiesOf(a, b)
	if !ok || f.items != g.items {
		return Space{}, false
	}
	return unionsOf(f.items, append(f.sets(), g.sets()...)).space(), true
}

// RestrictTo returns the space of what one of the Sets with items has in common with all of the Sets;
// items are numbered anew in their order.
func RestrictTo(s Space, set int) (Space, bool) {
	f, own, ok := familyAndOwnSet(s, set)
	if !ok || own == 0 {
		return Space{}, false
	}
	return f.trace(own).space(), true
}

// BehindSet returns the space of all items that are not in one of the Sets, which is not that of all items:
// of what is more in those of the Sets that have all of its items; items are numbered anew in their order.
func BehindSet(s Space, set int) (Space, bool) {
	f, own, ok := familyAndOwnSet(s, set)
	if !ok || own == f.full() {
		return Space{}, false
	}
	// The union of any of the Sets with this one is one of the Sets that have all its items, and has the same others.
	return f.trace(f.full() &^ own).space(), true
}

// RenameItems returns the space with the item names[i] for each i; names has each of 0..n - 1 once.
func RenameItems(s Space, names []int) (Space, bool) {
	f, ok := familyOf(s)
	if !ok || !isOrder(names, f.items) {
		return Space{}, false
	}
	return f.renamed(names).space(), true
}

// SpaceText returns the Items, a : and all Sets in decimal with , between them.
func SpaceText(s Space) (string, bool) {
	f, ok := familyOf(s)
	if !ok {
		return "", false
	}
	return strconv.Itoa(f.items) + ":" + withCommas(f.sets()), true
}

// ParseSpace returns the space with a SpaceText. It fails if there is none.
func ParseSpace(s string) (Space, bool) {
	itemsText, setsText, _ := strings.Cut(s, ":")
	items, ok := plainNumber(itemsText)
	if !ok {
		return Space{}, false
	}
	parsed := Space{Items: items}
	for _, text := range strings.Split(setsText, ",") {
		set, ok := plainNumber(text)
		if !ok {
			return Space{}, false
		}
		parsed.Sets = append(parsed.Sets, set)
	}
	if !IsSpace(parsed) {
		return Space{}, false
	}
	return parsed, true
}
