package tests

import "testing"

// The tests are worth what their own list of spaces is: the document counts them.
func TestListsOfSpaces(t *testing.T) {
	for i, want := range []int{1, 3, 22, 485} {
		if n := len(spacesOf(i + 1)); n != want {
			t.Errorf("%d spaces of %d items, want %d", n, i+1, want)
		}
	}
	for _, s := range samples() {
		if !isDefined(s) {
			t.Errorf("no space: %s", textOf(s))
		}
	}
}
