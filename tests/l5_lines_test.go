package tests

import (
	"math"
	"slices"
	"testing"

	"loop.example/g01110/impl"
)

func checkLineSites(t *testing.T, l lineOf, r int, sites []int, fine bool) {
	t.Helper()
	got, ok := impl.LineSites(l.sites, l.clients, r)
	if ok != fine || !slices.Equal(got, sites) {
		t.Errorf("LineSites of %v and %v for %d = %v, %v; want %v, %v", l.sites, l.clients, r, got, ok, sites, fine)
	}
}

// The sites of this test were worked out by hand.
func TestP5LineSitesByHand(t *testing.T) {
	all := []int{0, 1, 2, 3, 4, 5, 6}
	for _, c := range []struct {
		sites, clients []int
		r              int
		taken          []int
	}{
		{[]int{0, 10}, []int{1, 9, 9}, 2, []int{0, 1}}, {[]int{0, 10}, []int{1, 9, 9}, 8, []int{0, 1}}, {[]int{0, 10}, []int{1, 9, 9}, 9, []int{1}}, // a site just as far as the radius
		{[]int{0, 10}, []int{5}, 5, []int{1}}, {[]int{0, 10}, []int{5, 5}, 5, []int{1}}, {[]int{0, 10}, []int{4}, 5, []int{0}}, {[]int{0, 10}, []int{6}, 5, []int{1}},
		{[]int{0}, nil, 0, nil}, {[]int{0, 99}, nil, 0, nil}, {[]int{5, 6, 7}, []int{}, math.MaxInt, nil}, // no clients: no site is taken
		{[]int{5}, []int{5, 5, 5}, 0, []int{0}}, {[]int{5}, []int{4}, 1, []int{0}}, {[]int{5}, []int{6}, 1, []int{0}}, {[]int{5}, []int{4, 5, 6}, 1, []int{0}}, {[]int{99}, []int{0, 99}, 99, []int{0}}, {[]int{0}, []int{99}, 99, []int{0}}, // one site
		{[]int{0, 1, 2}, []int{0, 1, 2}, 0, []int{0, 1, 2}}, {[]int{0, 1, 2}, []int{0, 1, 2}, 1, []int{1}}, {[]int{0, 1, 2}, []int{0, 1, 2}, 2, []int{2}}, {[]int{0, 1, 2}, []int{1}, 1, []int{2}},
		{[]int{0, 10, 20, 30}, []int{5, 15, 25}, 5, []int{1, 3}}, {[]int{0, 10, 20, 30}, []int{5, 15, 25}, 15, []int{2}}, {[]int{0, 10, 20, 30}, []int{5, 15, 25}, 25, []int{3}}, {[]int{0, 10, 20, 30}, []int{5, 5, 25, 25}, 5, []int{1, 3}},
		{[]int{0, 50, 99}, []int{0, 99}, 0, []int{0, 2}}, {[]int{0, 50, 99}, []int{0, 99}, 49, []int{0, 2}}, {[]int{0, 50, 99}, []int{0, 99}, 50, []int{1}}, {[]int{0, 50, 99}, []int{0, 99}, 98, []int{1}}, {[]int{0, 50, 99}, []int{0, 99}, 99, []int{2}}, {[]int{0, 50, 99}, []int{0, 99}, math.MaxInt, []int{2}},
		{[]int{3, 8}, []int{3, 3, 8, 8}, 0, []int{0, 1}}, {[]int{3, 8}, []int{3, 3, 8, 8}, 4, []int{0, 1}}, {[]int{3, 8}, []int{3, 3, 8, 8}, 5, []int{1}}, {[]int{3, 8}, []int{8, 8}, 0, []int{1}}, // places that are the same
		{all, all, 0, all}, {all, all, 1, []int{1, 4, 6}}, {all, all, 2, []int{2, 6}}, {all, all, 3, []int{3}}, {all, all, 6, []int{6}}, {all, []int{3, 3, 3, 3, 3, 3, 3}, 0, []int{3}},
		{[]int{2, 4, 20, 22}, []int{3, 21}, 1, []int{1, 3}}, {[]int{2, 4, 20, 22}, []int{0, 3, 21}, 3, []int{0, 3}}, {[]int{0, 30, 60}, []int{20, 40, 70}, 10, []int{1, 2}},
	} {
		checkLineSites(t, lineOf{c.sites, c.clients}, c.r, c.taken, true)
	}
}

func TestP5LinesWithoutASiteThatIsNear(t *testing.T) {
	for _, c := range []struct {
		sites, clients []int
		r              int
	}{
		{[]int{0, 10}, []int{5}, 4}, {[]int{0, 10}, []int{5}, 0}, {[]int{5}, []int{4}, 0}, {[]int{5}, []int{6}, 0}, {[]int{0}, []int{99}, 98}, {[]int{99}, []int{0}, 98},
		{[]int{0, 10}, []int{0, 5}, 3}, {[]int{0, 10}, []int{5, 10}, 3}, {[]int{0, 10}, []int{0, 5, 10}, 3}, {[]int{0, 10}, []int{0, 99}, 50}, {[]int{0, 10}, []int{0, 20}, 9}, // the first client, the last one, or one between
		{[]int{0, 10, 20, 30}, []int{5, 15, 25}, 4}, {[]int{50}, []int{0, 50, 99}, 49}, {[]int{0, 1, 2, 3, 4, 5, 6}, []int{0, 1, 2, 3, 4, 5, 7}, 0},
	} {
		checkLineSites(t, lineOf{c.sites, c.clients}, c.r, nil, false)
	}
}

// lineRadii gives all radii that tell lengths of lines apart, and greater ones.
func lineRadii(l lineOf) []int {
	return radiiFor(lineModel(l.sites, l.clients))
}

func TestP5ManyLines(t *testing.T) {
	for _, l := range append(manyLines(3), smallLines()...) {
		for _, r := range lineRadii(l) {
			sites, fine := lineSitesModel(l, r)
			checkLineSites(t, l, r, sites, fine)
		}
	}
}

// This test tells a guarantee of the program's own results alone.
func TestP5LineSitesAreAsManyAsCoveringSites(t *testing.T) {
	for _, l := range append(manyLines(2), smallLines()...) {
		f, _ := impl.LineField(l.sites, l.clients)
		for _, r := range lineRadii(l) {
			taken, one := impl.LineSites(l.sites, l.clients, r)
			cover, two := impl.CoveringSites(f, r)
			reach, _ := impl.ReachOf(f, taken)
			if one != two || len(l.clients) > 0 && len(taken) != len(cover) || len(l.clients) == 0 && len(taken) > 0 || !slices.IsSorted(taken) || reach > r {
				t.Fatalf("LineSites of %v and %v for %d = %v, %v; CoveringSites are %v, %v", l.sites, l.clients, r, taken, one, cover, two)
			}
		}
	}
}
