package tests

import (
	"slices"
	"testing"

	"loop.example/g01110/impl"
)

// checkGainCall compares a number that a function returns; it is 0 beside a failure.
func checkGainCall(t *testing.T, name string, p prize, list []int, got int, ok bool, want int, fine bool) {
	t.Helper()
	if ok != fine || got != want {
		t.Errorf("%s of %s for %v = %d, %v; want %d, %v", name, p.text(), list, got, ok, want, fine)
	}
}

// checkGainList compares a list that a function returns.
func checkGainList(t *testing.T, name string, p prize, list, got []int, ok bool, want []int) {
	t.Helper()
	if !ok || !slices.Equal(got, want) {
		t.Errorf("%s of %s for %v = %v, %v; want %v", name, p.text(), list, got, ok, want)
	}
}

func checkGainOf(t *testing.T, p prize, set []int, want int) {
	t.Helper()
	got, ok := impl.GainOf(p.f, p.worth, set)
	checkGainCall(t, "GainOf", p, set, got, ok, want, true)
}

func checkMarginal(t *testing.T, p prize, set []int, site, want int) {
	t.Helper()
	got, ok := impl.MarginalGain(p.f, p.worth, set, site)
	checkGainCall(t, "MarginalGain of "+listOf([]int{site}), p, set, got, ok, want, true)
}

func checkNoMarginal(t *testing.T, p prize, set []int, site int) {
	t.Helper()
	got, ok := impl.MarginalGain(p.f, p.worth, set, site)
	checkGainCall(t, "MarginalGain of "+listOf([]int{site}), p, set, got, ok, 0, false)
}

func checkGainTable(t *testing.T, p prize, want []int) {
	t.Helper()
	got, ok := impl.GainTable(p.f, p.worth)
	checkGainList(t, "GainTable", p, nil, got, ok, want)
}

func checkWorth(t *testing.T, f impl.Field, set []int, part, want int, fine bool) {
	t.Helper()
	if got, ok := impl.WorthReached(f, set, part); ok != fine || got != want {
		t.Errorf("WorthReached of %q for %v and %d = %d, %v; want %d, %v", textOf(f), set, part, got, ok, want, fine)
	}
}

const (
	// duo is the Field of the stage's own example; trio has the gains 9 1 1, 1 8 1 and 1 1 7 for a worth of 10.
	duo  = "3 1 / 0 4 / 5 1 / 2 2"
	trio = "5 6 7 / 1 9 9 / 9 2 9 / 9 9 3"
)

// The gains of this test, for all sets by their places, were worked out by hand.
func TestP8GainsByHand(t *testing.T) {
	for _, c := range []struct {
		field string
		worth int
		gains []int
	}{
		{duo, 0, []int{0, 0, 0, 0}}, {duo, 1, []int{0, 1, 0, 1}}, {duo, 2, []int{0, 2, 1, 3}}, {duo, 3, []int{0, 4, 3, 6}}, {duo, 5, []int{0, 8, 8, 12}}, {duo, 999, []int{0, 2990, 2990, 2994}},
		{trio, 1, []int{0, 0, 0, 0, 0, 0, 0, 0}}, {trio, 2, []int{0, 1, 0, 1, 0, 1, 0, 1}}, {trio, 10, []int{0, 11, 10, 18, 9, 17, 16, 24}},
		{"5", 0, []int{0, 0}}, {"5", 7, []int{0, 0}}, {"5", 999, []int{0, 0}}, {"1 2 3", 999, []int{0, 0, 0, 0, 0, 0, 0, 0}}, // no clients
		{"7 / 0 / 99", 0, []int{0, 0}}, {"7 / 0 / 99", 1, []int{0, 1}}, {"7 / 0 / 99", 98, []int{0, 98}}, {"7 / 0 / 99", 99, []int{0, 99}}, {"7 / 0 / 99", 100, []int{0, 101}}, {"7 / 0 / 99", 999, []int{0, 1899}}, // one site
		{"0 0 / 4 9", 3, []int{0, 0, 0, 0}}, {"0 0 / 4 9", 4, []int{0, 0, 0, 0}}, {"0 0 / 4 9", 5, []int{0, 1, 0, 1}}, {"0 0 / 9 4", 5, []int{0, 0, 1, 1}}, {"0 0 / 4 9", 9, []int{0, 5, 0, 5}}, {"0 0 / 4 9", 10, []int{0, 6, 1, 6}}, // about the lengths
		{"99 99 / 99 99 / 99 99", 99, []int{0, 0, 0, 0}}, {"99 99 / 99 99 / 99 99", 100, []int{0, 2, 2, 2}}, {"0 0 / 0 0", 0, []int{0, 0, 0, 0}}, {"0 0 / 0 0", 1, []int{0, 1, 1, 1}}, {"0 0 / 0 0 / 0 0", 999, []int{0, 1998, 1998, 1998}},
	} {
		p := prize{fieldOf(c.field), c.worth, nil}
		checkGainTable(t, p, c.gains)
		for place, gain := range c.gains {
			set := listOfBits(uint(place))
			checkGainOf(t, p, set, gain)
			for site := range p.f.Open {
				if slices.Contains(set, site) {
					checkNoMarginal(t, p, set, site)
				} else {
					checkMarginal(t, p, set, site, c.gains[place|1<<site]-gain)
				}
			}
		}
	}
	row := make([]int, 7)
	full := prize{impl.Field{Open: row, Dist: slices.Repeat([][]int{row}, 7)}, impl.MaxWorth, nil}
	checkGainOf(t, full, allBelow(7), 6993)
	checkMarginal(t, full, nil, 6, 6993)
	checkMarginal(t, full, []int{6}, 0, 0)
	checkGainTable(t, full, append([]int{0}, slices.Repeat([]int{6993}, 127)...))
}

func TestP8GainsOfManyFields(t *testing.T) {
	for _, p := range manyPrizes(1) {
		checkGainTable(t, p, p.gains)
		for _, set := range setsModel(len(p.f.Open)) {
			checkGainOf(t, p, set, p.gain(set))
			for _, site := range othersModel(p.f, set) {
				checkMarginal(t, p, set, site, p.more(set, site))
			}
		}
	}
}

func TestP8MarginalGainsOfOtherSites(t *testing.T) {
	for _, p := range namedPrizes() {
		sites := len(p.f.Open)
		for _, set := range setsModel(sites) {
			for _, site := range append(farNumbers(), sites, sites+1, 7, 8) {
				if site >= sites || site < 0 {
					checkNoMarginal(t, p, set, site)
				}
			}
			for _, site := range set {
				checkNoMarginal(t, p, set, site)
			}
		}
	}
}

// The worths of this test were worked out by hand.
func TestP8WorthsByHand(t *testing.T) {
	left, right, both := []int{0}, []int{1}, []int{0, 1}
	for _, c := range []struct {
		field       string
		set         []int
		part, worth int
	}{
		{duo, left, 0, 0}, {duo, left, 1, 1}, {duo, left, 2, 2}, {duo, left, 3, 3}, {duo, left, 4, 3}, {duo, left, 5, 4}, {duo, left, 6, 4}, {duo, left, 7, 5}, {duo, left, 8, 5}, {duo, left, 9, 6}, {duo, left, 11, 6}, {duo, left, 12, 7}, {duo, left, 1000, 336},
		{duo, right, 0, 0}, {duo, right, 1, 2}, {duo, right, 2, 3}, {duo, right, 8, 5}, {duo, right, 9, 6}, {duo, both, 1, 1}, {duo, both, 3, 2}, {duo, both, 4, 3}, {duo, both, 12, 5}, {duo, both, 13, 6}, {duo, both, 1000, 335},
		{"7 / 0", left, 0, 0}, {"7 / 0", left, 1, 1}, {"7 / 0", left, 998, 998}, {"7 / 0", left, 999, 999}, {"7 / 1", left, 998, 999}, {"7 / 99", left, 0, 0}, {"7 / 99", left, 1, 100}, {"7 / 99", left, 899, 998}, {"7 / 99", left, 900, 999}, // just by the greatest worth
		{"7 / 0 / 99", left, 98, 98}, {"7 / 0 / 99", left, 99, 99}, {"7 / 0 / 99", left, 100, 100}, {"7 / 0 / 99", left, 101, 100}, {"7 / 0 / 99", left, 102, 101}, {"7 / 0 / 99", left, 1000, 550},
		{"5", left, 0, 0}, {"5 6", both, 0, 0}, {"0 0 / 4 9", left, 1, 5}, {"0 0 / 4 9", right, 1, 10}, {"0 0 / 4 9", both, 1, 5}, {"0 0 / 0 9", right, 0, 0},
	} {
		checkWorth(t, fieldOf(c.field), c.set, c.part, c.worth, true)
	}
	for _, c := range []struct {
		field string
		set   []int
		part  int
	}{
		{"7 / 0", left, 1000}, {"7 / 1", left, 999}, {"7 / 99", left, 901}, {"7 / 99", left, 1000}, {"0 0 / 4 9", right, 991}, {"5", left, 1}, {"5", left, 1000}, {"5 6", both, 1}, // by no worth
	} {
		checkWorth(t, fieldOf(c.field), c.set, c.part, 0, false)
	}
	row := make([]int, 7)
	full := impl.Field{Open: row, Dist: slices.Repeat([][]int{row}, 7)}
	checkWorth(t, full, allBelow(7), 1000, 143, true)
	checkWorth(t, full, allBelow(7), 994, 142, true)
	checkWorth(t, full, allBelow(7), 995, 143, true)
}

func TestP8WorthsOfManyFields(t *testing.T) {
	n := &numbers{state: 93}
	for _, f := range manyFields(1) {
		for _, set := range [][]int{{n.below(len(f.Open))}, n.setFrom(len(f.Open)), allBelow(len(f.Open))} {
			for _, part := range []int{0, 1, n.below(1001), n.below(100), 999, 1000} {
				if len(set) > 0 {
					worth, fine := worthModel(f, set, part)
					checkWorth(t, f, set, part, worth, fine)
				}
			}
		}
	}
}

// The rest of this file tells guarantees of the program's own results alone.

func TestP8WorthsAreTheLeastOnes(t *testing.T) {
	n := &numbers{state: 94}
	for _, f := range manyFields(2) {
		set := []int{n.below(len(f.Open))}
		for _, part := range []int{0, 1, n.below(1001), 1000} {
			worth, one := impl.WorthReached(f, set, part)
			gain, _ := impl.GainOf(f, worth, set)
			less, _ := impl.GainOf(f, worth-1, set)
			most, _ := impl.GainOf(f, impl.MaxWorth, set)
			if one != (most >= part) || one && (gain < part || worth > 0 && less >= part) {
				t.Errorf("WorthReached of %q for %v and %d = %d, %v; the gain is %d, with one less it is %d, and at most %d", textOf(f), set, part, worth, one, gain, less, most)
			}
		}
	}
}

// With a worth of at least all lengths, the gain is what is left of all worths beside the service.
func TestP8GainsAreWorthsLessTheService(t *testing.T) {
	for _, f := range manyFields(1) {
		for _, set := range setsModel(len(f.Open))[1:] {
			service, _ := impl.ServiceOf(f, set)
			for _, worth := range []int{99, 100, 555, 999} {
				checkGainOf(t, prize{f, worth, nil}, set, len(f.Dist)*worth-service)
			}
		}
	}
}
