package tests

import (
	"math"
	"slices"
	"testing"

	"loop.example/g01110/impl"
)

func checkLengths(t *testing.T, f impl.Field, want []int) {
	t.Helper()
	got, ok := impl.LengthsOf(f)
	checkList(t, "LengthsOf", f, nil, got, ok, want)
}

func checkWithin(t *testing.T, f impl.Field, set []int, r int, want []int) {
	t.Helper()
	got, ok := impl.ClientsWithin(f, set, r)
	checkList(t, "ClientsWithin "+listOf([]int{r}), f, set, got, ok, want)
}

func checkRadii(t *testing.T, f impl.Field, set, want []int) {
	t.Helper()
	got, ok := impl.RadiiOf(f, set)
	checkList(t, "RadiiOf", f, set, got, ok, want)
}

func checkCentres(t *testing.T, f impl.Field, k int, set []int, reach int) {
	t.Helper()
	got, ok := impl.BestCentres(f, k)
	checkList(t, "BestCentres", f, []int{k}, got, ok, set)
	number, ok := impl.CentreReach(f, k)
	checkNumber(t, "CentreReach", f, []int{k}, number, ok, reach)
}

func checkPartial(t *testing.T, f impl.Field, k, z int, set []int, reach int) {
	t.Helper()
	got, least, ok := impl.BestPartial(f, k, z)
	if !ok || !slices.Equal(got, set) || least != reach {
		t.Errorf("BestPartial of %q for %d and %d = %v, %d, %v; want %v, %d", textOf(f), k, z, got, least, ok, set, reach)
	}
}

// checkCovering takes an empty set for a radius that no set covers.
func checkCovering(t *testing.T, f impl.Field, r int, want []int) {
	t.Helper()
	got, ok := impl.CoveringSites(f, r)
	if ok != (len(want) > 0) || !slices.Equal(got, want) {
		t.Errorf("CoveringSites of %q for %d = %v, %v; want %v", textOf(f), r, got, ok, want)
	}
}

// The fields of these tests have a site in the middle, three clients that two
// sites cannot reach, and clients that are each at two of four sites.
const (
	between = "0 0 0 / 4 0 9 / 4 9 0"
	three   = "0 0 0 / 2 9 9 / 9 2 9 / 9 9 2 / 5 5 5"
	doubled = "0 0 0 0 / 1 9 1 9 / 9 1 9 1"
)

func TestP5LengthsByHand(t *testing.T) {
	for text, want := range map[string][]int{
		"4 3 / 1 5 / 6 2": {1, 2, 5, 6}, "5": {}, "99 98 97": {}, // no clients: opening costs are no lengths
		"5 / 9": {9}, "9 / 0": {0}, "0 / 99": {99}, "7 / 0 / 99": {0, 99}, "1 / 3 / 2 / 1": {1, 2, 3},
		"0 0 0 / 5 5 5 / 5 5 5": {5}, "9 9 / 0 0 / 0 0": {0}, between: {0, 4, 9}, three: {2, 5, 9}, apart: {0, 99},
		"1 2 3 4 5 6 7 / 7 6 5 4 3 2 1 / 1 2 3 4 5 6 7": {1, 2, 3, 4, 5, 6, 7},
		"0 0 0 0 0 0 0 / 99 98 97 96 95 94 93 / 86 87 88 89 90 91 92 / 85 84 83 82 81 80 79 / 1 0 1 0 1 0 2 / 72 73 74 75 76 77 78 / 71 70 69 68 67 66 65 / 64 63 62 61 60 59 58": {
			0, 1, 2, 58, 59, 60, 61, 62, 63, 64, 65, 66, 67, 68, 69, 70, 71, 72, 73, 74, 75, 76, 77, 78, 79, 80, 81, 82, 83, 84, 85, 86, 87, 88, 89, 90, 91, 92, 93, 94, 95, 96, 97, 98, 99},
	} {
		checkLengths(t, fieldOf(text), want)
	}
}

func TestP5ClientsWithinByHand(t *testing.T) {
	for _, c := range []struct {
		field  string
		set    []int
		r      int
		within []int
	}{
		{"4 3 / 1 5 / 6 2", []int{0}, 0, []int{}}, {"4 3 / 1 5 / 6 2", []int{0}, 1, []int{0}}, {"4 3 / 1 5 / 6 2", []int{0}, 5, []int{0}}, {"4 3 / 1 5 / 6 2", []int{0}, 6, []int{0, 1}},
		{"4 3 / 1 5 / 6 2", []int{1}, 1, []int{}}, {"4 3 / 1 5 / 6 2", []int{1}, 2, []int{1}}, {"4 3 / 1 5 / 6 2", []int{1}, 4, []int{1}}, {"4 3 / 1 5 / 6 2", []int{1}, 5, []int{0, 1}},
		{"4 3 / 1 5 / 6 2", []int{0, 1}, 0, []int{}}, {"4 3 / 1 5 / 6 2", []int{0, 1}, 1, []int{0}}, {"4 3 / 1 5 / 6 2", []int{0, 1}, 2, []int{0, 1}},
		{"5", []int{0}, 0, []int{}}, {"5 6", []int{0, 1}, 99, []int{}}, {"5 6", []int{1}, math.MaxInt, []int{}}, // no clients
		{"5 / 9", []int{0}, 8, []int{}}, {"5 / 9", []int{0}, 9, []int{0}}, {"5 / 0", []int{0}, 0, []int{0}}, // one site
		{"0 / 99", []int{0}, 98, []int{}}, {"0 / 99", []int{0}, 99, []int{0}}, {"0 / 99", []int{0}, 100, []int{0}}, {"0 / 99", []int{0}, math.MaxInt, []int{0}},
		{between, []int{0}, 3, []int{}}, {between, []int{0}, 4, []int{0, 1}}, {between, []int{1}, 0, []int{0}}, {between, []int{2}, 0, []int{1}}, {between, []int{1, 2}, 0, []int{0, 1}}, {between, []int{0, 2}, 0, []int{1}},
		{apart, []int{3}, 0, []int{3}}, {apart, []int{3}, 98, []int{3}}, {apart, []int{3}, 99, []int{0, 1, 2, 3, 4, 5, 6}}, {apart, []int{1, 4, 6}, 50, []int{1, 4, 6}}, {apart, []int{0, 1, 2, 3, 4, 5, 6}, 0, []int{0, 1, 2, 3, 4, 5, 6}},
	} {
		checkWithin(t, fieldOf(c.field), c.set, c.r, c.within)
	}
}

func TestP5RadiiByHand(t *testing.T) {
	const middle = "0 0 0 / 0 9 4 / 0 9 4 / 9 0 4 / 9 0 4"
	for _, c := range []struct {
		field      string
		set, radii []int
	}{
		{"4 3 / 1 5 / 6 2", []int{0}, []int{6}}, {"4 3 / 1 5 / 6 2", []int{1}, []int{5}}, {"4 3 / 1 5 / 6 2", []int{0, 1}, []int{1, 2}},
		{"5", []int{0}, []int{0}}, {"5 6 7", []int{0, 2}, []int{0, 0}}, {"5 / 9", []int{0}, []int{9}}, {"5 / 9 / 3", []int{0}, []int{9}}, {"5 / 3 / 9", []int{0}, []int{9}}, {"0 / 0", []int{0}, []int{0}},
		{"0 0 / 5 5 / 3 3", []int{0, 1}, []int{5, 0}}, {"0 0 / 5 5 / 3 3", []int{1}, []int{5}}, // equal lengths: the second site serves no client
		{middle, []int{0, 1, 2}, []int{0, 0, 0}}, {middle, []int{0, 2}, []int{0, 4}}, {middle, []int{1, 2}, []int{0, 4}}, {middle, []int{2}, []int{4}}, {middle, []int{0}, []int{9}}, {middle, []int{0, 1}, []int{0, 0}},
		{"0 0 0 / 7 1 9 / 8 2 9 / 3 9 9", []int{0, 1, 2}, []int{3, 2, 0}}, {"0 0 0 / 7 1 9 / 8 2 9 / 3 9 9", []int{0, 2}, []int{8, 0}}, {"0 0 0 / 7 1 9 / 8 2 9 / 3 9 9", []int{1, 2}, []int{9, 0}},
		{apart, []int{2}, []int{99}}, {apart, []int{2, 5}, []int{99, 0}}, {apart, []int{0, 1, 2, 3, 4, 5, 6}, []int{0, 0, 0, 0, 0, 0, 0}},
	} {
		checkRadii(t, fieldOf(c.field), c.set, c.radii)
	}
}

// The sets of this test were worked out by hand.
func TestP5CentresByHand(t *testing.T) {
	for _, c := range []struct {
		field string
		k     int
		set   []int
		reach int
	}{
		{"4 3 / 1 5 / 6 2", 1, []int{1}, 5}, {"4 3 / 1 5 / 6 2", 2, []int{0, 1}, 2},
		{"5", 1, []int{0}, 0}, {"5 / 9", 1, []int{0}, 9}, {"0 / 0", 1, []int{0}, 0}, {"0 / 99 / 99 / 99 / 99 / 99 / 99 / 99", 1, []int{0}, 99}, // one site
		{"3 1 2", 1, []int{0}, 0}, {"3 1 2", 2, []int{0}, 0}, {"3 1 2", 3, []int{0}, 0}, // no clients
		{"99 0 / 1 2", 1, []int{0}, 1}, {"99 0 / 1 2", 2, []int{0}, 1}, {"0 99 / 2 1", 1, []int{1}, 1}, {"0 99 / 2 1", 2, []int{1}, 1}, // opening costs do not count
		{"0 0 0 / 5 5 5 / 5 5 5", 1, []int{0}, 5}, {"0 0 0 / 5 5 5 / 5 5 5", 3, []int{0}, 5}, {"9 9 / 0 0 / 0 0", 2, []int{0}, 0}, // all sets have the same reach
		{"0 0 0 / 5 3 3", 1, []int{1}, 3}, {"0 0 0 / 5 3 3", 2, []int{1}, 3}, {"0 0 0 / 5 3 3", 3, []int{1}, 3},
		{between, 1, []int{0}, 4}, {between, 2, []int{1, 2}, 0}, {between, 3, []int{1, 2}, 0},
		{three, 1, []int{0}, 9}, {three, 2, []int{0}, 9}, {three, 3, []int{0, 1, 2}, 5}, // two sites have no less reach than one
		{doubled, 1, []int{0}, 9}, {doubled, 2, []int{0, 1}, 1}, {doubled, 3, []int{0, 1}, 1}, {doubled, 4, []int{0, 1}, 1}, // of several pairs the first one
		{"0 0 0 0 / 9 1 9 1 / 1 9 9 9", 2, []int{0, 1}, 1}, {"0 0 0 0 / 9 9 9 1 / 9 9 1 9 / 9 2 9 9", 3, []int{1, 2, 3}, 2}, {"0 0 0 0 / 9 9 9 1 / 9 9 1 9 / 9 2 9 9", 4, []int{1, 2, 3}, 2},
		{apart, 1, []int{0}, 99}, {apart, 6, []int{0}, 99}, {apart, 7, []int{0, 1, 2, 3, 4, 5, 6}, 0},
		{"0 0 / 9 1 / 9 1 / 9 1 / 0 8", 1, []int{1}, 8}, {"0 0 / 7 0 / 7 0 / 7 0 / 0 8", 1, []int{0}, 7}, // the reach, not the service
	} {
		checkCentres(t, fieldOf(c.field), c.k, c.set, c.reach)
	}
}

// The sets of this test were worked out by hand.
func TestP5CoveringSitesByHand(t *testing.T) {
	all := []int{0, 1, 2, 3, 4, 5, 6}
	for _, c := range []struct {
		field string
		r     int
		set   []int
	}{
		{"4 3 / 1 5 / 6 2", 0, nil}, {"4 3 / 1 5 / 6 2", 1, nil}, {"4 3 / 1 5 / 6 2", 2, []int{0, 1}}, {"4 3 / 1 5 / 6 2", 4, []int{0, 1}}, {"4 3 / 1 5 / 6 2", 5, []int{1}}, {"4 3 / 1 5 / 6 2", 6, []int{0}},
		{"5", 0, []int{0}}, {"5 6 7", 0, []int{0}}, {"5 6 7", math.MaxInt, []int{0}}, // no clients
		{"5 / 9", 8, nil}, {"5 / 9", 9, []int{0}}, {"0 / 0", 0, []int{0}}, {"0 / 99", 98, nil}, {"0 / 99", 99, []int{0}}, {"0 / 99", 100, []int{0}}, // one site
		{"0 0 / 99 99", 0, nil}, {"0 0 / 99 99", 98, nil}, {"0 0 / 99 99", 99, []int{0}}, {"0 0 / 99 99", 1000, []int{0}}, {"0 0 / 99 99", math.MaxInt, []int{0}},
		{"9 9 / 0 0 / 0 0", 0, []int{0}}, {"0 0 0 / 5 5 5", 4, nil}, {"0 0 0 / 5 5 5", 5, []int{0}}, {"0 0 0 / 5 3 3", 3, []int{1}}, {"0 0 0 / 5 3 3", 5, []int{0}},
		{between, 0, []int{1, 2}}, {between, 3, []int{1, 2}}, {between, 4, []int{0}}, {three, 4, nil}, {three, 5, []int{0, 1, 2}}, {three, 8, []int{0, 1, 2}}, {three, 9, []int{0}},
		{doubled, 0, nil}, {doubled, 1, []int{0, 1}}, {doubled, 9, []int{0}}, {apart, 0, all}, {apart, 98, all}, {apart, 99, []int{0}}, {apart, math.MaxInt, []int{0}},
		{apart, 50, all}, {"0 0 / 0 9 / 9 9", 8, nil}, {"0 0 / 9 9 / 0 9", 8, nil}, // some client has no site
	} {
		checkCovering(t, fieldOf(c.field), c.r, c.set)
	}
}

// The sets of this test were worked out by hand.
func TestP5PartialByHand(t *testing.T) {
	const split = "0 0 / 9 1 / 9 2 / 0 9"
	for _, c := range []struct {
		field string
		k, z  int
		set   []int
		reach int
	}{
		{"4 3 / 1 5 / 6 2", 1, 0, []int{1}, 5}, {"4 3 / 1 5 / 6 2", 1, 1, []int{0}, 1}, {"4 3 / 1 5 / 6 2", 1, 2, []int{0}, 0}, {"4 3 / 1 5 / 6 2", 1, 3, []int{0}, 0}, {"4 3 / 1 5 / 6 2", 1, 7, []int{0}, 0},
		{"4 3 / 1 5 / 6 2", 2, 0, []int{0, 1}, 2}, {"4 3 / 1 5 / 6 2", 2, 1, []int{0}, 1}, {"4 3 / 1 5 / 6 2", 2, 2, []int{0}, 0}, {"4 3 / 1 5 / 6 2", 2, 7, []int{0}, 0},
		{"5", 1, 0, []int{0}, 0}, {"5", 1, 7, []int{0}, 0}, {"5 6", 2, 1, []int{0}, 0}, // no clients
		{"5 / 9", 1, 0, []int{0}, 9}, {"5 / 9", 1, 1, []int{0}, 0}, {"5 / 9 / 3", 1, 1, []int{0}, 3}, {"5 / 3 / 9", 1, 1, []int{0}, 3}, {"5 / 9 / 9 / 3", 1, 1, []int{0}, 9}, {"5 / 9 / 9 / 3", 1, 2, []int{0}, 3},
		{split, 1, 0, []int{0}, 9}, {split, 1, 1, []int{1}, 2}, {split, 1, 2, []int{0}, 0}, {split, 1, 3, []int{0}, 0}, {split, 1, 4, []int{0}, 0},
		{split, 2, 0, []int{0, 1}, 2}, {split, 2, 1, []int{0, 1}, 1}, {split, 2, 2, []int{0}, 0},
		{"0 0 / 0 0 / 0 0", 2, 1, []int{0}, 0}, {"0 0 0 / 5 5 5 / 5 5 5", 3, 1, []int{0}, 5}, {"0 0 0 / 5 5 5 / 5 5 5", 3, 2, []int{0}, 0},
		{apart, 1, 5, []int{0}, 99}, {apart, 1, 6, []int{0}, 0}, {apart, 1, 7, []int{0}, 0}, {apart, 3, 3, []int{0}, 99}, {apart, 3, 4, []int{0, 1, 2}, 0}, {apart, 6, 1, []int{0, 1, 2, 3, 4, 5}, 0}, {apart, 7, 0, []int{0, 1, 2, 3, 4, 5, 6}, 0},
		{"0 / 1 / 2 / 3 / 4 / 5 / 6 / 7", 1, 0, []int{0}, 7}, {"0 / 1 / 2 / 3 / 4 / 5 / 6 / 7", 1, 6, []int{0}, 1}, {"0 / 1 / 2 / 3 / 4 / 5 / 6 / 7", 1, 7, []int{0}, 0},
		{"0 0 / 1 9 / 1 9 / 9 0", 1, 1, []int{0}, 1}, {"0 0 / 1 9 / 1 9 / 9 0", 1, 2, []int{1}, 0}, // other clients may be left out for other sets
	} {
		checkPartial(t, fieldOf(c.field), c.k, c.z, c.set, c.reach)
	}
}

func checkAllCentres(t *testing.T, f impl.Field) {
	t.Helper()
	for k := 1; k <= len(f.Open); k++ {
		set, reach := centresModel(f, k)
		checkCentres(t, f, k, set, reach)
		for z := range impl.MaxClients + 1 {
			set, reach = partialModel(f, k, z)
			checkPartial(t, f, k, z, set, reach)
		}
	}
	checkLengths(t, f, lengthsModel(f))
	for _, r := range radiiFor(f) {
		checkCovering(t, f, r, coverModel(f, r))
	}
}

func TestP5CentresOfManyFields(t *testing.T) {
	for _, list := range [][]impl.Field{manyFields(1), sparseFields()[:100], midFields(150), placeFields(80), smallFields(1, 2, 4), smallFields(2, 1, 4), smallFields(3, 1, 2), smallFields(3, 2, 1)} {
		for _, f := range list {
			checkAllCentres(t, f)
		}
	}
}

func TestP5RadiiOfManyFields(t *testing.T) {
	for _, list := range [][]impl.Field{manyFields(1), sparseFields()[:60], midFields(100), smallFields(1, 2, 4), smallFields(2, 1, 4), smallFields(2, 2, 2), smallFields(3, 2, 1)} {
		for _, f := range list {
			radii := radiiFor(f)
			for _, set := range setsModel(len(f.Open))[1:] {
				checkRadii(t, f, set, radiiModel(f, set))
				for _, r := range radii {
					checkWithin(t, f, set, r, withinModel(f, set, r))
				}
			}
		}
	}
}

// The rest of this file tells guarantees of the program's own results alone.

func TestP5NoSetIsBelowItsCentres(t *testing.T) {
	for _, f := range append(manyFields(1), midFields(200)...) {
		sets := setsModel(len(f.Open))[1:]
		for k := 1; k <= len(f.Open); k++ {
			reach, one := impl.CentreReach(f, k)
			best, two := impl.BestCentres(f, k)
			if got, three := impl.ReachOf(f, best); !one || !two || !three || got != reach || len(best) > k {
				t.Fatalf("BestCentres of %q for %d = %v, %v; CentreReach is %d, %v", textOf(f), k, best, two, reach, one)
			}
			for _, set := range sets {
				if got, _ := impl.ReachOf(f, set); len(set) <= k && got < reach {
					t.Fatalf("ReachOf %q for %v = %d; CentreReach for %d is %d", textOf(f), set, got, k, reach)
				}
			}
		}
	}
}

func TestP5TheGreatestRadiusIsTheReach(t *testing.T) {
	for _, f := range append(manyFields(1), midFields(200)...) {
		for _, set := range setsModel(len(f.Open))[1:] {
			radii, one := impl.RadiiOf(f, set)
			reach, two := impl.ReachOf(f, set)
			all, three := impl.ClientsWithin(f, set, reach)
			if !one || !two || !three || len(radii) != len(set) || slices.Max(radii) != reach || len(all) != len(f.Dist) {
				t.Fatalf("RadiiOf %q for %v = %v, %v; the reach is %d, and has the clients %v", textOf(f), set, radii, one, reach, all)
			}
		}
	}
}

func TestP5CoveringSitesForCentreReachHaveAtMostKSites(t *testing.T) {
	for _, f := range append(append(manyFields(2), midFields(300)...), sparseFields()...) {
		for k := 1; k <= len(f.Open); k++ {
			reach, _ := impl.CentreReach(f, k)
			set, ok := impl.CoveringSites(f, reach)
			if got, _ := impl.ReachOf(f, set); !ok || len(set) > k || got > reach {
				t.Fatalf("CoveringSites of %q for %d = %v, %v; this is CentreReach for %d", textOf(f), reach, set, ok, k)
			}
			// A less reach needs more sites, if it can be had at all.
			if set, ok := impl.CoveringSites(f, reach-1); ok && len(set) <= k {
				t.Fatalf("CoveringSites of %q for %d = %v; CentreReach for %d is %d", textOf(f), reach-1, set, k, reach)
			}
		}
	}
}
