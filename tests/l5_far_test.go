package tests

import (
	"math"
	"slices"
	"testing"

	"loop.example/g01110/impl"
)

func checkFar(t *testing.T, f impl.Field, clients []int, r int, want bool) {
	t.Helper()
	got, ok := impl.AreFarClients(f, clients, r)
	checkReport(t, "AreFarClients for "+listOf([]int{r}), f, clients, got, ok, want)
}

func checkLargestFar(t *testing.T, f impl.Field, r int, want []int) {
	t.Helper()
	got, ok := impl.LargestFar(f, r)
	checkList(t, "LargestFar", f, []int{r}, got, ok, want)
}

func checkFarReach(t *testing.T, f impl.Field, k, want int) {
	t.Helper()
	got, ok := impl.FarReach(f, k)
	checkNumber(t, "FarReach", f, []int{k}, got, ok, want)
}

// In the Fields of these tests a first client shares sites with two that are
// far, four clients are at two sites, one client is near all others but one of
// two, each two of three clients share a site, or a client has no site.
const (
	star    = "0 0 / 0 0 / 0 9 / 9 0"
	twins   = "0 0 / 0 9 / 0 9 / 9 0 / 9 0"
	loose   = "0 0 / 0 0 / 0 9 / 0 9 / 9 0"
	ring    = "0 0 0 / 1 1 3 / 1 3 1 / 3 1 1"
	ringOf0 = "0 0 0 / 0 0 9 / 0 9 0 / 9 0 0"
	remote  = "0 0 / 0 9 / 9 9"
)

func TestP5FarClientsByHand(t *testing.T) {
	for _, c := range []struct {
		field   string
		clients []int
		far     []int // radii just below which the clients are far, and from which on they are not
	}{
		{"4 3 / 1 5 / 6 2", []int{0, 1}, []int{5}},
		{"5 / 9 / 3", []int{0, 1}, []int{9}}, {"0 / 99 / 99", []int{0, 1}, []int{99}}, {"0 / 99 / 0", []int{0, 1}, []int{99}}, // one site
		{"0 0 / 0 0 / 0 0", []int{0, 1}, []int{0}}, {"0 0 0 / 5 5 5 / 5 5 5", []int{0, 1}, []int{5}}, {"0 0 / 0 9 / 0 9", []int{0, 1}, []int{0}}, {"0 0 / 0 9 / 9 0", []int{0, 1}, []int{9}},
		{between, []int{0, 1}, []int{4}}, {doubled, []int{0, 1}, []int{9}}, {remote, []int{0, 1}, []int{9}}, // the lengths are compared, not their sum
		{three, []int{0, 1}, []int{9}}, {three, []int{1, 2}, []int{9}}, {three, []int{0, 3}, []int{5}}, {three, []int{2, 3}, []int{5}}, {three, []int{0, 1, 2}, []int{9}}, {three, []int{0, 1, 2, 3}, []int{5}},
		{"0 0 / 9 1 / 3 9 / 9 1", []int{0, 1, 2}, []int{1}}, {"0 0 / 9 1 / 3 9 / 9 1", []int{0, 2}, []int{1}}, {"0 0 / 9 1 / 3 9 / 9 1", []int{0, 1}, []int{9}}, {"0 0 / 9 1 / 3 9 / 9 1", []int{1, 2}, []int{9}}, // the first and the last one share a site
		{ring, []int{0, 1}, []int{1}}, {ring, []int{0, 2}, []int{1}}, {ring, []int{1, 2}, []int{1}}, {star, []int{1, 2}, []int{9}}, {star, []int{0, 1, 2}, []int{0}},
		{apart, []int{0, 6}, []int{99}}, {apart, []int{0, 1, 2, 3, 4, 5, 6}, []int{99}}, {apart, []int{1, 3, 5}, []int{99}},
	} {
		f, from := fieldOf(c.field), c.far[0]
		for _, r := range []int{0, from - 1, from, from + 1, 99, 100, math.MaxInt} {
			if r >= 0 {
				checkFar(t, f, c.clients, r, r < from)
			}
		}
	}
}

// No two clients are in the empty list and in lists of one.
func TestP5ShortListsAreFar(t *testing.T) {
	for _, text := range []string{"5", "5 6 7", "5 / 9", "0 / 0", "0 0 / 0 0 / 0 0", "99 / 99 / 99", three, apart} {
		f := fieldOf(text)
		for _, r := range []int{0, 1, 5, 9, 98, 99, 100, math.MaxInt} {
			checkFar(t, f, nil, r, true)
			checkFar(t, f, []int{}, r, true)
			for client := range f.Dist {
				checkFar(t, f, []int{client}, r, true)
			}
		}
	}
}

// The lists of this test were worked out by hand.
func TestP5LargestFarByHand(t *testing.T) {
	all := []int{0, 1, 2, 3, 4, 5, 6}
	for _, c := range []struct {
		field string
		r     int
		far   []int
	}{
		{"4 3 / 1 5 / 6 2", 0, []int{0, 1}}, {"4 3 / 1 5 / 6 2", 2, []int{0, 1}}, {"4 3 / 1 5 / 6 2", 4, []int{0, 1}}, {"4 3 / 1 5 / 6 2", 5, []int{0}}, {"4 3 / 1 5 / 6 2", math.MaxInt, []int{0}},
		{"5", 0, []int{}}, {"5 6 7", 99, []int{}}, {"5 6", math.MaxInt, []int{}}, // no clients
		{"5 / 9", 0, []int{0}}, {"5 / 9", 9, []int{0}}, {"0 / 0", 0, []int{0}}, {"5 / 9 / 3", 8, []int{0, 1}}, {"5 / 9 / 3", 9, []int{0}}, {"0 / 99 / 99 / 99", 98, []int{0, 1, 2}}, {"0 / 99 / 99 / 99", 99, []int{0}}, {"0 / 99 / 99 / 99", 100, []int{0}}, // one site
		{"0 0 / 0 0 / 0 0", 0, []int{0}}, {"0 0 0 / 5 5 5 / 5 5 5", 4, []int{0, 1}}, {"0 0 0 / 5 5 5 / 5 5 5", 5, []int{0}},
		{between, 0, []int{0, 1}}, {between, 3, []int{0, 1}}, {between, 4, []int{0}}, {three, 0, []int{0, 1, 2, 3}}, {three, 4, []int{0, 1, 2, 3}}, {three, 5, []int{0, 1, 2}}, {three, 8, []int{0, 1, 2}}, {three, 9, []int{0}},
		{star, 0, []int{1, 2}}, {star, 8, []int{1, 2}}, {star, 9, []int{0}}, // without the first client
		{twins, 0, []int{0, 2}}, {loose, 0, []int{1, 3}}, {ringOf0, 0, []int{0}}, {ring, 0, []int{0, 1, 2}}, {ring, 1, []int{0}}, // of several longest lists the first one
		{"0 0 / 0 9 / 0 0 / 9 0", 0, []int{0, 2}}, {remote, 0, []int{0, 1}}, {remote, 8, []int{0, 1}}, {remote, 9, []int{0}},
		{"0 0 0 / 0 9 9 / 9 0 9 / 0 0 9 / 9 9 0 / 9 9 0", 0, []int{0, 1, 3}}, {"0 0 0 / 0 0 0 / 9 9 0 / 9 0 9 / 0 9 9 / 9 9 0", 0, []int{1, 2, 3}},
		{apart, 0, all}, {apart, 98, all}, {apart, 99, []int{0}}, {apart, 100, []int{0}}, {apart, math.MaxInt, []int{0}},
	} {
		checkLargestFar(t, fieldOf(c.field), c.r, c.far)
	}
}

// The numbers of this test, for k of 1 and more, were worked out by hand.
func TestP5FarReachByHand(t *testing.T) {
	for text, reaches := range map[string][]int{
		"4 3 / 1 5 / 6 2": {5, 2}, "5": {0}, "5 6 7": {0, 0, 0}, "99 99": {0, 0}, // no clients
		"5 / 9": {9}, "0 / 0": {0}, "0 / 99": {99}, "7 / 0 / 99": {99}, "1 / 3 / 2 / 1": {3}, // one site
		"99 0 / 1 2": {1, 1}, "0 99 / 2 1": {1, 1}, "0 0 0 / 5 5 5 / 5 5 5": {5, 5, 5}, "9 9 / 0 0 / 0 0": {0, 0}, "0 0 / 99 99": {99, 99},
		between: {4, 0, 0}, three: {9, 9, 5}, doubled: {9, 1, 1, 1}, apart: {99, 99, 99, 99, 99, 99, 0},
		ring: {1, 1, 1}, ringOf0: {0, 0, 0}, star: {9, 0}, twins: {9, 0}, loose: {9, 0}, // one far client alone, though no site serves all
		remote: {9, 9}, "0 0 / 9 9 / 0 9": {9, 9}, "0 0 0 / 0 9 9 / 9 0 9 / 9 9 7": {9, 9, 7}, // few clients are far, but one has no site
	} {
		f := fieldOf(text)
		for fewer, reach := range reaches {
			checkFarReach(t, f, fewer+1, reach)
		}
	}
}

func TestP5FarClientsOfManyFields(t *testing.T) {
	for _, list := range [][]impl.Field{manyFields(1), sparseFields()[:60], midFields(100), placeFields(40), smallFields(1, 2, 4), smallFields(2, 1, 4), smallFields(2, 2, 2), smallFields(3, 2, 1)} {
		for _, f := range list {
			for k := 1; k <= len(f.Open); k++ {
				checkFarReach(t, f, k, farReachModel(f, k))
			}
			for _, r := range radiiFor(f) {
				checkLargestFar(t, f, r, largestFarModel(f, r))
			}
		}
	}
}

func TestP5AllListsOfClients(t *testing.T) {
	for _, list := range [][]impl.Field{manyFields(1), midFields(40), smallFields(2, 2, 2)} {
		for _, f := range list {
			for _, clients := range setsModel(len(f.Dist)) {
				for _, r := range []int{0, 1, 2, 5, 9, 49, 98, 99, 100} {
					checkFar(t, f, clients, r, farModel(f, clients, r))
				}
			}
		}
	}
}

// The rest of this file tells guarantees of the program's own results alone.

func TestP5CentreReachLiesBetweenFarReachAndThreeTimesIt(t *testing.T) {
	fields := slices.Concat(manyFields(1), midFields(200), placeFields(200), sparseFields(), metricFields(), []impl.Field{fieldOf(ring), fieldOf(ringOf0)})
	for _, f := range fields {
		metric, _ := impl.IsMetric(f)
		for k := 1; k <= len(f.Open); k++ {
			far, one := impl.FarReach(f, k)
			reach, two := impl.CentreReach(f, k)
			if !one || !two || reach < far || metric && reach > 3*far {
				t.Fatalf("CentreReach of %q for %d = %d, %v; FarReach is %d, %v, and metric %v", textOf(f), k, reach, two, far, one, metric)
			}
		}
	}
}

// Both bounds are reached: the factor is not greater than it must be.
func TestP5CentreReachReachesBothBounds(t *testing.T) {
	f := fieldOf(ring)
	checkFarReach(t, f, 1, 1)
	checkCentres(t, f, 1, []int{0}, 3)
	checkFarReach(t, fieldOf(doubled), 2, 1)
	checkCentres(t, fieldOf(doubled), 2, []int{0, 1}, 1)
}

func TestP5NoCoverHasFewerSitesThanFarClients(t *testing.T) {
	for _, f := range append(append(manyFields(1), midFields(100)...), placeFields(60)...) {
		sets := setsModel(len(f.Open))[1:]
		for _, r := range radiiFor(f) {
			far, one := impl.LargestFar(f, r)
			are, two := impl.AreFarClients(f, far, r)
			if !one || !two || !are {
				t.Fatalf("LargestFar of %q for %d = %v, %v; AreFarClients is %v, %v", textOf(f), r, far, one, are, two)
			}
			for _, set := range sets {
				if reach, _ := impl.ReachOf(f, set); reach <= r && len(set) < len(far) {
					t.Fatalf("ReachOf %q for %v = %d; LargestFar for %d is %v", textOf(f), set, reach, r, far)
				}
			}
		}
	}
}
