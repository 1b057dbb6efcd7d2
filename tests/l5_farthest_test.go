package tests

import (
	"math"
	"slices"
	"testing"

	"loop.example/g01110/impl"
)

// checkGapOf tests both orders of two clients.
func checkGapOf(t *testing.T, f impl.Field, i, j, want int) {
	t.Helper()
	got, ok := impl.GapOf(f, i, j)
	checkNumber(t, "GapOf", f, []int{i, j}, got, ok, want)
	got, ok = impl.GapOf(f, j, i)
	checkNumber(t, "GapOf", f, []int{j, i}, got, ok, want)
}

func checkFarthest(t *testing.T, f impl.Field, k int, clients, sites []int) {
	t.Helper()
	got, ok := impl.FarthestClients(f, k)
	checkList(t, "FarthestClients", f, []int{k}, got, ok, clients)
	got, ok = impl.FarthestSites(f, k)
	checkList(t, "FarthestSites", f, []int{k}, got, ok, sites)
}

// checkThreshold takes an empty list of sites where some client has none that is near.
func checkThreshold(t *testing.T, f impl.Field, r int, clients, sites []int) {
	t.Helper()
	got, ok := impl.ThresholdClients(f, r)
	checkList(t, "ThresholdClients", f, []int{r}, got, ok, clients)
	got, ok = impl.ThresholdSites(f, r)
	if ok != (len(sites) > 0) || !slices.Equal(got, sites) {
		t.Errorf("ThresholdSites of %q for %d = %v, %v; want %v", textOf(f), r, got, ok, sites)
	}
}

// The clients of these Fields are on a line, at two places, or both at the last site first.
const (
	onLine   = "0 0 0 / 0 5 9 / 4 1 5 / 5 0 4 / 9 4 0"
	atEnds   = "0 0 0 / 0 9 9 / 1 9 9 / 9 9 0"
	backward = "0 0 0 / 9 9 0 / 0 9 9"
)

func TestP5GapsByHand(t *testing.T) {
	for _, c := range []struct {
		field     string
		i, j, gap int
	}{
		{"4 3 / 1 5 / 6 2", 0, 1, 7}, {"4 3 / 1 5 / 6 2", 0, 0, 0}, {"4 3 / 1 5 / 6 2", 1, 1, 0},
		{"5 / 9", 0, 0, 0}, {"5 / 9 / 3", 0, 1, 12}, {"0 / 99 / 99", 0, 1, 198}, {"0 / 99 / 99", 1, 1, 0}, {"0 / 0 / 0", 0, 1, 0}, {"0 / 0 / 99", 0, 1, 99}, // a client has no gap to itself, far as it is from all sites
		{"0 0 / 99 99 / 99 99", 0, 1, 198}, {"0 0 / 99 98 / 99 99", 0, 1, 197}, {"0 0 / 0 0 / 0 0", 0, 1, 0}, {"0 0 0 / 5 5 5 / 5 5 5", 0, 1, 10}, {"0 0 / 0 9 / 0 9", 0, 1, 0}, {"0 0 / 0 9 / 9 0", 0, 1, 9},
		{"0 0 0 / 9 1 9 / 9 2 0", 0, 1, 3}, {"0 0 0 / 9 1 9 / 9 20 0", 0, 1, 9}, {"0 0 0 / 1 9 9 / 1 9 9", 0, 1, 2}, {"0 0 0 / 9 9 1 / 9 9 1", 0, 1, 2}, // by the first site, one in the middle and the last one
		{between, 0, 1, 8}, {three, 0, 1, 11}, {three, 0, 2, 11}, {three, 0, 3, 7}, {three, 2, 3, 7}, {three, 3, 3, 0}, {doubled, 0, 1, 10}, {ring, 0, 1, 2}, {ringOf0, 1, 2, 0},
		{onLine, 0, 1, 4}, {onLine, 0, 2, 5}, {onLine, 0, 3, 9}, {onLine, 1, 2, 1}, {onLine, 1, 3, 5}, {onLine, 2, 3, 4}, {apart, 0, 6, 99}, {apart, 3, 4, 99}, {apart, 6, 6, 0},
	} {
		checkGapOf(t, fieldOf(c.field), c.i, c.j, c.gap)
	}
}

// The clients and sites of this test, for k of 1 and more, were worked out by hand.
func TestP5FarthestByHand(t *testing.T) {
	for _, c := range []struct {
		field   string
		clients []int // those for all sites; the first k are those for k
		sites   [][]int
	}{
		{"4 3 / 1 5 / 6 2", []int{0, 1}, [][]int{{0}, {0, 1}}},
		{"5", nil, [][]int{{0}}}, {"5 6 7", nil, [][]int{{0}, {0}, {0}}}, // no clients
		{"5 / 9", []int{0}, [][]int{{0}}}, {"5 / 9 / 3", []int{0}, [][]int{{0}}}, {"0 / 0 / 99", []int{0}, [][]int{{0}}}, // one site
		{"0 0 0 / 5 5 5", []int{0}, [][]int{{0}, {0}, {0}}}, {"0 0 0 / 5 3 3", []int{0}, [][]int{{1}, {1}, {1}}}, {"0 0 0 / 9 9 0", []int{0}, [][]int{{2}, {2}, {2}}}, // more sites than clients
		{"0 0 0 / 0 0 0 / 0 0 0 / 0 0 0", []int{0, 1, 2}, [][]int{{0}, {0}, {0}}}, {"0 0 0 / 5 5 5 / 5 5 5 / 5 5 5", []int{0, 1, 2}, [][]int{{0}, {0}, {0}}}, // the same gaps
		{"0 0 0 0 / 0 9 9 9 / 0 9 9 9 / 0 9 9 9 / 9 9 9 0", []int{0, 3, 1, 2}, [][]int{{0}, {0, 3}, {0, 3}, {0, 3}}}, // gaps of 0 at the end
		{onLine, []int{0, 3, 1}, [][]int{{0}, {0, 2}, {0, 1, 2}}}, {atEnds, []int{0, 2, 1}, [][]int{{0}, {0, 2}, {0, 2}}}, {backward, []int{0, 1}, [][]int{{2}, {0, 2}, {0, 2}}},
		{three, []int{0, 1, 2}, [][]int{{0}, {0, 1}, {0, 1, 2}}}, {between, []int{0, 1}, [][]int{{1}, {1, 2}, {1, 2}}}, {doubled, []int{0, 1}, [][]int{{0}, {0, 1}, {0, 1}, {0, 1}}},
		{twins, []int{0, 2}, [][]int{{0}, {0, 1}}}, {star, []int{0, 1}, [][]int{{0}, {0}}}, {ring, []int{0, 1, 2}, [][]int{{0}, {0}, {0, 1}}},
		{apart, []int{0, 1, 2, 3, 4, 5, 6}, [][]int{{0}, {0, 1}, {0, 1, 2}, {0, 1, 2, 3}, {0, 1, 2, 3, 4}, {0, 1, 2, 3, 4, 5}, {0, 1, 2, 3, 4, 5, 6}}},
	} {
		for fewer, sites := range c.sites {
			checkFarthest(t, fieldOf(c.field), fewer+1, c.clients[:min(fewer+1, len(c.clients))], sites)
		}
	}
}

// The clients and sites of this test were worked out by hand.
func TestP5ThresholdByHand(t *testing.T) {
	all := []int{0, 1, 2, 3, 4, 5, 6}
	for _, c := range []struct {
		field          string
		r              int
		clients, sites []int
	}{
		{"4 3 / 1 5 / 6 2", 0, []int{0, 1}, nil}, {"4 3 / 1 5 / 6 2", 1, []int{0, 1}, nil}, {"4 3 / 1 5 / 6 2", 2, []int{0, 1}, []int{0, 1}}, {"4 3 / 1 5 / 6 2", 4, []int{0, 1}, []int{0, 1}}, {"4 3 / 1 5 / 6 2", 5, []int{0}, []int{0}}, {"4 3 / 1 5 / 6 2", math.MaxInt, []int{0}, []int{0}},
		{"5", 0, nil, []int{0}}, {"5 6 7", 0, nil, []int{0}}, {"5 6 7", math.MaxInt, nil, []int{0}}, // no clients
		{"5 / 9", 8, []int{0}, nil}, {"5 / 9", 9, []int{0}, []int{0}}, {"0 / 0", 0, []int{0}, []int{0}}, {"5 / 9 / 3", 3, []int{0, 1}, nil}, {"5 / 9 / 3", 8, []int{0, 1}, nil}, {"5 / 9 / 3", 9, []int{0}, []int{0}}, // one site
		{"0 / 99", 98, []int{0}, nil}, {"0 / 99", 99, []int{0}, []int{0}}, {"0 / 99", 100, []int{0}, []int{0}}, {"0 0 / 0 0 / 0 0", 0, []int{0}, []int{0}}, {"0 0 0 / 5 5 5 / 5 5 5", 4, []int{0, 1}, nil}, {"0 0 0 / 5 5 5 / 5 5 5", 5, []int{0}, []int{0}},
		{"0 0 0 / 5 3 3", 2, []int{0}, nil}, {"0 0 0 / 5 3 3", 3, []int{0}, []int{1}}, {"0 0 0 / 5 3 3", 5, []int{0}, []int{1}}, // the nearest site, not the first near one
		{between, 0, []int{0, 1}, []int{1, 2}}, {between, 3, []int{0, 1}, []int{1, 2}}, {between, 4, []int{0}, []int{1}}, {backward, 0, []int{0, 1}, []int{0, 2}}, {backward, 9, []int{0}, []int{2}},
		{star, 0, []int{0}, []int{0}}, {star, 9, []int{0}, []int{0}}, {loose, 0, []int{0}, []int{0}}, {twins, 0, []int{0, 2}, []int{0, 1}}, {ringOf0, 0, []int{0}, []int{0}}, {ring, 0, []int{0, 1, 2}, nil}, {ring, 1, []int{0}, []int{0}}, // those for which later ones are not far
		{"0 0 / 0 9 / 0 0 / 9 0", 0, []int{0, 2}, []int{0, 1}}, // far from those that are kept, though not from one that is not
		{three, 0, []int{0, 1, 2, 3}, nil}, {three, 4, []int{0, 1, 2, 3}, nil}, {three, 5, []int{0, 1, 2}, []int{0, 1, 2}}, {three, 8, []int{0, 1, 2}, []int{0, 1, 2}}, {three, 9, []int{0}, []int{0}},
		{remote, 0, []int{0, 1}, nil}, {remote, 8, []int{0, 1}, nil}, {remote, 9, []int{0}, []int{0}}, {"0 0 / 9 9 / 0 9", 8, []int{0, 1}, nil}, {"0 0 0 / 0 0 9 / 0 9 9 / 9 5 9", 4, []int{0, 2}, nil}, {"0 0 0 / 0 0 9 / 0 9 9 / 9 5 9", 5, []int{0}, []int{0}},
		{apart, 0, all, all}, {apart, 98, all, all}, {apart, 99, []int{0}, []int{0}}, {apart, math.MaxInt, []int{0}, []int{0}},
	} {
		checkThreshold(t, fieldOf(c.field), c.r, c.clients, c.sites)
	}
}

func TestP5GapsOfManyFields(t *testing.T) {
	for _, list := range [][]impl.Field{manyFields(1), midFields(100), placeFields(40), smallFields(1, 2, 4), smallFields(2, 2, 2)} {
		for _, f := range list {
			for i := range f.Dist {
				for j := range f.Dist {
					checkGapOf(t, f, i, j, gapModel(f, i, j))
				}
			}
		}
	}
}

func TestP5FarthestAndThresholdOfManyFields(t *testing.T) {
	for _, list := range [][]impl.Field{manyFields(1), sparseFields()[:100], midFields(150), placeFields(80), smallFields(1, 2, 4), smallFields(2, 1, 4), smallFields(2, 2, 2), smallFields(3, 2, 1)} {
		for _, f := range list {
			order := farthestModel(f)
			for k := 1; k <= len(f.Open); k++ {
				clients := order[:min(k, len(order))]
				checkFarthest(t, f, k, clients, nearestModel(f, clients))
			}
			for _, r := range radiiFor(f) {
				clients, sites := thresholdModel(f, r), []int{}
				if allNearModel(f, r) {
					sites = nearestModel(f, clients)
				}
				checkThreshold(t, f, r, clients, sites)
			}
		}
	}
}

// The rest of this file tells guarantees of the program's own results alone.

func TestP5FarthestSitesAreWithinThreeTimesCentreReach(t *testing.T) {
	for _, f := range slices.Concat(metricFields(), placeFields(300), []impl.Field{fieldOf(ring)}) {
		for k := 1; k <= len(f.Open); k++ {
			sites, one := impl.FarthestSites(f, k)
			reach, two := impl.ReachOf(f, sites)
			least, three := impl.CentreReach(f, k)
			if !one || !two || !three || len(sites) > k || reach > 3*least {
				t.Fatalf("FarthestSites of %q for %d = %v, %v; their reach is %d, and CentreReach %d", textOf(f), k, sites, one, reach, least)
			}
		}
	}
}

func TestP5ThresholdSitesAreWithinThreeTimesTheRadius(t *testing.T) {
	for _, f := range slices.Concat(manyFields(1), midFields(100), placeFields(150), metricFields()[:600], []impl.Field{fieldOf(ring)}) {
		metric, _ := impl.IsMetric(f)
		for _, r := range radiiFor(f) {
			cover, covers := impl.CoveringSites(f, r)
			sites, ok := impl.ThresholdSites(f, r)
			reach, _ := impl.ReachOf(f, sites)
			if ok != covers || len(sites) > len(cover) || ok && metric && r <= impl.MaxLength && reach > 3*r {
				t.Fatalf("ThresholdSites of %q for %d = %v, %v; their reach is %d, and CoveringSites %v, %v", textOf(f), r, sites, ok, reach, cover, covers)
			}
		}
	}
}

// No further client is far from all that are kept, so that their number lies
// between 1 and that of the most far clients.
func TestP5ThresholdClientsAreFarAndNoFurtherOneIs(t *testing.T) {
	for _, f := range append(manyFields(1), midFields(100)...) {
		for _, r := range radiiFor(f) {
			kept, one := impl.ThresholdClients(f, r)
			far, two := impl.AreFarClients(f, kept, r)
			most, three := impl.LargestFar(f, r)
			if !one || !two || !three || !far || len(kept) > len(most) {
				t.Fatalf("ThresholdClients of %q for %d = %v, %v; they are far: %v, %v, and LargestFar is %v", textOf(f), r, kept, one, far, two, most)
			}
			for client := range f.Dist {
				longer := append(slices.Clone(kept), client)
				slices.Sort(longer)
				if far, ok := impl.AreFarClients(f, longer, r); ok && far {
					t.Fatalf("ThresholdClients of %q for %d = %v, though %v are far", textOf(f), r, kept, longer)
				}
			}
		}
	}
}
