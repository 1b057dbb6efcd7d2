package tests

import (
	"slices"
	"testing"

	"loop.example/g01110/impl"
)

func checkMost(t *testing.T, s impl.System, k int, want []int) {
	t.Helper()
	got, ok := impl.MostCovered(s, k)
	checkOfSystem(t, "MostCovered for "+listOf([]int{k}), s, got, ok, want, true)
}

func checkCoverage(t *testing.T, s impl.System, k int, want []int) {
	t.Helper()
	got, ok := impl.GreedyCoverage(s, k)
	checkOfSystem(t, "GreedyCoverage for "+listOf([]int{k}), s, got, ok, want, true)
}

func checkReachSystem(t *testing.T, f impl.Field, r int, want impl.System) {
	t.Helper()
	got, ok := impl.ReachSystem(f, r)
	checkSystem(t, "ReachSystem of "+textOf(f)+" for "+listOf([]int{r}), got, ok, want)
}

// The choices of this test, for k of 0 and more, were worked out by hand; the
// last ones are those for all greater k, too.
func TestP6CoverageByHand(t *testing.T) {
	for _, c := range []struct {
		system       string
		most, greedy [][]int
	}{
		{chain, [][]int{nil, {0}, {0, 1}}, [][]int{nil, {0}, {0, 1}}},
		{"0", [][]int{nil}, [][]int{nil}}, {"8", [][]int{nil}, [][]int{nil}}, {"0 / 5 / 5", [][]int{nil}, [][]int{nil}}, {"3 / 5", [][]int{nil}, [][]int{nil}}, // no set has an element
		{"1 / 99 0", [][]int{nil, {0}}, [][]int{nil, {0}}}, {"2 / 1 / 1 0 / 1 0 1", [][]int{nil, {2}}, [][]int{nil, {2}}}, {"2 / 99 0 1 / 1 0", [][]int{nil, {0}}, [][]int{nil, {0}}}, // costs do not count
		{"2 / 1 0 / 1 1", [][]int{nil, {0}, {0, 1}}, [][]int{nil, {0}, {0, 1}}}, {"2 / 1 1 / 1 0", [][]int{nil, {0}, {0, 1}}, [][]int{nil, {0}, {0, 1}}}, {"2 / 1 0 1 / 1 0 1", [][]int{nil, {0}}, [][]int{nil, {0}}}, // sets that are the same
		{"4 / 1 0 / 1 0 1 / 1 2 3 / 1 3", [][]int{nil, {1}, {1, 2}}, [][]int{nil, {1}, {1, 2}}}, {"4 / 1 3 / 1 0 / 1 0 1 2", [][]int{nil, {2}, {0, 2}}, [][]int{nil, {2}, {2, 0}}},
		{"8 / 1 0 / 1 0 1 / 1 0 1 2", [][]int{nil, {2}}, [][]int{nil, {2}}}, {"8 / 1 7 / 1 0 1 / 1 2 3 4", [][]int{nil, {2}, {1, 2}, {0, 1, 2}}, [][]int{nil, {2}, {2, 1}, {2, 1, 0}}}, // elements that are in no set
	} {
		s := systemOf(c.system)
		for k := range impl.MaxSystem + 1 {
			checkMost(t, s, k, c.most[min(k, len(c.most)-1)])
			checkCoverage(t, s, k, c.greedy[min(k, len(c.greedy)-1)])
		}
	}
	// The best choice of two sets does not begin with the best set.
	crossed := systemOf("6 / 1 0 1 2 / 1 3 4 5 / 1 1 2 3 4")
	for k := 2; k <= impl.MaxSystem; k++ {
		checkMost(t, crossed, k, []int{0, 1})
		checkCoverage(t, crossed, k, []int{2, 0, 1}[:min(k, 3)])
	}
	single := systemOf("8 / 1 0 / 1 1 / 1 2 / 1 3 / 1 4 / 1 5 / 1 6 / 1 7")
	for k := range impl.MaxSystem + 1 {
		checkMost(t, single, k, allBelow(k))
		checkCoverage(t, single, k, allBelow(k))
	}
}

func TestP6CoverageOfManySystems(t *testing.T) {
	for _, s := range slices.Concat(manySystems(2), allSmallSystems()) {
		for k := range impl.MaxSystem + 1 {
			checkMost(t, s, k, mostModel(s, k))
			checkCoverage(t, s, k, coverageModel(s, k))
		}
	}
}

func TestP6ReachSystemsByHand(t *testing.T) {
	for _, c := range []struct {
		field  string
		r      int
		system string
	}{
		{"3 1 / 0 4 / 5 1 / 2 2", 0, "3 / 1 0 / 1"}, {"3 1 / 0 4 / 5 1 / 2 2", 1, "3 / 1 0 / 1 1"}, {"3 1 / 0 4 / 5 1 / 2 2", 2, "3 / 1 0 2 / 1 1 2"}, {"3 1 / 0 4 / 5 1 / 2 2", 3, "3 / 1 0 2 / 1 1 2"},
		{"3 1 / 0 4 / 5 1 / 2 2", 4, "3 / 1 0 2 / 1 0 1 2"}, {"3 1 / 0 4 / 5 1 / 2 2", 5, "3 / 1 0 1 2 / 1 0 1 2"}, {"3 1 / 0 4 / 5 1 / 2 2", 99, "3 / 1 0 1 2 / 1 0 1 2"},
		{"5", 0, "0 / 1"}, {"5", 99, "0 / 1"}, {"0 99 7", 50, "0 / 1 / 1 / 1"}, // no clients
		{"0 / 99 / 98", 0, "2 / 1"}, {"0 / 99 / 98", 97, "2 / 1"}, {"0 / 99 / 98", 98, "2 / 1 1"}, {"0 / 99 / 98", 99, "2 / 1 0 1"}, {"9 9 / 0 99", 0, "1 / 1 0 / 1"}, {"9 9 / 99 0", 98, "1 / 1 / 1 0"}, // sites that reach no client
		{"0 0 0 / 0 0 0 / 0 0 0", 0, "2 / 1 0 1 / 1 0 1 / 1 0 1"},
	} {
		checkReachSystem(t, fieldOf(c.field), c.r, systemOf(c.system))
	}
}

func TestP6ReachSystemsOfManyFields(t *testing.T) {
	for _, f := range slices.Concat(manyFields(1), sparseFields()[:60], midFields(60)) {
		for _, r := range []int{0, 1, 2, 5, 9, 39, 40, 49, 50, 98, 99} {
			checkReachSystem(t, f, r, reachSystemModel(f, r))
		}
	}
}

// The rest of this file tells guarantees of the program's own results alone.

func TestP6MostCoveredIsNotExceeded(t *testing.T) {
	for _, s := range slices.Concat(manySystems(1), smallSystems(3, 2, 3), smallSystems(2, 3, 2)) {
		for k := range impl.MaxSystem + 1 {
			most, one := impl.MostCovered(s, k)
			covered, two := impl.CoveredBy(s, most)
			if !one || !two || len(most) > k {
				t.Fatalf("MostCovered of %s for %d = %v, %v", systemText(s), k, most, one)
			}
			for _, choice := range setsModel(len(s.Sets)) {
				if other, _ := impl.CoveredBy(s, choice); len(choice) <= k && len(other) > len(covered) {
					t.Fatalf("MostCovered of %s for %d = %v; %v covers more", systemText(s), k, most, choice)
				}
			}
		}
	}
}

// A greedy choice of k sets misses at most (1-1/k) to the power of k of what a
// best one covers, which is less than 37/100 for all k.
func TestP6GreedyCoverageIsWithinItsShare(t *testing.T) {
	for _, s := range slices.Concat(manySystems(4), allSmallSystems()) {
		for k := range impl.MaxSystem + 1 {
			most, one := impl.MostCovered(s, k)
			greedy, two := impl.GreedyCoverage(s, k)
			best, _ := impl.CoveredBy(s, most)
			covered, three := impl.CoveredBy(s, slices.Sorted(slices.Values(greedy)))
			if !one || !two || !three || len(greedy) > k || 100*len(covered) < 63*len(best) {
				t.Fatalf("GreedyCoverage of %s for %d = %v, %v; MostCovered is %v, %v", systemText(s), k, greedy, two, most, one)
			}
		}
	}
}

// With as many sets as there are, a System with one cost for all has a cover as
// the greedy coverage, and the fewest sets of a cover are those of LeastCover.
func TestP6CoverageOfAllElementsIsACover(t *testing.T) {
	for _, s := range slices.Concat(manySystems(2), allSmallSystems()) {
		for set := range s.Costs {
			s.Costs[set] = 7
		}
		least, one := impl.LeastCover(s)
		cover, two := impl.GreedyCover(s)
		greedy, three := impl.GreedyCoverage(s, impl.MaxSystem)
		most, four := impl.MostCovered(s, impl.MaxSystem)
		if !three || !four || one != two || one && (!slices.Equal(greedy, cover) || !slices.Equal(most, least)) {
			t.Fatalf("GreedyCoverage of %s = %v and MostCovered %v; GreedyCover is %v, %v, and LeastCover %v, %v", systemText(s), greedy, most, cover, two, least, one)
		}
	}
}

// Covers of a ReachSystem are the sets of sites that cover a radius.
func TestP6CoversOfReachSystemsAreCoveringSites(t *testing.T) {
	for _, f := range slices.Concat(manyFields(1), midFields(100), placeFields(60)) {
		for _, r := range radiiFor(f) {
			if r > impl.MaxLength || len(f.Dist) == 0 {
				continue
			}
			s, one := impl.ReachSystem(f, r)
			cover, two := impl.LeastCover(s)
			sites, three := impl.CoveringSites(f, r)
			if !one || two != three || !slices.Equal(cover, sites) {
				t.Fatalf("LeastCover of ReachSystem of %s for %d = %v, %v; CoveringSites are %v, %v", textOf(f), r, cover, two, sites, three)
			}
		}
	}
}

// Far clients are a packing of the turned ReachSystem, but for those that no site reaches.
func TestP6PackingsOfReachSystemsAreFarClients(t *testing.T) {
	for _, f := range slices.Concat(manyFields(1), midFields(100)) {
		for _, r := range radiiFor(f) {
			if r > impl.MaxLength {
				continue
			}
			s, _ := impl.ReachSystem(f, r)
			turned, one := impl.TurnSystem(s)
			packing, two := impl.LargestPacking(turned)
			far, three := impl.AreFarClients(f, packing, r)
			largest, four := impl.LargestFar(f, r)
			if !one || !two || !three || !four || !far || len(packing) > len(largest) || allNearModel(f, r) && !slices.Equal(packing, largest) {
				t.Fatalf("LargestPacking of the turned ReachSystem of %s for %d = %v, %v; LargestFar is %v, %v", textOf(f), r, packing, two, largest, four)
			}
		}
	}
}
