package tests

import (
	"slices"
	"testing"

	"loop.example/g01110/impl"
)

func checkBestGain(t *testing.T, p prize, k int, want []int) {
	t.Helper()
	got, ok := impl.BestGain(p.f, p.worth, k)
	checkGainList(t, "BestGain", p, []int{k}, got, ok, want)
}

// checkGreedyGain takes the sites of GreedyGain and LazyGain, and how many marginal gains are told lazily.
func checkGreedyGain(t *testing.T, p prize, k int, want []int, count int) {
	t.Helper()
	got, ok := impl.GreedyGain(p.f, p.worth, k)
	checkGainList(t, "GreedyGain", p, []int{k}, got, ok, want)
	got, told, ok := impl.LazyGain(p.f, p.worth, k)
	checkGainList(t, "LazyGain", p, []int{k}, got, ok, want)
	checkGainCall(t, "LazyGain", p, []int{k}, told, ok, count, true)
}

func checkUpper(t *testing.T, p prize, set []int, k, want int) {
	t.Helper()
	got, ok := impl.UpperGain(p.f, p.worth, set, k)
	checkGainCall(t, "UpperGain for "+listOf([]int{k}), p, set, got, ok, want, true)
}

func checkLeastUpper(t *testing.T, p prize, k, want int) {
	t.Helper()
	got, ok := impl.LeastUpper(p.f, p.worth, k)
	checkGainCall(t, "LeastUpper", p, []int{k}, got, ok, want, true)
}

// ofGains has the Field with these gains for a worth of 10, whose opening costs do not count.
func ofGains(gains string) prize {
	f := gainsField("9 8 7 6 5 4 3", 10, gains)
	f.Open = f.Open[:len(f.Dist[0])]
	return prizeFor(f, 10)
}

// The sets of this test, for k of 0 and more, were worked out by hand; the last
// ones are those for all greater k, too.
func TestP8BestGainsByHand(t *testing.T) {
	for _, c := range []struct {
		p    prize
		sets [][]int
	}{
		{prizeOf(duo, 5), [][]int{nil, {0}, {0, 1}}}, {prizeOf(duo, 1), [][]int{nil, {0}}}, {prizeOf(duo, 0), [][]int{nil}}, {prizeOf(duo, 999), [][]int{nil, {0}, {0, 1}}}, {prizeOf(trio, 10), [][]int{nil, {0}, {0, 1}, {0, 1, 2}}},
		{prizeOf("5", 999), [][]int{nil}}, {prizeOf("0 0 0", 999), [][]int{nil}}, {prizeOf("0 0 / 5 5", 5), [][]int{nil}}, {prizeOf("7 / 0 / 99", 999), [][]int{nil, {0}}}, {prizeOf("7 / 9", 9), [][]int{nil}}, {prizeOf("7 / 9", 10), [][]int{nil, {0}}},
		{ofGains("4 4 / 1 1"), [][]int{nil, {0}}}, {ofGains("0 4 / 0 1"), [][]int{nil, {1}}}, {ofGains("4 4 0 / 1 1 0"), [][]int{nil, {0}}}, {ofGains("0 4 4 / 0 1 1"), [][]int{nil, {1}}}, {ofGains("0 2 1"), [][]int{nil, {1}}}, // of the same gain, fewer sites come first
		{ofGains("4 0 4 / 0 4 0"), [][]int{nil, {0}, {0, 1}}}, {ofGains("4 4 0 / 0 0 4"), [][]int{nil, {0}, {0, 2}}}, {ofGains("4 0 0 / 0 4 4"), [][]int{nil, {0}, {0, 1}}}, {ofGains("0 0 4 / 4 4 4"), [][]int{nil, {2}}}, {ofGains("3 0 0 4 / 0 3 4 0"), [][]int{nil, {2}, {2, 3}}}, {ofGains("0 4 4 0 / 0 4 0 4 / 0 1 2 0"), [][]int{nil, {1}, {1, 2}}}, // and then the lexicographically first one
		{ofGains("5 0 3 / 5 0 3 / 0 5 3 / 0 5 3"), [][]int{nil, {2}, {0, 1}}}, {ofGains("6 0 4 / 0 6 4"), [][]int{nil, {2}, {0, 1}}}, // without the best site
		{ofGains("9 0 0 0 0 0 0 / 0 8 0 0 0 0 0 / 0 0 7 0 0 0 0 / 0 0 0 6 0 0 0 / 0 0 0 0 5 0 0 / 0 0 0 0 0 4 0 / 0 0 0 0 0 0 3"), [][]int{nil, {0}, {0, 1}, {0, 1, 2}, {0, 1, 2, 3}, {0, 1, 2, 3, 4}, {0, 1, 2, 3, 4, 5}, {0, 1, 2, 3, 4, 5, 6}}},
	} {
		for k := range impl.MaxSites + 1 {
			checkBestGain(t, c.p, k, c.sets[min(k, len(c.sets)-1)])
		}
	}
}

// The sites and the counts of this test, for k of 0 and more, were worked out by
// hand; the last ones are those for all greater k, too.
func TestP8GreedyGainsByHand(t *testing.T) {
	for _, c := range []struct {
		p      prize
		sites  []int
		counts []int
	}{
		{prizeOf(duo, 5), []int{0, 1}, []int{2, 2, 3}}, {prizeOf(duo, 0), nil, []int{2}}, {prizeOf(duo, 1), []int{0}, []int{2}}, {prizeOf(duo, 2), []int{0, 1}, []int{2, 2, 3}}, {prizeOf(trio, 10), []int{0, 1, 2}, []int{3, 3, 5, 6}},
		{prizeOf("5", 7), nil, []int{1}}, {prizeOf("0 0 0", 999), nil, []int{3}}, {prizeOf("7 / 0 / 99", 999), []int{0}, []int{1}}, {prizeOf("7 / 9", 9), nil, []int{1}}, {prizeOf("0 0 0 0 0 0 0 / 99 99 99 99 99 99 99", 99), nil, []int{7}}, // nothing to gain
		{ofGains("4 0"), []int{0}, []int{2}}, {ofGains("0 4"), []int{1}, []int{2}}, {ofGains("4 0 0 / 4 0 0"), []int{0}, []int{3}}, // what gains 0 at first is not told anew
		{ofGains("4 4"), []int{0}, []int{2, 2, 3}}, {ofGains("4 4 4 4"), []int{0}, []int{4, 4, 7}}, {ofGains("4 4 0 4"), []int{0}, []int{4, 4, 6}}, {ofGains("5 2 / 0 3 / 1 0"), []int{0, 1}, []int{2, 2, 3}}, {ofGains("3 4 4"), []int{1}, []int{3, 3, 5}}, // what gains 0 then has been told anew
		{ofGains("4 0 / 0 4"), []int{0, 1}, []int{2, 2, 3}}, {ofGains("4 0 0 / 0 4 0 / 0 0 4"), []int{0, 1, 2}, []int{3, 3, 4, 5}}, {ofGains("3 0 0 / 0 5 0 / 0 0 4"), []int{1, 2, 0}, []int{3, 3, 4, 5}}, // each one stays the greatest
		{ofGains("9 0 1 / 0 9 1 / 0 0 2"), []int{0, 1, 2}, []int{3, 3, 4, 5}}, {ofGains("9 0 5 / 0 2 0"), []int{0, 1}, []int{3, 3, 5}}, {ofGains("9 0 5 / 0 2 0 / 0 0 1"), []int{0, 1, 2}, []int{3, 3, 5, 6}}, // less than the next one, or not
		{ofGains("2 0 8 / 4 0 0 / 0 4 0"), []int{2, 0, 1}, []int{3, 3, 4, 5}}, {ofGains("0 2 8 / 0 4 0 / 4 0 0"), []int{2, 0, 1}, []int{3, 3, 5, 6}}, {ofGains("8 2 0 / 0 4 0 / 0 0 4"), []int{0, 1, 2}, []int{3, 3, 4, 5}}, {ofGains("8 0 2 / 0 4 0 / 0 0 4"), []int{0, 1, 2}, []int{3, 3, 5, 6}}, // the same as the next one, which has a greater number, or a less one
		{ofGains("6 6 0 / 0 6 6 / 6 0 6"), []int{0, 1}, []int{3, 3, 5, 6}}, {ofGains("1 1 0 0 / 1 0 1 0 / 0 1 0 1 / 0 0 1 1"), []int{0, 3}, []int{4, 4, 7, 9}}, {ofGains("6 0 4 / 0 6 4"), []int{2, 0, 1}, []int{3, 3, 5, 6}},
	} {
		for k := range impl.MaxSites + 1 {
			checkGreedyGain(t, c.p, k, c.sites[:min(k, len(c.sites))], c.counts[min(k, len(c.counts)-1)])
		}
	}
}

// The numbers of this test, for k of 0 and more, were worked out by hand; the
// last ones are those for all greater k, too.
func TestP8UpperGainsByHand(t *testing.T) {
	for _, c := range []struct {
		p      prize
		set    []int
		uppers []int
	}{
		{prizeOf(duo, 5), nil, []int{0, 8, 16}}, {prizeOf(duo, 5), []int{0}, []int{8, 12}}, {prizeOf(duo, 5), []int{1}, []int{8, 12}}, {prizeOf(duo, 5), []int{0, 1}, []int{12}}, {prizeOf(duo, 0), nil, []int{0}}, {prizeOf(duo, 0), []int{1}, []int{0}},
		{prizeOf(trio, 10), nil, []int{0, 11, 21, 30}}, {prizeOf(trio, 10), []int{0}, []int{11, 18, 24}}, {prizeOf(trio, 10), []int{1}, []int{10, 18, 24}}, {prizeOf(trio, 10), []int{2}, []int{9, 17, 24}}, {prizeOf(trio, 10), []int{0, 1}, []int{18, 24}}, {prizeOf(trio, 10), []int{1, 2}, []int{16, 24}}, {prizeOf(trio, 10), []int{0, 1, 2}, []int{24}},
		{prizeOf("5", 999), nil, []int{0}}, {prizeOf("5", 999), []int{0}, []int{0}}, {prizeOf("7 / 0 / 99", 100), nil, []int{0, 101}}, {prizeOf("7 / 0 / 99", 100), []int{0}, []int{101}},
		{ofGains("4 4 4 4"), nil, []int{0, 4, 8, 12, 16}}, {ofGains("4 4 4 4"), []int{2}, []int{4}}, {ofGains("4 1 0 2 / 0 3 0 3"), nil, []int{0, 5, 9, 13}}, {ofGains("4 1 0 2 / 0 3 0 3"), []int{0}, []int{4, 7, 10}}, {ofGains("4 1 0 2 / 0 3 0 3"), []int{1}, []int{4, 7, 8}}, {ofGains("4 1 0 2 / 0 3 0 3"), []int{2, 3}, []int{5, 7}},
	} {
		for k := range impl.MaxSites + 1 {
			checkUpper(t, c.p, c.set, k, c.uppers[min(k, len(c.uppers)-1)])
		}
	}
	for _, c := range []struct {
		p      prize
		uppers []int
	}{
		{prizeOf(duo, 5), []int{0, 8, 12}}, {prizeOf(trio, 10), []int{0, 11, 21, 24}}, {prizeOf(duo, 0), []int{0}}, {prizeOf("5", 999), []int{0}}, {prizeOf("7 / 0 / 99", 100), []int{0, 101}},
		{ofGains("4 4 4 4"), []int{0, 4}}, {ofGains("6 0 4 / 0 6 4"), []int{0, 8, 12}}, {ofGains("6 6 0 / 0 6 6 / 6 0 6"), []int{0, 12, 18}}, {ofGains("9 0 5 / 0 2 0"), []int{0, 9, 11}}, // of no sites, of some, and of all
		{ofGains("5 5 0 / 5 0 0 / 0 0 4"), []int{0, 10, 14}}, {ofGains("1 1 0 0 / 1 0 1 0 / 0 1 0 1 / 0 0 1 1"), []int{0, 2, 4}},
	} {
		for k := range impl.MaxSites + 1 {
			checkLeastUpper(t, c.p, k, c.uppers[min(k, len(c.uppers)-1)])
		}
	}
}

func TestP8GreedyGainsOfManyFields(t *testing.T) {
	for _, p := range manyPrizes(2) {
		for k := range impl.MaxSites + 1 {
			checkBestGain(t, p, k, p.best(isOfSize(k)))
			sites, count := p.lazy(k)
			checkGreedyGain(t, p, k, sites, count)
			if want := p.greedy(isOfSize(k)); !slices.Equal(sites, want) {
				t.Fatalf("the lazy sites of %s for %d are %v; the greedy ones are %v", p.text(), k, sites, want)
			}
		}
	}
}

func TestP8UpperGainsOfManyFields(t *testing.T) {
	n := &numbers{state: 97}
	for _, p := range manyPrizes(1) {
		for k := range impl.MaxSites + 1 {
			checkLeastUpper(t, p, k, p.leastUpper(k))
			for _, set := range [][]int{nil, n.setFrom(len(p.f.Open)), n.setFrom(len(p.f.Open)), allBelow(len(p.f.Open))} {
				checkUpper(t, p, set, k, p.upper(set, k))
			}
		}
	}
}

// The rest of this file tells guarantees of the program's own results alone.

func gainOfSites(t *testing.T, p prize, sites []int) int {
	t.Helper()
	gain, ok := impl.GainOf(p.f, p.worth, sortedSet(sites))
	if !ok {
		t.Fatalf("GainOf of %s for %v fails", p.text(), sites)
	}
	return gain
}

func TestP8NoSetGainsMoreThanItsBounds(t *testing.T) {
	n := &numbers{state: 98}
	for _, p := range manyPrizes(1) {
		for k := range len(p.f.Open) + 1 {
			best, one := impl.BestGain(p.f, p.worth, k)
			least, two := impl.LeastUpper(p.f, p.worth, k)
			set := n.setFrom(len(p.f.Open))
			upper, three := impl.UpperGain(p.f, p.worth, set, k)
			greatest := gainOfSites(t, p, best)
			if !one || !two || !three || len(best) > k || least < greatest || upper < greatest {
				t.Fatalf("BestGain of %s for %d = %v; LeastUpper is %d, and UpperGain for %v is %d", p.text(), k, best, least, set, upper)
			}
			for _, other := range setsModel(len(p.f.Open)) {
				if len(other) <= k && gainOfSites(t, p, other) > greatest {
					t.Fatalf("BestGain of %s for %d = %v; %v gains more", p.text(), k, best, other)
				}
			}
		}
	}
}

func power(n, k int) int {
	if k == 0 {
		return 1
	}
	return n * power(n, k-1)
}

func TestP8GreedyGainIsWithinItsShare(t *testing.T) {
	for _, p := range manyPrizes(4) {
		for k := 1; k <= impl.MaxSites; k++ {
			best, one := impl.BestGain(p.f, p.worth, k)
			greedy, two := impl.GreedyGain(p.f, p.worth, k)
			all := power(k, k)
			if !one || !two || len(greedy) > k || all*gainOfSites(t, p, greedy) < (all-power(k-1, k))*gainOfSites(t, p, best) {
				t.Fatalf("GreedyGain of %s for %d = %v, %v; BestGain is %v, %v", p.text(), k, greedy, two, best, one)
			}
		}
	}
}

// Each site of GreedyGain gains at most what the one before it has gained, and no site that is left gains more.
func TestP8GreedySitesAreTheNextBestOnes(t *testing.T) {
	for _, p := range manyPrizes(1) {
		sites, ok := impl.GreedyGain(p.f, p.worth, impl.MaxSites)
		before := 7000
		for place, site := range sites {
			taken := sortedSet(sites[:place])
			gain, one := impl.MarginalGain(p.f, p.worth, taken, site)
			if !ok || !one || gain > before || gain == 0 {
				t.Fatalf("GreedyGain of %s = %v, %v; MarginalGain of %d is %d, %v", p.text(), sites, ok, site, gain, one)
			}
			for _, other := range othersModel(p.f, taken) {
				if more, _ := impl.MarginalGain(p.f, p.worth, taken, other); more > gain || more == gain && other < site {
					t.Fatalf("GreedyGain of %s = %v; for %v, %d gains %d, and %d gains %d", p.text(), sites, taken, site, gain, other, more)
				}
			}
			before = gain
		}
		for k := range impl.MaxSites + 1 { // for less k, it is the beginning
			fewer, ok := impl.GreedyGain(p.f, p.worth, k)
			checkGainList(t, "GreedyGain", p, []int{k}, fewer, ok, sites[:min(k, len(sites))])
		}
		if all := gainOfSites(t, p, allBelow(len(p.f.Open))); gainOfSites(t, p, sites) != all {
			t.Fatalf("GreedyGain of %s = %v; all sites gain %d", p.text(), sites, all)
		}
	}
}
