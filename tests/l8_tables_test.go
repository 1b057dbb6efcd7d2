package tests

import (
	"math"
	"slices"
	"testing"

	"loop.example/g01110/impl"
)

func checkTable(t *testing.T, n int, table []int, monotone, submodular bool) {
	t.Helper()
	if got, ok := impl.IsMonotone(n, table); !ok || got != monotone {
		t.Errorf("IsMonotone(%d, %v) = %v, %v; want %v", n, table, got, ok, monotone)
	}
	if got, ok := impl.IsSubmodular(n, table); !ok || got != submodular {
		t.Errorf("IsSubmodular(%d, %v) = %v, %v; want %v", n, table, got, ok, submodular)
	}
}

func checkNoTable(t *testing.T, n int, table []int) {
	t.Helper()
	if got, ok := impl.IsMonotone(n, table); ok || got {
		t.Errorf("IsMonotone(%d, %.60s) = %v, %v", n, listOf(table), got, ok)
	}
	if got, ok := impl.IsSubmodular(n, table); ok || got {
		t.Errorf("IsSubmodular(%d, %.60s) = %v, %v", n, listOf(table), got, ok)
	}
}

// sizeTable has for each set the number that stands at its size.
func sizeTable(bySize ...int) []int {
	table := []int{}
	for place := range 1 << (len(bySize) - 1) {
		table = append(table, bySize[len(listOfBits(uint(place)))])
	}
	return table
}

// changedTable has another number at a place.
func changedTable(table []int, place, number int) []int {
	changed := slices.Clone(table)
	changed[place] = number
	return changed
}

// The reports of this test were worked out by hand.
func TestP8TablesByHand(t *testing.T) {
	const most = 1000000
	for _, c := range []struct {
		n                    int
		table                []int
		monotone, submodular bool
	}{
		{0, []int{0}, true, true}, {0, []int{5}, true, true}, {0, []int{-1}, true, true}, {0, []int{most}, true, true}, {0, []int{-most}, true, true},
		{1, []int{0, 0}, true, true}, {1, []int{3, 4}, true, true}, {1, []int{4, 3}, false, true}, {1, []int{-most, most}, true, true}, {1, []int{most, -most}, false, true}, {1, []int{most, most - 1}, false, true}, {1, []int{-most, 1 - most}, true, true},
		{2, []int{0, 8, 8, 12}, true, true}, {2, []int{0, 8, 8, 16}, true, true}, {2, []int{0, 8, 8, 17}, true, false}, {2, []int{0, 8, 8, 8}, true, true}, {2, []int{0, 8, 8, 7}, false, true}, {2, []int{0, 8, 7, 7}, false, true}, {2, []int{0, 7, 8, 7}, false, true}, // just so, and by one not
		{2, []int{0, -1, 8, 8}, false, false}, {2, []int{0, -1, 8, 7}, false, true}, {2, []int{0, 8, -1, 7}, false, true}, {2, []int{8, 8, 8, 8}, true, true}, {2, []int{8, 8, 8, 9}, true, false}, {2, []int{9, 8, 8, 8}, false, false}, {2, []int{7, 8, 8, 8}, true, true}, {2, []int{9, 8, 8, 7}, false, true},
		{2, []int{-most, 0, 0, most}, true, true}, {2, []int{-most, -1, 0, most}, true, false}, {2, []int{most, most, most, most}, true, true}, {2, []int{-most, -most, -most, -most}, true, true}, {2, []int{-most, most, most, -most}, false, true}, {2, []int{most, -most, -most, most}, false, false}, {2, []int{-most, -most, -most, most}, true, false}, {2, []int{-most, most, most, most}, true, true},
		{3, []int{0, 11, 10, 18, 9, 17, 16, 24}, true, true}, {3, []int{0, 11, 10, 18, 9, 17, 16, 23}, true, true}, {3, []int{0, 11, 10, 18, 9, 17, 16, 25}, true, false}, {3, []int{0, 11, 10, 18, 9, 17, 16, 15}, false, true}, {3, []int{0, 11, 10, 18, 9, 17, 20, 24}, true, false},
		{3, sizeTable(0, 1, 2, 3), true, true}, {3, sizeTable(0, 1, 2, 4), true, false}, {3, sizeTable(0, 2, 3, 3), true, true}, {3, sizeTable(0, 2, 3, 2), false, true}, {3, sizeTable(0, 1, 3, 4), true, false}, {3, sizeTable(0, 3, 4, 6), true, false}, {3, sizeTable(3, 2, 1, 0), false, true}, {3, sizeTable(1, 0, 0, 0), false, false}, {3, sizeTable(1, 1, 1, 0), false, true},
		{7, make([]int, 128), true, true}, {7, slices.Repeat([]int{most}, 128), true, true}, {7, slices.Repeat([]int{-most}, 128), true, true}, {7, sizeTable(0, 7, 13, 18, 22, 25, 27, 28), true, true}, {7, sizeTable(0, 7, 13, 18, 22, 25, 27, 26), false, true}, {7, sizeTable(0, 7, 13, 18, 22, 25, 27, 30), true, false},
		{7, sizeTable(-most, most, most, most, most, most, most, most), true, true}, {7, sizeTable(-most, -most, -most, -most, -most, -most, -most, most), true, false}, {7, sizeTable(most, most, most, most, most, most, most, -most), false, true}, {7, sizeTable(0, 1, 2, 3, 4, 5, 6, 7), true, true},
	} {
		checkTable(t, c.n, c.table, c.monotone, c.submodular)
	}
}

// Numbers that are as they must be just so are not any more if one is less, or
// more, by one; at no place this is missed.
func TestP8TablesThatMissByOne(t *testing.T) {
	for n := 1; n <= impl.MaxSites; n++ {
		sum, same := []int{}, slices.Repeat([]int{5}, 1<<n) // of the sites, and the same for all sets
		for place := range 1 << n {
			sum = append(sum, 10*len(listOfBits(uint(place))))
		}
		last := 1<<n - 1
		for place := range 1 << n {
			size := len(listOfBits(uint(place)))
			isMiddle, isEnd := size <= 1 && n-size <= 1, place == 0 || place == last // for no two sets the part or the whole; never one of two sets
			checkTable(t, n, changedTable(sum, place, sum[place]+1), true, isMiddle)
			checkTable(t, n, changedTable(sum, place, sum[place]-1), true, isEnd)
			checkTable(t, n, changedTable(same, place, 6), place == last, isMiddle)
			checkTable(t, n, changedTable(same, place, 4), place == 0, isEnd)
		}
	}
}

// allTables gives all tables for n with numbers of 0 to a limit.
func allTables(n, most int) [][]int {
	list := [][]int{{}}
	for range 1 << n {
		longer := [][]int{}
		for _, table := range list {
			for number := range most + 1 {
				longer = append(longer, append(slices.Clone(table), number))
			}
		}
		list = longer
	}
	return list
}

func TestP8AllSmallTables(t *testing.T) {
	for _, tables := range [][][]int{allTables(0, 9), allTables(1, 9), allTables(2, 4), allTables(3, 2)} {
		for _, table := range tables {
			n := len(listOfBits(uint(len(table) - 1)))
			checkTable(t, n, table, monotoneModel(n, table), submodularModel(n, table))
		}
	}
}

// The tables of gains are both; each one that is nearly the same may be neither.
func TestP8TablesNearGains(t *testing.T) {
	n := &numbers{state: 95}
	for place, p := range manyPrizes(1) {
		sites := len(p.f.Open)
		checkTable(t, sites, p.gains, true, true)
		for range 4 {
			changed := slices.Clone(p.gains)
			for range 1 + n.below(2) {
				changed[n.below(len(changed))] += n.below(5) - 2
			}
			checkTable(t, sites, changed, monotoneModel(sites, changed), submodularModel(sites, changed))
		}
		if place%5 == 0 { // with a change for each site, it stays submodular
			parts, moved := n.listFrom(sites, 20), []int{}
			for number, gain := range p.gains {
				for _, site := range listOfBits(uint(number)) {
					gain -= parts[site]
				}
				moved = append(moved, gain-7)
			}
			checkTable(t, sites, moved, monotoneModel(sites, moved), true)
		}
	}
}

func TestP8TablesThatAreNone(t *testing.T) {
	for _, n := range outside(impl.MaxSites) {
		for _, length := range []int{0, 1, 2, 127, 128, 129, 256} {
			checkNoTable(t, n, make([]int, length))
		}
	}
	for _, n := range []int{31, 32, 33, 62, 63, 64, 65, 128, -64, -63} { // no shift of a bit by so many places is taken for a length
		for _, length := range []int{0, 1, 2, 128} {
			checkNoTable(t, n, make([]int, length))
		}
	}
	for n := range impl.MaxSites + 1 {
		for length := range 260 {
			if length != 1<<n {
				checkNoTable(t, n, make([]int, length))
			}
		}
		checkNoTable(t, n, nil)
		checkNoTable(t, n, make([]int, 100000))
		for place := range 1 << n {
			for _, number := range []int{1000001, -1000001, 1000002, -1000002, 1 << 32, -1 << 32, 1 << 62, -1 << 62, math.MaxInt, math.MinInt, math.MaxInt - 1, math.MinInt + 1} {
				checkNoTable(t, n, changedTable(make([]int, 1<<n), place, number))
				checkNoTable(t, n, changedTable(slices.Repeat([]int{1000000}, 1<<n), place, number))
			}
		}
		for _, number := range []int{1000001, -1000001, math.MaxInt, math.MinInt} {
			checkNoTable(t, n, slices.Repeat([]int{number}, 1<<n))
		}
	}
}

// The rest of this file tells guarantees of the program's own results alone.

func TestP8GainsAreMonotoneAndSubmodular(t *testing.T) {
	for _, p := range manyPrizes(2) {
		table, ok := impl.GainTable(p.f, p.worth)
		if !ok || len(table) != 1<<len(p.f.Open) || table[0] != 0 {
			t.Fatalf("GainTable of %s = %v, %v", p.text(), table, ok)
		}
		checkTable(t, len(p.f.Open), table, true, true)
	}
}

// A site never gains more for further sites.
func TestP8MarginalGainsNeverGrow(t *testing.T) {
	n := &numbers{state: 96}
	for _, p := range manyPrizes(1) {
		set := n.setFrom(len(p.f.Open))
		for _, site := range othersModel(p.f, set) {
			gain, one := impl.MarginalGain(p.f, p.worth, set, site)
			for place := range set {
				fewer := slices.Delete(slices.Clone(set), place, place+1)
				more, two := impl.MarginalGain(p.f, p.worth, fewer, site)
				if !one || !two || gain > more || gain < 0 {
					t.Fatalf("MarginalGain of %d of %s for %v = %d, %v, and for %v = %d, %v", site, p.text(), set, gain, one, fewer, more, two)
				}
			}
		}
	}
}
