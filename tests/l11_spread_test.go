package tests

import (
	"slices"
	"testing"

	"loop.example/g01110/impl"
)

func checkMetricGround(t *testing.T, m [][]int, want bool) {
	t.Helper()
	if got, ok := impl.IsMetricGround(m); !ok || got != want {
		t.Errorf("IsMetricGround of %s = %v, %v; want %v", rowsText(m), got, ok, want)
	}
}

func checkDispersion(t *testing.T, m [][]int, set []int, want int) {
	t.Helper()
	if got, ok := impl.DispersionOf(m, set); !ok || got != want {
		t.Errorf("DispersionOf %s for %v = %d, %v; want %d", rowsText(m), set, got, ok, want)
	}
}

func checkSpread(t *testing.T, m [][]int, k int, best, farthest []int) {
	t.Helper()
	if got, ok := impl.BestDispersion(m, k); !ok || !slices.Equal(got, best) {
		t.Errorf("BestDispersion of %s for %d = %v, %v; want %v", rowsText(m), k, got, ok, best)
	}
	if got, ok := impl.FarthestFirst(m, k); !ok || !slices.Equal(got, farthest) {
		t.Errorf("FarthestFirst of %s for %d = %v, %v; want %v", rowsText(m), k, got, ok, farthest)
	}
}

func checkProves(t *testing.T, m, groups [][]int, d int, want bool) {
	t.Helper()
	if got, ok := impl.ProvesApart(m, groups, d); !ok || got != want {
		t.Errorf("ProvesApart of %s for %s and %d = %v, %v; want %v", rowsText(m), rowsText(groups), d, got, ok, want)
	}
}

func checkNearGroups(t *testing.T, m [][]int, d int, want [][]int) {
	t.Helper()
	if got, ok := impl.NearGroups(m, d); !ok || !sameRows(got, want) {
		t.Errorf("NearGroups of %s for %d = %s, %v; want %s", rowsText(m), d, rowsText(got), ok, rowsText(want))
	}
}

const (
	// seven has MaxSites places, all as far from each other as can be.
	seven = " / 99 / 99 99 / 99 99 99 / 99 99 99 99 / 99 99 99 99 99 / 99 99 99 99 99 99"
	// still has MaxSites places without any distances.
	still = " / 0 / 0 0 / 0 0 0 / 0 0 0 0 / 0 0 0 0 0 / 0 0 0 0 0 0"
	// row has MaxSites places one behind the other.
	row = " / 1 / 2 1 / 3 2 1 / 4 3 2 1 / 5 4 3 2 1 / 6 5 4 3 2 1"
)

func TestP11MetricGroundsByHand(t *testing.T) {
	for text, want := range map[string]bool{
		"-": true, " ": true, " / 0": true, " / 7": true, " / 99": true, // less than three places
		triangle: true, square: true, roads: true, seven: true, still: true, row: true,
		" / 2 / 5 3": true, " / 2 / 6 3": false, " / 2 / 3 5": true, " / 2 / 3 6": false, " / 5 / 2 3": true, " / 6 / 2 3": false, // just metric, and by one not
		" / 0 / 0 0": true, " / 0 / 5 5": true, " / 0 / 5 6": false, " / 0 / 0 1": false, " / 1 / 0 0": false, " / 0 / 1 0": false, " / 49 / 98 49": true, " / 49 / 99 49": false, " / 50 / 99 49": true,
		" / 1 / 2 1 / 3 2 1": true, " / 1 / 2 1 / 4 2 1": false, " / 1 / 2 1 / 4 3 1": false, " / 9 / 9 9 / 9 9 9": true, " / 9 / 9 9 / 9 9 19": false, " / 9 / 9 9 / 9 9 18": true,
	} {
		checkMetricGround(t, groundOf(text), want)
	}
}

func TestP11DispersionsByHand(t *testing.T) {
	for _, c := range []struct {
		ground string
		set    []int
		want   int
	}{
		{triangle, []int{0, 1, 2}, 3}, {triangle, []int{0, 1}, 3}, {triangle, []int{0, 2}, 5}, {triangle, []int{1, 2}, 4},
		{" / 0", []int{0, 1}, 0}, {" / 99", []int{0, 1}, 99}, {" / 7 / 0 8", []int{0, 1}, 7}, {" / 7 / 0 8", []int{0, 2}, 0}, {" / 7 / 0 8", []int{1, 2}, 8}, {" / 7 / 0 8", []int{0, 1, 2}, 0},
		{square, []int{0, 2}, 2}, {square, []int{1, 3}, 2}, {square, []int{0, 3}, 1}, {square, []int{0, 1, 2}, 1}, {square, []int{0, 1, 2, 3}, 1},
		{roads, []int{0, 3, 4}, 30}, {roads, []int{2, 4}, 72}, {roads, []int{1, 2, 3}, 2}, {roads, []int{0, 2, 4}, 3}, {roads, []int{0, 1, 2, 3, 4}, 2},
		{seven, allBelow(7), 99}, {seven, []int{5, 6}, 99}, {still, allBelow(7), 0}, {row, allBelow(7), 1}, {row, []int{0, 6}, 6}, {row, []int{0, 2, 5}, 2}, {row, []int{0, 3, 6}, 3}, {row, []int{0, 2, 4, 6}, 2},
	} {
		checkDispersion(t, groundOf(c.ground), c.set, c.want)
	}
}

// The sets of this test were worked out by hand.
func TestP11BestDispersionsByHand(t *testing.T) {
	for _, c := range []struct {
		ground         string
		k              int
		best, farthest []int
	}{
		{triangle, 2, []int{0, 2}, []int{0, 2}}, {triangle, 3, []int{0, 1, 2}, []int{0, 2, 1}},
		{" / 0", 2, []int{0, 1}, []int{0, 1}}, {" / 7", 2, []int{0, 1}, []int{0, 1}}, {" / 5 / 5 5", 2, []int{0, 1}, []int{0, 1}}, {" / 5 / 5 6", 2, []int{1, 2}, []int{1, 2}}, {" / 5 / 6 6", 2, []int{0, 2}, []int{0, 2}}, {" / 5 / 6 6", 3, []int{0, 1, 2}, []int{0, 2, 1}}, {" / 5 / 5 6", 3, []int{0, 1, 2}, []int{1, 2, 0}}, // of several pairs the first one
		{square, 2, []int{0, 2}, []int{0, 2}}, {square, 3, []int{0, 1, 2}, []int{0, 2, 1}}, {square, 4, []int{0, 1, 2, 3}, []int{0, 2, 1, 3}}, // of several places the first one
		{roads, 2, []int{2, 4}, []int{2, 4}}, {roads, 3, []int{0, 3, 4}, []int{2, 4, 3}}, {roads, 4, []int{0, 2, 3, 4}, []int{2, 4, 3, 0}}, {roads, 5, []int{0, 1, 2, 3, 4}, []int{2, 4, 3, 0, 1}},
		{still, 2, []int{0, 1}, []int{0, 1}}, {still, 4, []int{0, 1, 2, 3}, []int{0, 1, 2, 3}}, {still, 7, allBelow(7), allBelow(7)}, {seven, 2, []int{0, 1}, []int{0, 1}}, {seven, 5, allBelow(5), allBelow(5)}, {seven, 7, allBelow(7), allBelow(7)},
		{row, 2, []int{0, 6}, []int{0, 6}}, {row, 3, []int{0, 3, 6}, []int{0, 6, 3}}, {row, 4, []int{0, 2, 4, 6}, []int{0, 6, 3, 1}}, {row, 5, []int{0, 1, 2, 3, 4}, []int{0, 6, 3, 1, 2}}, {row, 7, allBelow(7), []int{0, 6, 3, 1, 2, 4, 5}},
		{" / 0 / 0 0 / 0 0 9", 2, []int{2, 3}, []int{2, 3}}, {" / 0 / 0 0 / 0 0 9", 3, []int{0, 1, 2}, []int{2, 3, 0}}, {" / 0 / 0 0 / 0 0 9", 4, allBelow(4), []int{2, 3, 0, 1}}, // places that are taken are not taken again
		{" / 0 / 0 0 / 9 9 9 / 9 9 9 0", 2, []int{0, 3}, []int{0, 3}}, {" / 0 / 0 0 / 9 9 9 / 9 9 9 0", 3, []int{0, 1, 2}, []int{0, 3, 1}},
		{" / 9 / 1 1 / 1 1 5", 2, []int{0, 1}, []int{0, 1}}, {" / 9 / 1 1 / 1 1 5", 3, []int{0, 1, 2}, []int{0, 1, 2}}, {" / 9 / 1 2 / 2 2 5", 3, []int{0, 1, 3}, []int{0, 1, 3}}, {" / 9 / 4 1 / 2 2 5", 3, []int{0, 1, 3}, []int{0, 1, 3}}, // the least distance counts
	} {
		checkSpread(t, groundOf(c.ground), c.k, c.best, c.farthest)
	}
}

func TestP11ProvesApartByHand(t *testing.T) {
	all := [][]int{{0, 1, 2}}
	for _, c := range []struct {
		ground string
		groups [][]int
		d      int
		want   bool
	}{
		{triangle, [][]int{{0, 1}, {2}}, 4, true}, {triangle, [][]int{{0, 1}, {2}}, 3, false}, {triangle, [][]int{{0}, {1, 2}}, 4, false}, {triangle, [][]int{{0}, {1, 2}}, 5, true}, {triangle, [][]int{{1}, {0, 2}}, 5, false}, {triangle, [][]int{{1}, {0, 2}}, 6, true}, // just d, and one less
		{triangle, all, 5, false}, {triangle, all, 6, true}, {triangle, all, 100, true}, {triangle, [][]int{{2, 0, 1}}, 6, true}, {triangle, [][]int{{2, 0, 1}}, 5, false}, {triangle, [][]int{{1, 2, 0}}, 5, false}, // one group, in any order
		{triangle, [][]int{{0}, {1}, {2}}, 1, true}, {triangle, [][]int{{2}, {0}, {1}}, 1, true}, {triangle, [][]int{{2}, {1, 0}}, 4, true}, {triangle, [][]int{{2}, {1, 0}}, 3, false},
		{"-", nil, 1, true}, {"-", [][]int{}, 100, true}, {"-", [][]int{{}}, 1, false}, {"-", [][]int{nil, nil}, 100, false}, {"-", [][]int{{0}}, 1, false}, // no place
		{" ", [][]int{{0}}, 1, true}, {" ", [][]int{{0}}, 100, true}, {" ", nil, 1, false}, {" ", [][]int{{}}, 1, false}, {" ", [][]int{{0}, {}}, 1, false}, {" ", [][]int{{0}, {0}}, 1, false}, {" ", [][]int{{1}}, 1, false}, {" ", [][]int{{-1}}, 1, false}, {" ", [][]int{{0, 0}}, 1, false}, {" ", [][]int{{0, 1}}, 100, false},
		{" / 0", [][]int{{0, 1}}, 1, true}, {" / 1", [][]int{{0, 1}}, 1, false}, {" / 1", [][]int{{0, 1}}, 2, true}, {" / 99", [][]int{{0, 1}}, 99, false}, {" / 99", [][]int{{1, 0}}, 100, true}, {" / 99", [][]int{{1}, {0}}, 99, true},
		{still, [][]int{allBelow(7)}, 1, true}, {still, [][]int{allBelow(6)}, 1, false}, {still, [][]int{{0, 2, 4}, {6, 1}, {3, 5}}, 1, true}, {seven, [][]int{allBelow(7)}, 100, true}, {seven, [][]int{allBelow(7)}, 99, false}, {seven, [][]int{{0}, {1}, {2}, {3}, {4}, {5}, {6}}, 1, true},
		{triangle, [][]int{{0, 1}}, 4, false}, {triangle, [][]int{{0}, {2}}, 9, false}, {triangle, [][]int{{0, 1}, {1, 2}}, 9, false}, {triangle, [][]int{{0, 1}, {2}, {0}}, 9, false}, {triangle, [][]int{{0, 1}, {2, 3}}, 9, false}, {triangle, [][]int{{0, 1}, {2, -1}}, 9, false}, {triangle, [][]int{{0, 1}, {}, {2}}, 9, false}, {triangle, [][]int{{0, 1}, {2}, nil}, 9, false}, {triangle, [][]int{{0, 0, 1}, {2}}, 9, false}, {triangle, [][]int{{0, 0}, {2}}, 9, false}, {triangle, [][]int{{0, 0, 2}}, 9, false}, {triangle, [][]int{{0, 1, 3}}, 9, false}, // no groups
	} {
		checkProves(t, groundOf(c.ground), c.groups, c.d, c.want)
	}
}

func TestP11NearGroupsByHand(t *testing.T) {
	single := [][]int{{0}, {1}, {2}, {3}, {4}, {5}, {6}}
	for _, c := range []struct {
		ground string
		d      int
		want   [][]int
	}{
		{triangle, 1, single[:3]}, {triangle, 3, single[:3]}, {triangle, 4, [][]int{{0, 1}, {2}}}, {triangle, 5, [][]int{{0, 1}, {2}}}, {triangle, 6, [][]int{{0, 1, 2}}}, {triangle, 100, [][]int{{0, 1, 2}}},
		{"-", 1, nil}, {"-", 100, nil}, {" ", 1, single[:1]}, {" ", 100, single[:1]}, {" / 0", 1, [][]int{{0, 1}}}, {" / 1", 1, single[:2]}, {" / 1", 2, [][]int{{0, 1}}}, {" / 99", 99, single[:2]}, {" / 99", 100, [][]int{{0, 1}}},
		{square, 1, single[:4]}, {square, 2, [][]int{{0, 1}, {2, 3}}}, {square, 3, [][]int{{0, 1, 2, 3}}},
		{roads, 2, single[:5]}, {roads, 3, [][]int{{0, 1}, {2}, {3}, {4}}}, {roads, 4, [][]int{{0, 1, 2}, {3}, {4}}}, {roads, 31, [][]int{{0, 1, 2}, {3, 4}}}, {roads, 42, [][]int{{0, 1, 2}, {3, 4}}}, {roads, 43, [][]int{{0, 1, 2, 3}, {4}}}, {roads, 73, [][]int{{0, 1, 2, 3, 4}}}, // the first group in order
		{row, 2, [][]int{{0, 1}, {2, 3}, {4, 5}, {6}}}, {row, 3, [][]int{{0, 1, 2}, {3, 4, 5}, {6}}}, {row, 6, [][]int{{0, 1, 2, 3, 4, 5}, {6}}}, {seven, 99, single}, {seven, 100, [][]int{allBelow(7)}}, {still, 1, [][]int{allBelow(7)}},
		{" / 9 / 1 1", 2, [][]int{{0, 2}, {1}}}, {" / 9 / 9 1", 2, [][]int{{0}, {1, 2}}}, {" / 9 / 9 9 / 1 1 1", 2, [][]int{{0, 3}, {1}, {2}}}, {" / 1 / 1 9", 2, [][]int{{0, 1}, {2}}}, {" / 1 / 9 1", 2, [][]int{{0, 1}, {2}}}, // all places of a group count
	} {
		checkNearGroups(t, groundOf(c.ground), c.d, c.want)
	}
}

// spreadGrounds gives many grounds, and all small ones.
func spreadGrounds(each int) [][][]int {
	return slices.Concat(manyGrounds(each), smallGrounds(2, 3), smallGrounds(3, 4), smallGrounds(4, 1), smallGrounds(4, 2))
}

// numbersFor gives the numbers d at which something changes in a ground, and the least and the greatest.
func numbersFor(m [][]int) []int {
	list := []int{1, impl.MaxLength + 1}
	for _, d := range slices.Concat(m...) {
		list = append(list, max(1, d), d+1)
	}
	slices.Sort(list)
	return slices.Compact(list)
}

func TestP11SpreadsOfManyGrounds(t *testing.T) {
	for _, m := range spreadGrounds(3) {
		if !impl.IsGround(m) {
			t.Errorf("IsGround of %s is false", rowsText(m))
		}
		checkMetricGround(t, m, metricGroundModel(m))
		for _, set := range setsModel(len(m)) {
			if len(set) > 1 {
				checkDispersion(t, m, set, dispersionModel(m, set))
			}
		}
		for k := 2; k <= len(m); k++ {
			best, _ := bestDispersionModel(m, k)
			checkSpread(t, m, k, best, farthestFirstModel(m)[:k])
		}
	}
}

func TestP11GroupsOfManyGrounds(t *testing.T) {
	n := &numbers{state: 156}
	for _, m := range spreadGrounds(2) {
		for _, d := range numbersFor(m) {
			groups := nearGroupsModel(m, d)
			checkNearGroups(t, m, d, groups)
			for range 4 {
				groups := n.groupsFrom(len(m))
				checkProves(t, m, groups, d, provesModel(m, groups, d))
			}
		}
	}
}

// listsOfGroups gives all lists of at most two groups of at most two places.
func listsOfGroups(places int) [][][]int {
	groups := [][]int{{}}
	for i := -1; i <= places; i++ {
		groups = append(groups, []int{i})
		for j := -1; j <= places; j++ {
			groups = append(groups, []int{i, j})
		}
	}
	list := [][][]int{{}}
	for _, one := range groups {
		list = append(list, [][]int{one})
		for _, two := range groups {
			list = append(list, [][]int{one, two})
		}
	}
	return list
}

func TestP11AllSmallGroups(t *testing.T) {
	for places := range 5 {
		for _, groups := range listsOfGroups(places) {
			for _, m := range [][][]int{(&numbers{state: 157}).groundFrom(places, 3), (&numbers{state: 158}).groundFrom(places, 1)} {
				for d := 1; d <= 4; d++ {
					checkProves(t, m, groups, d, provesModel(m, groups, d))
				}
			}
		}
	}
}

// The rest of this file tells guarantees of the program's own results alone.

// Groups that prove a number bound the dispersion of each set with more places.
func TestP11GroupsBoundDispersion(t *testing.T) {
	n := &numbers{state: 159}
	for _, m := range spreadGrounds(3) {
		for _, d := range numbersFor(m) {
			near, one := impl.NearGroups(m, d)
			if proves, two := impl.ProvesApart(m, near, d); !one || !two || !proves {
				t.Fatalf("NearGroups of %s for %d = %s, %v; ProvesApart = %v, %v", rowsText(m), d, rowsText(near), one, proves, two)
			}
			for _, groups := range [][][]int{near, n.groupsFrom(len(m)), n.groupsFrom(len(m))} {
				if proves, _ := impl.ProvesApart(m, groups, d); !proves {
					continue
				}
				for k := max(2, len(groups)+1); k <= len(m); k++ {
					set, ok := impl.BestDispersion(m, k)
					if got, fine := impl.DispersionOf(m, set); !ok || !fine || got >= d {
						t.Fatalf("BestDispersion of %s for %d = %v, %v with %d, %v; %s prove %d", rowsText(m), k, set, ok, got, fine, rowsText(groups), d)
					}
				}
			}
		}
	}
}

func TestP11NoSetHasAGreaterDispersion(t *testing.T) {
	for _, m := range spreadGrounds(2) {
		for k := 2; k <= len(m); k++ {
			best, _ := impl.BestDispersion(m, k)
			greatest, ok := impl.DispersionOf(m, best)
			if !ok || len(best) != k {
				t.Fatalf("BestDispersion of %s for %d = %v", rowsText(m), k, best)
			}
			for _, set := range setsModel(len(m)) {
				if len(set) < k {
					continue
				}
				if got, _ := impl.DispersionOf(m, set); got > greatest || got == greatest && len(set) == k && slices.Compare(set, best) < 0 {
					t.Fatalf("DispersionOf %s for %v = %d; BestDispersion for %d is %v", rowsText(m), set, got, k, best)
				}
			}
		}
	}
}

// In a metric ground, the places that are taken have at least half of the
// greatest dispersion.
func TestP11FarthestFirstHasHalfOfTheGreatestDispersion(t *testing.T) {
	count := 0
	for _, m := range append(spreadGrounds(6), smallGrounds(4, 3)...) {
		if metric, _ := impl.IsMetricGround(m); !metric {
			continue
		}
		for k := 2; k <= len(m); k++ {
			taken, ok := impl.FarthestFirst(m, k)
			got, fine := impl.DispersionOf(m, sortedSet(taken))
			best, _ := impl.BestDispersion(m, k)
			greatest, _ := impl.DispersionOf(m, best)
			if !ok || !fine || 2*got < greatest || got > greatest {
				t.Fatalf("FarthestFirst of %s for %d = %v, %v with %d, %v; the greatest is %d", rowsText(m), k, taken, ok, got, fine, greatest)
			}
			if got < greatest {
				count++
			}
		}
	}
	if count < 50 {
		t.Errorf("just %d times the dispersion is less than the greatest one", count)
	}
}

// More places continue the order, and each place comes once.
func TestP11FarthestFirstGoesOn(t *testing.T) {
	for _, m := range spreadGrounds(2) {
		if len(m) < 2 {
			continue
		}
		all, ok := impl.FarthestFirst(m, len(m))
		if !ok || !slices.Equal(sortedSet(all), allBelow(len(m))) {
			t.Fatalf("FarthestFirst of %s = %v, %v", rowsText(m), all, ok)
		}
		for k := 2; k <= len(m); k++ {
			if taken, ok := impl.FarthestFirst(m, k); !ok || !slices.Equal(taken, all[:k]) {
				t.Fatalf("FarthestFirst of %s for %d = %v, %v; for all it is %v", rowsText(m), k, taken, ok, all)
			}
		}
		if pair, _ := impl.BestDispersion(m, 2); !slices.Equal(pair, all[:2]) {
			t.Fatalf("FarthestFirst of %s = %v; BestDispersion is %v", rowsText(m), all, pair)
		}
	}
}

// A metric ground is one whose places, both as sites and as clients, are those of a metric Field.
func TestP11MetricGroundsAreMetricFields(t *testing.T) {
	counts := map[bool]int{}
	for _, m := range spreadGrounds(4) {
		if len(m) == 0 {
			continue
		}
		want, _ := impl.IsMetric(impl.Field{Open: make([]int, len(m)), Dist: m})
		checkMetricGround(t, m, want)
		counts[want]++
	}
	if counts[false] < 100 || counts[true] < 100 {
		t.Errorf("%v grounds are metric", counts)
	}
}

// One distance that is greater by one than a way over a third place makes a ground not metric.
func TestP11GroundsThatAreJustMetric(t *testing.T) {
	n := &numbers{state: 160}
	for range 300 {
		m := n.metricGroundFrom(3+n.below(5), 15)
		i := n.below(len(m) - 1)
		j := i + 1 + n.below(len(m)-i-1)
		least := 99
		for third := range m {
			if third != i && third != j {
				least = min(least, m[i][third]+m[third][j])
			}
		}
		m[i][j], m[j][i] = least, least
		checkMetricGround(t, m, metricGroundModel(m))
		m[i][j], m[j][i] = least+1, least+1
		checkMetricGround(t, m, false)
	}
}

// Groups are the same proof in any order, and with their places in any order.
func TestP11GroupsInAnyOrder(t *testing.T) {
	n := &numbers{state: 161}
	for _, m := range manyGrounds(3) {
		for _, d := range numbersFor(m) {
			groups, _ := impl.NearGroups(m, d)
			if len(groups) == 0 {
				continue
			}
			other := [][]int{}
			for _, at := range n.orderFrom(len(groups)) {
				group := []int{}
				for _, place := range n.orderFrom(len(groups[at])) {
					group = append(group, groups[at][place])
				}
				other = append(other, group)
			}
			checkProves(t, m, other, d, true)
			place := n.below(len(m)) // which goes into no group, into two of them, or alone into a further one
			for at, group := range other {
				if slices.Contains(group, place) {
					fewer := slices.Clone(other)
					fewer[at] = slices.DeleteFunc(slices.Clone(group), func(p int) bool { return p == place })
					checkProves(t, m, fewer, d, false)
					checkProves(t, m, append(other, []int{place}), d, false)
					if len(group) > 1 {
						checkProves(t, m, append(fewer, []int{place}), d, true)
					}
				}
			}
		}
	}
}
