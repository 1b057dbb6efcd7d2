package tests

import (
	"math"
	"slices"
	"testing"

	"loop.example/g01110/impl"
)

func checkObjective(t *testing.T, f impl.Field, set []int, objective, want int) {
	t.Helper()
	got, ok := impl.ObjectiveOf(f, set, objective)
	checkNumber(t, "ObjectiveOf "+listOf([]int{objective}), f, set, got, ok, want)
}

func checkFront(t *testing.T, f impl.Field, a, b int, front [][2]int, sets [][]int) {
	t.Helper()
	if got, ok := impl.FrontOf(f, a, b); !ok || !slices.Equal(got, front) {
		t.Errorf("FrontOf %q for %d and %d = %v, %v; want %v", textOf(f), a, b, got, ok, front)
	}
	if got, ok := impl.FrontSets(f, a, b); !ok || !sameRows(got, sets) {
		t.Errorf("FrontSets of %q for %d and %d = %v, %v; want %v", textOf(f), a, b, got, ok, sets)
	}
}

// checkUnder takes an empty set for a limit that no set keeps.
func checkUnder(t *testing.T, f impl.Field, a, b, limit int, want []int) {
	t.Helper()
	if got, ok := impl.BestUnder(f, a, b, limit); ok != (len(want) > 0) || !slices.Equal(got, want) {
		t.Errorf("BestUnder of %q for %d, %d and %d = %v, %v; want %v", textOf(f), a, b, limit, got, ok, want)
	}
}

func checkOrdered(t *testing.T, f impl.Field, set, weights []int, want int) {
	t.Helper()
	got, ok := impl.OrderedValue(f, set, weights)
	checkNumber(t, "OrderedValue "+listOf(weights), f, set, got, ok, want)
}

func checkOrderedBest(t *testing.T, f impl.Field, k int, weights, want []int) {
	t.Helper()
	got, ok := impl.OrderedBest(f, k, weights)
	checkList(t, "OrderedBest "+listOf(weights), f, []int{k}, got, ok, want)
}

const (
	// stall is that of the document's tests.
	stall = "3 1 / 0 4 / 5 1 / 2 2"
	// steps has sites that cost the more the nearer they are.
	steps = "0 2 5 9 / 9 6 3 0"
	// doubles has two pairs of sites with the same numbers.
	doubles = "2 2 4 4 / 5 5 1 1 / 6 6 3 3"
)

// The values of this test were worked out by hand.
func TestP11ObjectivesByHand(t *testing.T) {
	for _, c := range []struct {
		field  string
		set    []int
		values [objectives]int // service, payment, total, reach, count
	}{
		{stall, []int{0}, [5]int{7, 3, 10, 5, 1}}, {stall, []int{1}, [5]int{7, 1, 8, 4, 1}}, {stall, []int{0, 1}, [5]int{3, 4, 7, 2, 2}},
		{"5", []int{0}, [5]int{0, 5, 5, 0, 1}}, {"5 6 7", []int{0, 2}, [5]int{0, 12, 12, 0, 2}}, {"5 6 7", []int{0, 1, 2}, [5]int{0, 18, 18, 0, 3}}, // no clients
		{"0 / 0", []int{0}, [5]int{0, 0, 0, 0, 1}}, {"99 / 99", []int{0}, [5]int{99, 99, 198, 99, 1}}, {"4 / 1 / 8 / 8", []int{0}, [5]int{17, 4, 21, 8, 1}}, // one site
		{steps, []int{0}, [5]int{9, 0, 9, 9, 1}}, {steps, []int{3}, [5]int{0, 9, 9, 0, 1}}, {steps, []int{1, 2}, [5]int{3, 7, 10, 3, 2}}, {steps, []int{0, 1, 2, 3}, [5]int{0, 16, 16, 0, 4}},
		{doubles, []int{0, 1}, [5]int{11, 4, 15, 6, 2}}, {doubles, []int{0, 3}, [5]int{4, 6, 10, 3, 2}}, {doubles, []int{1, 2, 3}, [5]int{4, 10, 14, 3, 3}}, {doubles, []int{0, 1, 2, 3}, [5]int{4, 12, 16, 3, 4}},
		{apart, []int{4}, [5]int{594, 5, 599, 99, 1}}, {apart, allBelow(7), [5]int{0, 28, 28, 0, 7}},
		{"99 99 99 99 99 99 99 / 99 99 99 99 99 99 99 / 99 99 99 99 99 99 99", allBelow(7), [5]int{198, 693, 891, 99, 7}},
	} {
		for place, want := range c.values {
			checkObjective(t, fieldOf(c.field), c.set, place+1, want)
		}
	}
}

// The fronts of this test were worked out by hand.
func TestP11FrontsByHand(t *testing.T) {
	const service, payment, total, reach, count = impl.ObjService, impl.ObjPayment, impl.ObjTotal, impl.ObjReach, impl.ObjCount
	type points = [][2]int
	for _, c := range []struct {
		field string
		a, b  int
		front points
		sets  [][]int
	}{
		{stall, payment, reach, points{{1, 4}, {4, 2}}, [][]int{{1}, {0, 1}}}, {stall, reach, payment, points{{2, 4}, {4, 1}}, [][]int{{0, 1}, {1}}},
		{stall, service, count, points{{3, 2}, {7, 1}}, [][]int{{0, 1}, {0}}}, {stall, count, service, points{{1, 7}, {2, 3}}, [][]int{{0}, {0, 1}}}, // the first set of several with the same point
		{stall, total, count, points{{7, 2}, {8, 1}}, [][]int{{0, 1}, {1}}}, {stall, service, total, points{{3, 7}}, [][]int{{0, 1}}}, {stall, total, reach, points{{7, 2}}, [][]int{{0, 1}}},
		{stall, service, service, points{{3, 3}}, [][]int{{0, 1}}}, {stall, payment, payment, points{{1, 1}}, [][]int{{1}}}, {stall, total, total, points{{7, 7}}, [][]int{{0, 1}}}, {stall, reach, reach, points{{2, 2}}, [][]int{{0, 1}}}, {stall, count, count, points{{1, 1}}, [][]int{{0}}}, // both the same
		{"5", service, payment, points{{0, 5}}, [][]int{{0}}}, {"3 1 2", payment, reach, points{{1, 0}}, [][]int{{1}}}, {"3 1 2", reach, payment, points{{0, 1}}, [][]int{{1}}}, {"3 1 2", service, count, points{{0, 1}}, [][]int{{0}}}, {"3 1 2", count, total, points{{1, 1}}, [][]int{{1}}}, {"3 3 3", count, total, points{{1, 3}}, [][]int{{0}}}, {"0 0 0", total, payment, points{{0, 0}}, [][]int{{0}}}, // no clients
		{"0 / 7", service, total, points{{7, 7}}, [][]int{{0}}}, {"4 / 7", payment, service, points{{4, 7}}, [][]int{{0}}}, // one site
		{steps, payment, service, points{{0, 9}, {2, 6}, {5, 3}, {9, 0}}, [][]int{{0}, {1}, {2}, {3}}}, {steps, service, payment, points{{0, 9}, {3, 5}, {6, 2}, {9, 0}}, [][]int{{3}, {2}, {1}, {0}}}, {steps, reach, payment, points{{0, 9}, {3, 5}, {6, 2}, {9, 0}}, [][]int{{3}, {2}, {1}, {0}}},
		{steps, total, service, points{{8, 3}, {9, 0}}, [][]int{{2}, {3}}}, {steps, total, payment, points{{8, 2}, {9, 0}}, [][]int{{1}, {0}}}, {steps, count, total, points{{1, 8}}, [][]int{{1}}}, // points with the same first or second number
		{doubles, payment, service, points{{2, 11}, {4, 4}}, [][]int{{0}, {2}}}, {doubles, service, payment, points{{4, 4}, {11, 2}}, [][]int{{2}, {0}}}, {doubles, service, reach, points{{4, 3}}, [][]int{{2}}}, {doubles, count, payment, points{{1, 2}}, [][]int{{0}}},
		{"0 0 0 / 9 9 0 / 0 9 9", service, count, points{{0, 2}, {9, 1}}, [][]int{{0, 2}, {0}}}, {"0 0 0 / 9 9 0 / 0 9 9", count, reach, points{{1, 9}, {2, 0}}, [][]int{{0}, {0, 2}}},
		{apart, reach, count, points{{0, 7}, {99, 1}}, [][]int{allBelow(7), {0}}}, {apart, count, service, points{{1, 594}, {2, 495}, {3, 396}, {4, 297}, {5, 198}, {6, 99}, {7, 0}}, [][]int{{0}, allBelow(2), allBelow(3), allBelow(4), allBelow(5), allBelow(6), allBelow(7)}}, {apart, total, payment, points{{28, 28}, {120, 21}, {213, 15}, {307, 10}, {402, 6}, {498, 3}, {595, 1}}, [][]int{allBelow(7), allBelow(6), allBelow(5), allBelow(4), allBelow(3), allBelow(2), {0}}},
		{"5 1 / 0 9 / 9 8", payment, reach, points{{1, 9}, {6, 8}}, [][]int{{1}, {0, 1}}}, {"1 1 / 4 4", payment, reach, points{{1, 4}}, [][]int{{0}}}, {"1 1 / 4 3", payment, reach, points{{1, 3}}, [][]int{{1}}}, {"2 1 / 3 3", payment, reach, points{{1, 3}}, [][]int{{1}}},
	} {
		checkFront(t, fieldOf(c.field), c.a, c.b, c.front, c.sets)
	}
}

// The sets of this test were worked out by hand.
func TestP11BestUnderByHand(t *testing.T) {
	const service, payment, total, reach, count = impl.ObjService, impl.ObjPayment, impl.ObjTotal, impl.ObjReach, impl.ObjCount
	for _, c := range []struct {
		field       string
		a, b, limit int
		set         []int
	}{
		{stall, payment, reach, 1, nil}, {stall, payment, reach, 2, []int{0, 1}}, {stall, payment, reach, 3, []int{0, 1}}, {stall, payment, reach, 4, []int{1}}, {stall, payment, reach, 5, []int{1}},
		{stall, service, count, 0, nil}, {stall, service, count, 1, []int{0}}, {stall, service, count, 2, []int{0, 1}}, {stall, total, count, 1, []int{1}}, {stall, total, count, 2, []int{0, 1}}, {stall, total, count, math.MaxInt, []int{0, 1}}, {stall, total, count, math.MinInt, nil}, {stall, total, count, -1, nil},
		{stall, service, payment, 0, nil}, {stall, service, payment, 1, []int{1}}, {stall, service, payment, 2, []int{1}}, {stall, service, payment, 3, []int{0}}, {stall, service, payment, 4, []int{0, 1}}, // of several sets with the same value the first one
		{stall, service, service, 2, nil}, {stall, service, service, 3, []int{0, 1}}, {stall, payment, payment, 0, nil}, {stall, payment, payment, 1, []int{1}}, {stall, count, count, 1, []int{0}}, {stall, reach, reach, 99, []int{0, 1}}, {stall, total, total, 6, nil}, {stall, total, total, 8, []int{0, 1}}, // both the same
		{"5", service, payment, 4, nil}, {"5", service, payment, 5, []int{0}}, {"3 1 2", service, payment, 0, nil}, {"3 1 2", service, payment, 1, []int{1}}, {"3 1 2", service, payment, 2, []int{1}}, {"3 1 2", service, payment, 3, []int{0}}, {"3 1 2", payment, service, 0, []int{1}}, {"3 1 2", payment, reach, -1, nil}, {"3 1 2", count, reach, 0, []int{0}}, // no clients
		{steps, service, payment, -1, nil}, {steps, service, payment, 0, []int{0}}, {steps, service, payment, 1, []int{0}}, {steps, service, payment, 4, []int{1}}, {steps, service, payment, 8, []int{2}}, {steps, service, payment, 9, []int{3}}, {steps, service, payment, 1000, []int{3}},
		{doubles, service, count, 1, []int{2}}, {doubles, payment, reach, 3, []int{2}}, {doubles, payment, reach, 6, []int{0}}, {doubles, count, total, 7, nil}, {doubles, count, total, 8, []int{2}}, {doubles, count, total, 13, []int{0}}, {doubles, payment, total, 12, []int{2}},
		{apart, count, reach, 98, allBelow(7)}, {apart, count, reach, 99, []int{0}}, {apart, count, reach, -1, nil}, {apart, service, count, 3, []int{0, 1, 2}}, {apart, total, service, 0, allBelow(7)},
	} {
		checkUnder(t, fieldOf(c.field), c.a, c.b, c.limit, c.set)
	}
}

// The values of this test were worked out by hand.
func TestP11OrderedValuesByHand(t *testing.T) {
	for _, c := range []struct {
		field        string
		set, weights []int
		value        int
	}{
		{stall, []int{0, 1}, []int{0, 0, 1}, 2}, {stall, []int{0, 1}, []int{1, 1, 1}, 3}, {stall, []int{0, 1}, []int{1, 0, 0}, 0}, {stall, []int{0, 1}, []int{0, 1, 0}, 1},
		{stall, []int{0}, []int{0, 0, 0}, 0}, {stall, []int{0}, []int{1, 10, 99}, 515}, {stall, []int{0}, []int{99, 10, 1}, 25}, {stall, []int{1}, []int{1, 10, 99}, 417}, {stall, []int{1}, []int{99, 99, 99}, 693}, // lengths in ascending order, not weights
		{"5", []int{0}, nil, 0}, {"5 6", []int{0, 1}, []int{}, 0}, // no clients and no weights
		{"5 / 7", []int{0}, []int{0}, 0}, {"5 / 7", []int{0}, []int{1}, 7}, {"5 / 7", []int{0}, []int{99}, 693}, {"99 / 0", []int{0}, []int{99}, 0}, {"0 / 99", []int{0}, []int{99}, 9801},
		{"0 / 9 / 1 / 5", []int{0}, []int{1, 2, 3}, 38}, {"0 / 1 / 5 / 9", []int{0}, []int{1, 2, 3}, 38}, {"0 / 9 / 5 / 1", []int{0}, []int{3, 2, 1}, 22}, {"0 / 4 / 4 / 4", []int{0}, []int{7, 0, 1}, 32},
		{steps, []int{0}, []int{2}, 18}, {steps, []int{0, 2}, []int{2}, 6}, {doubles, []int{0, 1}, []int{1, 10}, 65}, {doubles, []int{0, 3}, []int{10, 1}, 13},
		{"0 / 99 / 99 / 99 / 99 / 99 / 99 / 99", []int{0}, []int{99, 99, 99, 99, 99, 99, 99}, 68607}, {"0 / 7 / 6 / 5 / 4 / 3 / 2 / 1", []int{0}, []int{0, 0, 0, 1, 0, 0, 0}, 4},
	} {
		checkOrdered(t, fieldOf(c.field), c.set, c.weights, c.value)
	}
}

// The sets of this test were worked out by hand.
func TestP11OrderedBestByHand(t *testing.T) {
	for _, c := range []struct {
		field   string
		k       int
		weights []int
		set     []int
	}{
		{stall, 1, []int{1, 1, 1}, []int{0}}, {stall, 1, []int{0, 0, 1}, []int{1}}, {stall, 1, []int{1, 0, 0}, []int{0}}, {stall, 1, []int{0, 1, 0}, []int{0}}, {stall, 2, []int{0, 0, 1}, []int{0, 1}}, {stall, 1, []int{0, 0, 0}, []int{0}}, {stall, 2, []int{99, 99, 99}, []int{0, 1}},
		{"5", 1, nil, []int{0}}, {"5 4 3", 1, nil, []int{0}}, {"5 4 3", 2, []int{}, []int{0, 1}}, {"5 4 3", 3, nil, []int{0, 1, 2}}, // no clients: opening costs don't count
		{steps, 1, []int{1}, []int{3}}, {steps, 2, []int{1}, []int{0, 3}}, {steps, 3, []int{99}, []int{0, 1, 3}}, {steps, 4, []int{99}, allBelow(4)}, {steps, 2, []int{0}, []int{0, 1}}, // of several sets the first one
		{doubles, 1, []int{1, 1}, []int{2}}, {doubles, 2, []int{1, 1}, []int{0, 2}}, {doubles, 3, []int{1, 0}, []int{0, 1, 2}}, {doubles, 2, []int{0, 0}, []int{0, 1}},
		{"0 0 / 0 5 / 9 5", 1, []int{1, 0}, []int{0}}, {"0 0 / 0 5 / 9 5", 1, []int{0, 1}, []int{1}}, {"0 0 / 0 5 / 9 5", 1, []int{1, 1}, []int{0}}, {"0 0 / 0 5 / 9 5", 1, []int{4, 5}, []int{0}}, {"0 0 / 0 5 / 9 5", 1, []int{3, 4}, []int{1}},
		{apart, 1, []int{0, 0, 0, 0, 0, 0, 1}, []int{0}}, {apart, 6, []int{1, 1, 1, 1, 1, 1, 0}, allBelow(6)}, {apart, 7, []int{1, 1, 1, 1, 1, 1, 1}, allBelow(7)},
	} {
		checkOrderedBest(t, fieldOf(c.field), c.k, c.weights, c.set)
	}
}

// frontFields gives Fields of all kinds, but not too many for all pairs of objectives.
func frontFields() []impl.Field {
	return slices.Concat(manyFields(1), midFields(100), smallFields(1, 1, 2), smallFields(2, 1, 2), smallFields(2, 2, 1), smallFields(3, 1, 1))
}

func TestP11ObjectivesOfManyFields(t *testing.T) {
	for _, f := range frontFields() {
		for _, set := range setsModel(len(f.Open))[1:] {
			for objective := 1; objective <= objectives; objective++ {
				checkObjective(t, f, set, objective, objectiveModel(f, set, objective))
			}
		}
	}
}

// Small numbers leave many points that several sets have, or that differ at one place alone.
func TestP11FrontsOfManyFields(t *testing.T) {
	for _, f := range frontFields() {
		for a := 1; a <= objectives; a++ {
			for b := 1; b <= objectives; b++ {
				front, sets := frontModel(f, a, b)
				checkFront(t, f, a, b, front, sets)
			}
		}
	}
}

func TestP11BestUnderOfManyFields(t *testing.T) {
	n := &numbers{state: 153}
	for _, f := range frontFields() {
		sets := setsModel(len(f.Open))[1:]
		for a := 1; a <= objectives; a++ {
			for b := 1; b <= objectives; b++ {
				value := objectiveModel(f, sets[n.below(len(sets))], b)
				for _, limit := range []int{value - 1, value} {
					checkUnder(t, f, a, b, limit, underModel(f, a, b, limit))
				}
			}
		}
	}
}

// weightSamples gives weights of several kinds.
func (n *numbers) weightSamples(clients int) [][]int {
	last, ones, most := make([]int, clients), slices.Repeat([]int{1}, clients), slices.Repeat([]int{99}, clients)
	if clients > 0 {
		last[clients-1] = 1
	}
	return [][]int{last, ones, most, make([]int, clients), n.listFrom(clients, 1), n.listFrom(clients, 3), n.listFrom(clients, 99)}
}

func TestP11OrderedValuesOfManyFields(t *testing.T) {
	n := &numbers{state: 154}
	for _, f := range frontFields() {
		for _, weights := range n.weightSamples(len(f.Dist)) {
			for _, set := range setsModel(len(f.Open))[1:] {
				checkOrdered(t, f, set, weights, orderedModel(f, set, weights))
			}
			for k := 1; k <= len(f.Open); k++ {
				checkOrderedBest(t, f, k, weights, orderedBestModel(f, k, weights))
			}
		}
	}
}

// The rest of this file tells guarantees of the program's own results alone.

func pointOfSet(t *testing.T, f impl.Field, set []int, a, b int) [2]int {
	t.Helper()
	first, one := impl.ObjectiveOf(f, set, a)
	second, two := impl.ObjectiveOf(f, set, b)
	if !one || !two {
		t.Fatalf("ObjectiveOf %q for %v fails", textOf(f), set)
	}
	return [2]int{first, second}
}

func TestP11TheFrontHasJustThePointsThatNoSetDominates(t *testing.T) {
	for _, f := range append(manyFields(1), midFields(60)...) {
		for a := 1; a <= objectives; a++ {
			for b := 1; b <= objectives; b++ {
				checkFrontIsWhole(t, f, a, b)
			}
		}
	}
}

// checkFrontIsWhole tells that no set dominates a point of the front, and that
// each point that is not there is dominated by one of the front.
func checkFrontIsWhole(t *testing.T, f impl.Field, a, b int) {
	t.Helper()
	front, one := impl.FrontOf(f, a, b)
	sets, two := impl.FrontSets(f, a, b)
	if !one || !two || len(front) == 0 || len(front) != len(sets) {
		t.Fatalf("the front of %q for %d and %d is %v, %v with %v, %v", textOf(f), a, b, front, one, sets, two)
	}
	for place, set := range sets {
		if pointOfSet(t, f, set, a, b) != front[place] || place > 0 && front[place][0] <= front[place-1][0] {
			t.Fatalf("the front of %q for %d and %d is %v with %v", textOf(f), a, b, front, sets)
		}
	}
	for _, set := range setsModel(len(f.Open))[1:] {
		point := pointOfSet(t, f, set, a, b)
		above := slices.ContainsFunc(front, func(other [2]int) bool { return dominates(point, other) })
		below := slices.ContainsFunc(front, func(other [2]int) bool { return dominates(other, point) })
		if above || below == slices.Contains(front, point) {
			t.Fatalf("the front of %q for %d and %d is %v; %v has %v", textOf(f), a, b, front, set, point)
		}
	}
}

// The other way round, the front is the same with its points turned.
func TestP11FrontsOfObjectivesInTheOtherOrder(t *testing.T) {
	for _, f := range append(manyFields(1), midFields(60)...) {
		for a := 1; a <= objectives; a++ {
			for b := 1; b < a; b++ {
				front, _ := impl.FrontOf(f, a, b)
				sets, _ := impl.FrontSets(f, a, b)
				for place, point := range front {
					front[place] = [2]int{point[1], point[0]}
				}
				slices.Reverse(front)
				slices.Reverse(sets)
				checkFront(t, f, b, a, front, sets)
			}
		}
	}
}

func TestP11BothObjectivesTheSameHaveOnePoint(t *testing.T) {
	for _, f := range manyFields(2) {
		for a := 1; a <= objectives; a++ {
			front, _ := impl.FrontOf(f, a, a)
			set, ok := impl.BestUnder(f, a, a, math.MaxInt)
			if !ok || len(front) != 1 || front[0] != pointOfSet(t, f, set, a, a) {
				t.Fatalf("FrontOf %q for %d twice = %v; BestUnder is %v, %v", textOf(f), a, front, set, ok)
			}
		}
	}
}

// Each point of the front is the best one under its own second number, and no
// set keeps a limit below that of the last point.
func TestP11BestUnderTellsTheFront(t *testing.T) {
	for _, f := range append(manyFields(1), midFields(60)...) {
		for a := 1; a <= objectives; a++ {
			for b := 1; b <= objectives; b++ {
				front, _ := impl.FrontOf(f, a, b)
				for place, point := range front {
					set, ok := impl.BestUnder(f, a, b, point[1])
					if got := pointOfSet(t, f, set, a, b); !ok || got != point {
						t.Fatalf("BestUnder of %q for %d, %d and %d = %v, %v with %v; the front is %v", textOf(f), a, b, point[1], set, ok, got, front)
					}
					if set, ok := impl.BestUnder(f, a, b, point[1]-1); ok != (place < len(front)-1) {
						t.Fatalf("BestUnder of %q for %d, %d and %d = %v, %v; the front is %v", textOf(f), a, b, point[1]-1, set, ok, front)
					}
				}
			}
		}
	}
}

func TestP11BestUnderAnyLimitIsBestOfAll(t *testing.T) {
	for _, f := range append(manyFields(2), midFields(100)...) {
		set, ok := impl.BestSet(f)
		for b := 1; b <= objectives; b++ {
			if got, fine := impl.BestUnder(f, impl.ObjTotal, b, math.MaxInt); !ok || !fine || !slices.Equal(got, set) {
				t.Fatalf("BestUnder of %q = %v, %v; BestSet is %v", textOf(f), got, fine, set)
			}
			if got, fine := impl.BestUnder(f, impl.ObjTotal, b, math.MinInt); fine || len(got) > 0 {
				t.Fatalf("BestUnder of %q under the least limit = %v, %v", textOf(f), got, fine)
			}
		}
		for k := 1; k <= len(f.Open); k++ {
			centres, _ := impl.BestCentres(f, k)
			if got, fine := impl.BestUnder(f, impl.ObjReach, impl.ObjCount, k); !fine || !slices.Equal(got, centres) {
				t.Fatalf("BestUnder of %q for %d sites = %v, %v; BestCentres is %v", textOf(f), k, got, fine, centres)
			}
		}
	}
}

// The ordered value is the service if all weights are 1, and the reach if only
// the last one is 1.
func TestP11OrderedValuesAreServiceAndReach(t *testing.T) {
	for _, f := range append(manyFields(2), midFields(200)...) {
		samples := (&numbers{}).weightSamples(len(f.Dist))
		last, ones := samples[0], samples[1]
		for _, set := range setsModel(len(f.Open))[1:] {
			service, _ := impl.ServiceOf(f, set)
			checkOrdered(t, f, set, ones, service)
			reach, _ := impl.ReachOf(f, set)
			checkOrdered(t, f, set, last, reach)
		}
		for k := 1; k <= len(f.Open); k++ {
			median, _ := impl.MedianOf(f, k)
			checkOrderedBest(t, f, k, ones, median)
			reach, _ := impl.CentreReach(f, k)
			set, _ := impl.OrderedBest(f, k, last)
			checkOrdered(t, f, set, last, reach)
		}
	}
}

// The ordered value does not depend on the order of the clients.
func TestP11OrderedValuesOfClientsInAnotherOrder(t *testing.T) {
	n := &numbers{state: 155}
	for _, f := range append(manyFields(1), midFields(100)...) {
		other := impl.Field{Open: f.Open}
		for _, client := range n.orderFrom(len(f.Dist)) {
			other.Dist = append(other.Dist, f.Dist[client])
		}
		for _, weights := range n.weightSamples(len(f.Dist)) {
			for _, set := range setsModel(len(f.Open))[1:] {
				value, _ := impl.OrderedValue(f, set, weights)
				checkOrdered(t, other, set, weights, value)
			}
		}
	}
}
