package tests

import (
	"slices"
	"testing"

	"loop.example/g01110/impl"
)

func checkSystem(t *testing.T, name string, got impl.System, ok bool, want impl.System) {
	t.Helper()
	if !ok || !sameSystem(got, want) || !impl.IsSystem(got) {
		t.Errorf("%s = %s, %v; want %s", name, systemText(got), ok, systemText(want))
	}
}

func checkTurn(t *testing.T, s, want impl.System) {
	t.Helper()
	got, ok := impl.TurnSystem(s)
	checkSystem(t, "TurnSystem of "+systemText(s), got, ok, want)
}

func checkHits(t *testing.T, s impl.System, elements []int, want bool) {
	t.Helper()
	if got, ok := impl.IsHitting(s, elements); !ok || got != want {
		t.Errorf("IsHitting of %s for %v = %v, %v; want %v", systemText(s), elements, got, ok, want)
	}
}

func checkHitting(t *testing.T, s impl.System, want []int, fine bool) {
	t.Helper()
	got, ok := impl.LeastHitting(s)
	checkOfSystem(t, "LeastHitting", s, got, ok, want, fine)
}

func checkPacking(t *testing.T, s impl.System, want []int) {
	t.Helper()
	got, ok := impl.LargestPacking(s)
	checkOfSystem(t, "LargestPacking", s, got, ok, want, true)
}

func TestP6TurnedSystemsByHand(t *testing.T) {
	for text, turned := range map[string]string{
		chain: "3 / 1 0 / 1 0 1 / 1 1 2", "0": "0", "0 / 5": "1", "0 / 5 / 99": "2", "3": "0 / 1 / 1 / 1", "8": "0 / 1 / 1 / 1 / 1 / 1 / 1 / 1 / 1", // no elements, no sets
		"1 / 99 0": "1 / 1 0", "1 / 5": "1 / 1", "2 / 5 / 7 0 / 9 0 1": "3 / 1 1 2 / 1 2", "3 / 5 2": "1 / 1 / 1 / 1 0", "2 / 2 1 / 3 1": "2 / 1 / 1 0 1", // elements that are in no set
		"2 / 1 0 1 / 1 0 1 / 1 0 1": "3 / 1 0 1 2 / 1 0 1 2", "4 / 1 0 3 / 1 1 2": "2 / 1 0 / 1 1 / 1 1 / 1 0",
		"8 / 1 0 / 2 1 / 3 2 / 4 3 / 5 4 / 6 5 / 7 6 / 8 7": "8 / 1 0 / 1 1 / 1 2 / 1 3 / 1 4 / 1 5 / 1 6 / 1 7",
	} {
		checkTurn(t, systemOf(text), systemOf(turned))
	}
}

func TestP6HittingSetsByHand(t *testing.T) {
	for _, c := range []struct {
		system   string
		elements []int
		hits     bool
	}{
		{chain, nil, false}, {chain, []int{0}, false}, {chain, []int{1}, false}, {chain, []int{2}, false}, {chain, []int{0, 1}, false}, {chain, []int{0, 2}, true}, {chain, []int{1, 2}, true}, {chain, []int{0, 1, 2}, true},
		{"0", nil, true}, {"3", nil, true}, {"3", []int{1}, true}, {"8", []int{0, 7}, true}, // no sets
		{"0 / 1", nil, false}, {"3 / 1", nil, false}, {"3 / 1", []int{0, 1, 2}, false}, {"3 / 1 0 / 1", []int{0}, false}, {"3 / 1 / 1 0", []int{0, 1, 2}, false}, // sets without elements
		{"2 / 1 0 1 / 1 0 1", []int{1}, true}, {"4 / 1 0 1 / 1 2 3", []int{0, 1}, false}, {"4 / 1 0 1 / 1 2 3", []int{2, 3}, false}, {"4 / 1 0 1 / 1 2 3", []int{1, 3}, true}, {"8 / 9 7", []int{7}, true}, {"8 / 9 7", []int{0, 1, 2, 3, 4, 5, 6}, false},
	} {
		checkHits(t, systemOf(c.system), c.elements, c.hits)
	}
}

// The lists of this test were worked out by hand.
func TestP6LeastHittingSetsByHand(t *testing.T) {
	for _, c := range []struct {
		system   string
		elements []int
	}{
		{chain, []int{0, 2}}, {"0", nil}, {"3", nil}, {"8", nil}, {"3 / 1 2", []int{2}}, {"1 / 99 0", []int{0}}, {"3 / 99 0 2 / 1 1 2", []int{2}}, // costs do not count
		{"2 / 1 0 1 / 1 0 1", []int{0}}, {"4 / 1 0 1 / 1 2 3", []int{0, 2}}, {"3 / 1 0 1 / 1 1 2 / 1 0 2", []int{0, 1}}, {"4 / 1 0 1 / 1 1 2 / 1 2 3", []int{0, 2}}, {"4 / 1 3 / 1 1 2 / 1 0 2", []int{2, 3}},
		{"8 / 1 0 / 1 1 / 1 2 / 1 3 / 1 4 / 1 5 / 1 6 / 1 7", []int{0, 1, 2, 3, 4, 5, 6, 7}}, {"8 / 1 0 1 / 1 1 2 / 1 2 3 / 1 3 4 / 1 4 5 / 1 5 6 / 1 6 7 / 1 0 7", []int{0, 2, 4, 6}}, {"8 / 9 6 7 / 9 7", []int{7}},
	} {
		checkHitting(t, systemOf(c.system), c.elements, true)
	}
	for _, text := range []string{"0 / 1", "3 / 1", "8 / 99", "3 / 1 0 / 1", "3 / 1 / 1 0", "2 / 1 0 1 / 1 / 1 0 1"} {
		checkHitting(t, systemOf(text), nil, false)
	}
}

// The packings of this test were worked out by hand.
func TestP6LargestPackingsByHand(t *testing.T) {
	for _, c := range []struct {
		system  string
		packing []int
	}{
		{chain, []int{0, 2}}, {"0", nil}, {"8", nil}, {"0 / 1", nil}, {"0 / 1 / 99", nil}, {"3 / 1 / 1", nil}, {"2 / 1 / 1 0 1", []int{1}}, {"2 / 1 0 / 1 / 1 1", []int{0, 2}}, // sets without elements are in no packing
		{"2 / 1 0 1 / 1 0 / 1 1", []int{1, 2}}, {"2 / 1 0 1 / 99 0 / 99 1", []int{1, 2}}, {"3 / 1 0 / 1 0 / 1 0", []int{0}}, {"3 / 1 0 1 2 / 1 0 1 2", []int{0}}, {"3 / 1 0 1 / 1 1 2 / 1 0 2", []int{0}}, // each two sets have a common element
		{"4 / 1 0 1 / 1 1 2 / 1 2 3 / 1 0 3", []int{0, 2}}, {"4 / 3 / 1 1 2 / 1 0 1 / 1 2 3 / 1 / 1 0 3", []int{1, 5}}, {"3 / 1 0 / 1 1 2 / 1 1 / 1 2", []int{0, 2, 3}}, // of several the first one
		{"8 / 1 0 / 1 1 / 1 2 / 1 3 / 1 4 / 1 5 / 1 6 / 1 7", []int{0, 1, 2, 3, 4, 5, 6, 7}}, {"8 / 1 0 1 / 1 1 2 / 1 2 3 / 1 3 4 / 1 4 5 / 1 5 6 / 1 6 7 / 1 0 7", []int{0, 2, 4, 6}}, {"8 / 1 1 2 3 4 5 6 7 / 1 0", []int{0, 1}}, {"4 / 1 0 1 2 / 1 0 1 / 1 0 / 1 3", []int{0, 3}},
	} {
		checkPacking(t, systemOf(c.system), c.packing)
	}
}

func TestP6PackingsAndHittingSetsOfManySystems(t *testing.T) {
	for _, s := range slices.Concat(manySystems(4), allSmallSystems()) {
		checkTurn(t, s, turnModel(s))
		least, fine := leastHittingModel(s)
		checkHitting(t, s, least, fine)
		checkPacking(t, s, packingModel(s))
	}
}

func TestP6AllListsOfElements(t *testing.T) {
	for _, s := range slices.Concat(manySystems(1), allSmallSystems()) {
		for _, elements := range setsModel(s.Size) {
			checkHits(t, s, elements, hitsModel(s, elements))
		}
	}
}

// The rest of this file tells guarantees of the program's own results alone.

func TestP6NoPackingHasMoreSetsThanAHittingSetHasElements(t *testing.T) {
	for _, s := range slices.Concat(manySystems(1), allSmallSystems()) {
		packing, one := impl.LargestPacking(s)
		if !one {
			t.Fatalf("LargestPacking of %s fails", systemText(s))
		}
		for _, elements := range setsModel(s.Size) {
			if hits, two := impl.IsHitting(s, elements); !two || hits && len(packing) > len(elements) {
				t.Fatalf("LargestPacking of %s = %v; the elements %v hit all sets: %v, %v", systemText(s), packing, elements, hits, two)
			}
		}
	}
}

func TestP6LeastHittingIsLeastCoverOfTurnSystem(t *testing.T) {
	for _, s := range slices.Concat(manySystems(4), allSmallSystems()) {
		turned, one := impl.TurnSystem(s)
		cover, two := impl.LeastCover(turned)
		hitting, three := impl.LeastHitting(s)
		if !one || two != three || !slices.Equal(cover, hitting) {
			t.Fatalf("LeastHitting of %s = %v, %v; LeastCover of its TurnSystem is %v, %v", systemText(s), hitting, three, cover, two)
		}
	}
}

// Turned twice, a System has its sets again, with the cost 1.
func TestP6TurnedTwice(t *testing.T) {
	for _, s := range slices.Concat(manySystems(2), allSmallSystems()) {
		turned, one := impl.TurnSystem(s)
		again, two := impl.TurnSystem(turned)
		want := impl.System{Size: s.Size, Sets: s.Sets, Costs: slices.Repeat([]int{1}, len(s.Sets))}
		checkSystem(t, "TurnSystem of TurnSystem of "+systemText(s), again, one && two, want)
	}
}

func TestP6PackingsAreFairPrices(t *testing.T) {
	for _, s := range slices.Concat(manySystems(2), allSmallSystems()) {
		packing, _ := impl.LargestPacking(s)
		prices := make([]int, len(s.Sets))
		for _, set := range packing {
			prices[set] = 1
		}
		turned, _ := impl.TurnSystem(s)
		if fair, ok := impl.ArePrices(turned, prices, 1); !ok || !fair {
			t.Fatalf("LargestPacking of %s = %v; as prices of its TurnSystem it is fair: %v, %v", systemText(s), packing, fair, ok)
		}
	}
}
