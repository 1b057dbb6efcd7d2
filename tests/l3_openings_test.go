package tests

import (
	"slices"
	"testing"

	"loop.example/g01110/impl"
)

func checkStars(t *testing.T, f impl.Field, want []int) {
	t.Helper()
	got, ok := impl.GreedyStars(f)
	checkList(t, "GreedyStars", f, nil, got, ok, want)
}

func checkLocal(t *testing.T, f impl.Field, set, want []int, count int) {
	t.Helper()
	end, moves, ok := impl.LocalOpening(f, set)
	checkList(t, "LocalOpening", f, set, end, ok, want)
	checkNumber(t, "the moves of LocalOpening", f, set, moves, ok, count)
	report, ok := impl.IsLocalOpening(f, set)
	checkReport(t, "IsLocalOpening", f, set, report, ok, count == 0)
}

// The sets of this test were worked out by hand.
func TestP3GreedyStarsByHand(t *testing.T) {
	for text, want := range map[string][]int{
		"5": {0}, "0": {0}, "3 1 2": {1}, "2 1 1": {1}, "2 0 3 0": {1}, "9 9 9": {0}, // no clients
		"0 / 0": {0}, "99 / 99": {0}, "7 / 1 / 2 / 99": {0},
		"4 3 / 1 5 / 6 2":                  {0, 1}, // 5/1 and 10/2 are equal: the first site, and then 5 is less than 6
		"2 2 / 1 1":                        {0},    // equal quotients of two sites
		"2 1 / 1 1":                        {1},
		"0 0 / 0 0":                        {0}, // opening costs of 0
		"0 0 / 1 0 / 0 1":                  {0, 1},
		"0 0 / 1 0 / 1 0":                  {1},
		"10 0 / 0 50 / 0 50 / 50 0":        {0, 1},
		"6 2 / 0 1 / 0 1":                  {1},    // 4/2 before 3/1 before 6/2
		"4 2 / 0 1 / 0 1":                  {0},    // 4/2 and 4/2
		"4 9 / 0 9 / 9 0":                  {0},    // the open site costs nothing more: 9/1 and 9/1
		"4 8 / 0 9 / 9 0":                  {0, 1}, // 8/1 before 9/1
		"9 4 / 0 9 / 9 0":                  {0, 1}, // 4/1, and then 9/1 is at the first site
		"9 4 / 1 9 / 9 0":                  {1},    // here at the open one
		"3 9 / 0 3 / 0 3 / 0 3 / 9 3":      {0},    // 3/3, and then 9/1 before 12/1
		"3 6 / 1 9 / 2 9 / 3 9 / 1 0":      {0},    // 10/4
		"3 6 / 1 9 / 2 9 / 3 9 / 9 0":      {0, 1}, // 9/3, 6/1
		"1 1 1 / 0 9 9 / 9 0 9 / 9 9 0":    {0, 1, 2},
		"99 99 99 / 0 9 9 / 9 0 9 / 0 0 0": {0},
	} {
		checkStars(t, fieldOf(text), want)
	}
}

func TestP3LocalOpeningByHand(t *testing.T) {
	for _, c := range []struct {
		field    string
		set, end []int
		moves    int
	}{
		{"4 3 / 1 5 / 6 2", []int{0}, []int{0, 1}, 1}, // opening comes before changing
		{"4 3 / 1 5 / 6 2", []int{1}, []int{1}, 0},    // 10, and no set has less
		{"4 3 / 1 5 / 6 2", []int{0, 1}, []int{0, 1}, 0},
		{"5", []int{0}, []int{0}, 0}, {"0 / 0", []int{0}, []int{0}, 0}, {"99 / 99", []int{0}, []int{0}, 0}, // the last site is not closed
		{"5 3", []int{0}, []int{1}, 1}, {"3 5", []int{0}, []int{0}, 0}, {"3 3", []int{1}, []int{1}, 0}, // no clients
		{"5 3", []int{0, 1}, []int{1}, 1}, // closing the first site is enough
		{"3 5", []int{0, 1}, []int{0}, 2}, // and here a change follows it
		{"1 1 1", []int{0, 1, 2}, []int{2}, 2},
		{"0 0 0", []int{0, 1, 2}, []int{0, 1, 2}, 0}, {"0 0 0", []int{1}, []int{1}, 0}, // opening costs of 0
		{"0 1 0", []int{1}, []int{0}, 1}, {"0 1 0", []int{0, 1, 2}, []int{0, 2}, 1}, {"0 1 0", []int{0, 2}, []int{0, 2}, 0},
		{"0 0 0 / 4 4 4", []int{2}, []int{2}, 0},                                                  // the same total everywhere
		{"0 0 / 3 2 / 2 3", []int{1}, []int{0, 1}, 1}, {"1 1 / 3 2 / 2 3", []int{1}, []int{1}, 0}, // a total that is not less
		{"9 9 9 / 0 5 5 / 1 5 5", []int{1, 2}, []int{0}, 2},                                                      // one site is closed, and then changed
		{"1 1 9 / 9 0 0 / 0 9 0", []int{2}, []int{2}, 0},                                                         // no move is less than 9, though both others together have 2
		{"5 9 5 / 0 0 9 / 9 0 0", []int{1}, []int{1}, 0}, {"5 9 5 / 0 0 9 / 9 0 0", []int{0, 2}, []int{0, 2}, 0}, // 9, and 10, from which two moves would lead to 9
	} {
		checkLocal(t, fieldOf(c.field), c.set, c.end, c.moves)
	}
}

func TestP3OpeningsOfManyFields(t *testing.T) {
	for _, list := range [][]impl.Field{manyFields(2), sparseFields()[:150], smallFields(1, 2, 4), smallFields(2, 1, 5), smallFields(2, 2, 2), smallFields(3, 1, 2), smallFields(3, 2, 1)} {
		for _, f := range list {
			checkStars(t, f, starsModel(f))
			for _, set := range setsModel(len(f.Open))[1:] {
				end, moves := localModel(f, set)
				checkLocal(t, f, set, end, moves)
			}
		}
	}
}

// The rest of this file tells guarantees of the program's own results alone.

func TestP3GreedyStarsAreWithinTheirShare(t *testing.T) {
	for _, f := range append(manyFields(8), lowFields()...) {
		share := 0 // in units of 1/420
		for n := range len(f.Dist) {
			share += 420 / (n + 1)
		}
		set, ok := impl.GreedyStars(f)
		total, fine := impl.TotalOf(f, set)
		least, _ := impl.BestTotal(f)
		if !ok || !fine || len(f.Dist) > 0 && total*420 > share*least {
			t.Fatalf("GreedyStars of %q = %v, %v with the total %d; BestTotal is %d", textOf(f), set, ok, total, least)
		}
	}
}

func TestP3LocalSetsOfMetricFieldsAreWithinThreeTimesTheLeast(t *testing.T) {
	for _, f := range metricFields() {
		least, _ := impl.BestTotal(f)
		for _, set := range setsModel(len(f.Open))[1:] {
			total, _ := impl.TotalOf(f, set)
			local, ok := impl.IsLocalOpening(f, set)
			if !ok || local && total > 3*least {
				t.Fatalf("IsLocalOpening of %q for %v = %v, %v; its total is %d, and BestTotal %d", textOf(f), set, local, ok, total, least)
			}
		}
	}
}

func TestP3LocalOpeningEndsAtALocalSet(t *testing.T) {
	for _, f := range manyFields(1) {
		for _, set := range setsModel(len(f.Open))[1:] {
			end, moves, ok := impl.LocalOpening(f, set)
			local, fine := impl.IsLocalOpening(f, end)
			before, _ := impl.TotalOf(f, set)
			after, _ := impl.TotalOf(f, end)
			if !ok || !fine || !local || after > before-moves || moves == 0 && !slices.Equal(end, set) {
				t.Fatalf("LocalOpening of %q for %v = %v, %d, %v; local is %v, the totals are %d and %d", textOf(f), set, end, moves, ok, local, before, after)
			}
		}
	}
}

func TestP3BestSetsAreLocal(t *testing.T) {
	for _, f := range manyFields(4) {
		best, _ := impl.BestSet(f)
		checkLocal(t, f, best, best, 0)
	}
}
