package tests

import (
	"math"
	"slices"
	"strconv"
	"testing"

	"loop.example/g01110/impl"
)

func ofSystem(s impl.System, ok bool) outcome {
	result := outcome{nil, strconv.Itoa(s.Size), ok}
	if len(s.Costs) > 0 || len(s.Sets) > 0 {
		result.lists = append([][]int{s.Costs}, s.Sets...)
	}
	return result
}

func ofTwoLists(one, two []int, ok bool) outcome {
	if len(one) == 0 && len(two) == 0 {
		return outcome{nil, "", ok}
	}
	return outcome{[][]int{one, two}, "", ok}
}

// systemCalls has the functions that take a System alone.
func systemCalls() map[string]func(s impl.System) outcome {
	return map[string]func(s impl.System) outcome{
		"LeastCover":     func(s impl.System) outcome { return ofList(impl.LeastCover(s)) },
		"GreedyCover":    func(s impl.System) outcome { return ofList(impl.GreedyCover(s)) },
		"GreedyPrices":   func(s impl.System) outcome { return ofList(impl.GreedyPrices(s)) },
		"RaisePrices":    func(s impl.System) outcome { return ofTwoLists(impl.RaisePrices(s)) },
		"TurnSystem":     func(s impl.System) outcome { return ofSystem(impl.TurnSystem(s)) },
		"LeastHitting":   func(s impl.System) outcome { return ofList(impl.LeastHitting(s)) },
		"LargestPacking": func(s impl.System) outcome { return ofList(impl.LargestPacking(s)) },
	}
}

// choiceCalls has the functions that take a System and a choice.
func choiceCalls() map[string]func(s impl.System, choice []int) outcome {
	return map[string]func(s impl.System, choice []int) outcome{
		"CoveredBy": func(s impl.System, choice []int) outcome { return ofList(impl.CoveredBy(s, choice)) },
		"IsCover":   func(s impl.System, choice []int) outcome { return ofReport(impl.IsCover(s, choice)) },
		"CostOf":    func(s impl.System, choice []int) outcome { return ofNumber(impl.CostOf(s, choice)) },
	}
}

// elementCalls has the function that takes a System and a list of elements.
func elementCalls() map[string]func(s impl.System, elements []int) outcome {
	return map[string]func(s impl.System, elements []int) outcome{
		"IsHitting": func(s impl.System, elements []int) outcome { return ofReport(impl.IsHitting(s, elements)) },
	}
}

// fairPriceCalls has the function that takes a System and prices, with several scales.
func fairPriceCalls() map[string]func(s impl.System, prices []int) outcome {
	calls := map[string]func(s impl.System, prices []int) outcome{}
	for _, scale := range []int{1, 2, 840, 999999, 1000000} {
		calls["ArePrices "+strconv.Itoa(scale)] = func(s impl.System, prices []int) outcome { return ofReport(impl.ArePrices(s, prices, scale)) }
	}
	return calls
}

// coverageCalls has the functions that take a System and a number of sets.
func coverageCalls() map[string]func(s impl.System, k int) outcome {
	return map[string]func(s impl.System, k int) outcome{
		"MostCovered":    func(s impl.System, k int) outcome { return ofList(impl.MostCovered(s, k)) },
		"GreedyCoverage": func(s impl.System, k int) outcome { return ofList(impl.GreedyCoverage(s, k)) },
	}
}

func badSystems() map[string]impl.System {
	list := func(n ...int) []int { return n }
	eight, nine := allBelow(8), allBelow(9)
	bad := map[string]impl.System{
		"9 sets": {Size: 1, Sets: slices.Repeat([][]int{{0}}, 9), Costs: slices.Repeat(list(1), 9)}, "9 sets without elements": {Sets: make([][]int, 9), Costs: slices.Repeat(list(1), 9)},
		"9 elements": {Size: 9, Sets: [][]int{nine}, Costs: list(1)}, "9 elements and sets": {Size: 9, Sets: slices.Repeat([][]int{nine}, 9), Costs: slices.Repeat(list(1), 9)},
		"9 costs": {Size: 1, Sets: slices.Repeat([][]int{{0}}, 8), Costs: slices.Repeat(list(1), 9)}, "7 costs": {Size: 1, Sets: slices.Repeat([][]int{{0}}, 8), Costs: slices.Repeat(list(1), 7)},
		"no costs": {Size: 1, Sets: [][]int{{0}}}, "no sets, a cost": {Size: 1, Costs: list(1)}, "empty, a cost": {Costs: list(1)}, "empty, a set": {Sets: [][]int{{}}}, "nil, a set": {Sets: [][]int{nil}}, "a cost too few": {Size: 2, Sets: [][]int{{0}, {1}}, Costs: list(1)}, "a cost too many": {Size: 2, Sets: [][]int{{0}, {1}}, Costs: list(1, 1, 1)},
		"twice": {Size: 2, Sets: [][]int{{0, 0}}, Costs: list(1)}, "descending": {Size: 2, Sets: [][]int{{1, 0}}, Costs: list(1)}, "later twice": {Size: 3, Sets: [][]int{{0, 1, 2}, {0, 1, 1}}, Costs: list(1, 1)}, "later descending": {Size: 3, Sets: [][]int{{0, 1, 2}, {}, {0, 2, 1}}, Costs: list(1, 1, 1)},
		"not there": {Size: 2, Sets: [][]int{{0, 2}}, Costs: list(1)}, "later not there": {Size: 2, Sets: [][]int{{0, 1}, {2}}, Costs: list(1, 1)}, "none there": {Sets: [][]int{{0}}, Costs: list(1)}, "8 not there": {Size: 8, Sets: [][]int{eight, nine}, Costs: list(1, 1)}, "all of 8 for 7": {Size: 7, Sets: [][]int{eight}, Costs: list(1)},
		"many sets": {Size: 1, Sets: slices.Repeat([][]int{{0}}, 100000), Costs: slices.Repeat(list(1), 100000)}, "many costs": {Size: 1, Sets: [][]int{{0}}, Costs: slices.Repeat(list(1), 100000)}, "many elements": {Size: 8, Sets: [][]int{make([]int, 100000)}, Costs: list(1)},
	}
	for _, n := range append(farNumbers(), 9, 10, 99) {
		name := strconv.Itoa(n)
		bad["size "+name], bad["size and a set "+name] = impl.System{Size: n}, impl.System{Size: n, Sets: [][]int{{0}}, Costs: list(1)}
		bad["size and an empty set "+name] = impl.System{Size: n, Sets: [][]int{{}}, Costs: list(1)}
		bad["element "+name], bad["last element "+name] = impl.System{Size: 8, Sets: [][]int{{n}}, Costs: list(1)}, impl.System{Size: 8, Sets: [][]int{{0}, {0, n}}, Costs: list(1, 1)}
		bad["first element "+name] = impl.System{Size: 8, Sets: [][]int{{n, 7}, {0}}, Costs: list(1, 1)}
	}
	for _, n := range append(farNumbers(), 0, 100, 101) {
		name := strconv.Itoa(n)
		bad["cost "+name], bad["last cost "+name] = impl.System{Size: 1, Sets: [][]int{{0}}, Costs: list(n)}, impl.System{Size: 1, Sets: [][]int{{0}, {}, {0}}, Costs: list(1, 99, n)}
		bad["cost of no element "+name] = impl.System{Sets: [][]int{{}}, Costs: list(n)}
	}
	return bad
}

func TestP6SystemsThatAreNotValid(t *testing.T) {
	for name, s := range badSystems() {
		if impl.IsSystem(s) {
			t.Errorf("%s: IsSystem is true", name)
		}
		for call, of := range systemCalls() {
			if got := of(s); !got.isZero() {
				t.Errorf("%s: %s = %s", name, call, got.text())
			}
		}
		for call, of := range coverageCalls() {
			for _, k := range append(farNumbers(), 0, 1, 2, 8, 9) {
				if got := of(s, k); !got.isZero() {
					t.Errorf("%s: %s for %d = %s", name, call, k, got.text())
				}
			}
		}
		for _, calls := range []map[string]func(impl.System, []int) outcome{choiceCalls(), elementCalls(), fairPriceCalls()} {
			for call, of := range calls {
				lists := [][]int{nil, {0}, {0, 1}, {1}, {8}, {-1}, allBelow(8), allBelow(9)}
				if s.Size >= 0 && s.Size <= 9 {
					lists = append(lists, make([]int, s.Size))
				}
				for _, list := range lists {
					if got := of(s, list); !got.isZero() {
						t.Errorf("%s: %s for %v = %s", name, call, list, got.text())
					}
				}
			}
		}
	}
}

func TestP6LimitsOfSystems(t *testing.T) {
	for _, s := range slices.Concat(manySystems(2), allSmallSystems()) {
		if !impl.IsSystem(s) {
			t.Errorf("IsSystem of %s is false", systemText(s))
		}
		_, hasCover := leastCoverModel(s)
		_, hasHitting := leastHittingModel(s)
		for call, of := range systemCalls() {
			fails := call == "LeastHitting" && !hasHitting || (call == "LeastCover" || call == "GreedyCover" || call == "GreedyPrices") && !hasCover
			if got := of(s); got.ok == fails || fails && !got.isZero() {
				t.Errorf("%s of %s = %s", call, systemText(s), got.text())
			}
		}
	}
}

// A nil slice is the same as an empty one.
func TestP6NilAndEmptyListsAreTheSame(t *testing.T) {
	empty := []int{}
	for _, pair := range [][2]impl.System{
		{{}, {Sets: [][]int{}, Costs: empty}}, {{Size: 3}, {Size: 3, Sets: [][]int{}, Costs: empty}},
		{{Size: 2, Sets: [][]int{nil, {0, 1}}, Costs: []int{1, 2}}, {Size: 2, Sets: [][]int{empty, {0, 1}}, Costs: []int{1, 2}}},
	} {
		if !impl.IsSystem(pair[0]) || !impl.IsSystem(pair[1]) {
			t.Errorf("IsSystem of %s or its like is false", systemText(pair[0]))
		}
		for call, of := range systemCalls() {
			if one, two := of(pair[0]).text(), of(pair[1]).text(); one != two {
				t.Errorf("%s of %s = %s and %s", call, systemText(pair[0]), one, two)
			}
		}
		for call, of := range choiceCalls() {
			if one, two := of(pair[0], nil).text(), of(pair[1], empty).text(); one != two {
				t.Errorf("%s of %s = %s and %s", call, systemText(pair[0]), one, two)
			}
		}
	}
}

// systemsOfAllSizes has a System with each number of elements and of sets.
func systemsOfAllSizes(state uint32) []impl.System {
	list := []impl.System{}
	n := &numbers{state: state}
	for size := range impl.MaxElements + 1 {
		for sets := range impl.MaxSystem + 1 {
			list = append(list, n.systemFrom(size, sets, 5, 99))
		}
	}
	return list
}

// checkLists calls functions with lists that are not valid.
func checkLists(t *testing.T, calls map[string]func(impl.System, []int) outcome, s impl.System, lists [][]int) {
	t.Helper()
	for call, of := range calls {
		for _, list := range lists {
			if got := of(s, list); !got.isZero() {
				t.Errorf("%s of %s for %.60s = %s", call, systemText(s), listOf(list), got.text())
			}
		}
	}
}

// Choices are bounded by the number of sets, lists of elements by the size.
func TestP6ChoicesAndElementsThatAreNotValid(t *testing.T) {
	for _, s := range systemsOfAllSizes(65) {
		checkLists(t, choiceCalls(), s, badSets(len(s.Sets)))
		checkLists(t, elementCalls(), s, badSets(s.Size))
		for call, of := range choiceCalls() {
			for _, choice := range setsModel(len(s.Sets)) {
				if got := of(s, choice); !got.ok {
					t.Errorf("%s of %s for %v = %s", call, systemText(s), choice, got.text())
				}
			}
		}
		for _, elements := range setsModel(s.Size) {
			if got := ofReport(impl.IsHitting(s, elements)); !got.ok {
				t.Errorf("IsHitting of %s for %v = %s", systemText(s), elements, got.text())
			}
		}
	}
}

// badElementPrices gives lists that are no prices for so many elements.
func badElementPrices(size int) [][]int {
	list := [][]int{make([]int, size+1), slices.Repeat([]int{1}, size+1), make([]int, size+100), make([]int, 100000)}
	for less := range size {
		list = append(list, make([]int, less))
	}
	if size > 0 {
		list = append(list, nil)
	}
	for _, n := range []int{-1, 1000001, -2, 1000002, 2000000, math.MinInt, math.MaxInt, math.MinInt + 1, 1 << 32, -1 << 32, 1<<32 + 1, 1 << 62, -1 << 62} {
		list = append(list, slices.Repeat([]int{n}, max(size, 1)))
		for element := range size {
			prices := make([]int, size)
			prices[element] = n
			list = append(list, prices)
		}
	}
	return list
}

func TestP6ElementPricesThatAreNotValid(t *testing.T) {
	for _, s := range systemsOfAllSizes(66) {
		checkLists(t, fairPriceCalls(), s, badElementPrices(s.Size))
	}
}

func TestP6ScalesThatAreNotValid(t *testing.T) {
	for _, s := range systemsOfAllSizes(67) {
		prices := make([]int, s.Size)
		for _, scale := range []int{0, 1000001, -1, -2, 1000002, 2000000, math.MinInt, math.MaxInt, math.MinInt + 1, math.MaxInt - 1, 1 << 32, -1 << 32, 1<<32 + 1, 1 << 62} {
			if got := ofReport(impl.ArePrices(s, prices, scale)); !got.isZero() {
				t.Errorf("ArePrices of %s for %v and %d = %s", systemText(s), prices, scale, got.text())
			}
		}
		for _, scale := range []int{1, 2, 999999, 1000000} {
			checkFairPrices(t, s, prices, scale, true)
		}
	}
}

func TestP6NumbersOfSetsThatAreNotValid(t *testing.T) {
	for _, s := range systemsOfAllSizes(68) {
		for call, of := range coverageCalls() {
			for _, k := range append(farNumbers(), impl.MaxSystem+1, impl.MaxSystem+2, 99) {
				if got := of(s, k); !got.isZero() {
					t.Errorf("%s of %s for %d = %s", call, systemText(s), k, got.text())
				}
			}
			for k := range impl.MaxSystem + 1 {
				if got := of(s, k); !got.ok {
					t.Errorf("%s of %s for %d = %s", call, systemText(s), k, got.text())
				}
			}
		}
	}
}

func TestP6HarmonicNumbersThatAreNotThere(t *testing.T) {
	for _, k := range append(farNumbers(), impl.MaxElements+1, impl.MaxElements+2, 99) {
		if got := ofNumber(impl.HarmonicOf(k)); !got.isZero() {
			t.Errorf("HarmonicOf(%d) = %s", k, got.text())
		}
	}
}

func TestP6FieldsAndRadiiThatAreNotValid(t *testing.T) {
	for name, f := range badFields() {
		for _, r := range append(farNumbers(), 0, 1, 50, 99, 100) {
			if got := ofSystem(impl.ReachSystem(f, r)); !got.isZero() {
				t.Errorf("%s: ReachSystem for %d = %s", name, r, got.text())
			}
		}
	}
	for _, f := range fieldsOfAllSizes(69) {
		for _, r := range append(farNumbers(), impl.MaxLength+1, impl.MaxLength+2) {
			if got := ofSystem(impl.ReachSystem(f, r)); !got.isZero() {
				t.Errorf("ReachSystem of %q for %d = %s", textOf(f), r, got.text())
			}
		}
		for _, r := range []int{0, 1, 98, 99} {
			checkReachSystem(t, f, r, reachSystemModel(f, r))
		}
	}
}

func badIntervals() [][][2]int {
	list := [][][2]int{
		{{1, 0}}, {{99, 0}}, {{99, 98}}, {{5, 4}}, {{-1, -1}}, {{100, 100}}, {{-1, 100}}, {{math.MinInt, math.MaxInt}}, {{math.MaxInt, math.MinInt}}, {{math.MinInt, math.MinInt}}, {{math.MaxInt, math.MaxInt}},
		slices.Repeat([][2]int{{0, 1}}, 13), make([][2]int, 13), make([][2]int, 14), make([][2]int, 100000), slices.Repeat([][2]int{{1, 0}}, 13),
	}
	for _, n := range append(farNumbers(), 100, 101) {
		list = append(list, [][2]int{{n, 5}}, [][2]int{{5, n}}, [][2]int{{n, n}}, [][2]int{{0, n}}, [][2]int{{n, 99}})
	}
	for place := range impl.MaxIntervals {
		for _, interval := range [][2]int{{3, 2}, {-1, 5}, {5, 100}, {-1, -1}, {100, 100}} {
			intervals := slices.Repeat([][2]int{{0, 99}}, impl.MaxIntervals)
			intervals[place] = interval
			list = append(list, intervals)
		}
	}
	return list
}

func TestP6IntervalsThatAreNotValid(t *testing.T) {
	for _, intervals := range badIntervals() {
		one, two := ofList(impl.StabPoints(intervals)), ofList(impl.ApartIntervals(intervals))
		if !one.isZero() || !two.isZero() {
			t.Errorf("StabPoints of %d intervals from %v on = %s, and ApartIntervals %s", len(intervals), intervals[0], one.text(), two.text())
		}
	}
}

func TestP6NamedLimits(t *testing.T) {
	got := []int{impl.MaxElements, impl.MaxSystem, impl.MaxSetCost, impl.PriceScale, impl.MaxIntervals}
	if want := []int{8, 8, 99, 840, 12}; !slices.Equal(got, want) {
		t.Errorf("the limits are %v; want %v", got, want)
	}
}
