package tests

import (
	"slices"
	"testing"

	"loop.example/g01110/impl"
)

// checkSystemMemory tells checkMemory the costs and sets of a System as the
// opening costs and lengths of a Field.
func checkSystemMemory(t *testing.T, name string, s impl.System, list []int, of func(s impl.System, list []int) outcome) {
	t.Helper()
	checkMemory(t, name, impl.Field{Open: s.Costs, Dist: s.Sets}, list, func(f impl.Field, list []int) outcome {
		return of(impl.System{Size: s.Size, Sets: f.Dist, Costs: f.Open}, list)
	})
}

// checkAllSystemMemory calls all functions that take a System, perhaps with numbers beside it.
func checkAllSystemMemory(t *testing.T, s impl.System) {
	t.Helper()
	checkSystemMemory(t, "IsSystem", s, nil, func(s impl.System, _ []int) outcome { return ofReport(impl.IsSystem(s), true) })
	for name, of := range systemCalls() {
		checkSystemMemory(t, name, s, nil, func(s impl.System, _ []int) outcome { return of(s) })
	}
	for name, of := range coverageCalls() {
		for _, k := range []int{-1, 0, 1, 2, 5, 8, 9} {
			checkSystemMemory(t, name, s, nil, func(s impl.System, _ []int) outcome { return of(s, k) })
		}
	}
}

func TestP13SystemFunctionsModifyAndShareNothing(t *testing.T) {
	for _, s := range manySystems(1) {
		checkAllSystemMemory(t, s)
	}
}

func TestP13ChoiceFunctionsModifyAndShareNothing(t *testing.T) {
	for _, s := range append(namedSystems(), systemsOfAllSizes(70)...) {
		for name, of := range choiceCalls() {
			for _, choice := range setsModel(len(s.Sets)) {
				checkSystemMemory(t, name, s, choice, of)
			}
		}
		for name, of := range elementCalls() {
			for _, elements := range setsModel(s.Size) {
				checkSystemMemory(t, name, s, elements, of)
			}
		}
		n := &numbers{state: 71}
		lists, _ := pricesOfSystem(s, n)
		for name, of := range fairPriceCalls() {
			for _, prices := range lists {
				checkSystemMemory(t, name, s, prices, of)
			}
		}
	}
}

func TestP13ReachSystemsModifyAndShareNothing(t *testing.T) {
	for _, f := range memoryFields() {
		for _, r := range []int{-1, 0, 2, 9, 50, 99, 100} {
			checkMemory(t, "ReachSystem", f, nil, func(f impl.Field, _ []int) outcome { return ofSystem(impl.ReachSystem(f, r)) })
		}
	}
	for _, f := range badFields() {
		checkMemory(t, "ReachSystem", f, nil, func(f impl.Field, _ []int) outcome { return ofSystem(impl.ReachSystem(f, 5)) })
	}
}

func TestP13FailuresOfChapter6ModifyNothing(t *testing.T) {
	for _, s := range badSystems() {
		checkAllSystemMemory(t, s)
		for _, calls := range []map[string]func(impl.System, []int) outcome{choiceCalls(), elementCalls(), fairPriceCalls()} {
			for name, of := range calls {
				checkSystemMemory(t, name, s, []int{0}, of)
			}
		}
	}
	s := systemOf(chain)
	for _, calls := range []map[string]func(impl.System, []int) outcome{choiceCalls(), elementCalls()} {
		for name, of := range calls {
			for _, list := range badSets(3) {
				checkSystemMemory(t, name, s, list, of)
			}
		}
	}
	for name, of := range fairPriceCalls() {
		for _, prices := range badElementPrices(3) {
			checkSystemMemory(t, name, s, prices, of)
		}
	}
}

func TestP13IntervalsAreNotModified(t *testing.T) {
	for _, intervals := range slices.Concat(manyIntervals(1), badIntervals()) {
		roomyOnes := append(slices.Clone(intervals), [2]int{7, 7})
		before := slices.Clone(roomyOnes)
		for name, of := range map[string]func([][2]int) ([]int, bool){"StabPoints": impl.StabPoints, "ApartIntervals": impl.ApartIntervals} {
			first, one := of(roomyOnes[:len(intervals)])
			want := slices.Clone(first)
			second, two := of(roomyOnes[:len(intervals)])
			for place := range first {
				first[place] = -1
			}
			if one != two || !slices.Equal(second, want) || !slices.Equal(roomyOnes, before) {
				t.Fatalf("%s of %v = %v, %v and then %v, %v; the intervals are now %v", name, before, want, one, second, two, roomyOnes)
			}
		}
	}
}

// One list may be an argument in several places.
func TestP13ListsOfChapter6ThatAreGivenSeveralTimes(t *testing.T) {
	list := []int{1, 2, 3}
	s := impl.System{Size: 4, Sets: [][]int{list, list, list, list[:2], list[1:], list[:0]}, Costs: append(list, list...)}
	other := systemOf("4 / 1 1 2 3 / 2 1 2 3 / 3 1 2 3 / 1 1 2 / 2 2 3 / 3")
	for name, of := range systemCalls() {
		if got, want := of(s).text(), of(other).text(); got != want {
			t.Errorf("%s = %s; want %s", name, got, want)
		}
	}
	for name, of := range coverageCalls() {
		if got, want := of(s, 2).text(), of(other, 2).text(); got != want {
			t.Errorf("%s = %s; want %s", name, got, want)
		}
	}
	for _, calls := range []map[string]func(impl.System, []int) outcome{choiceCalls(), elementCalls(), fairPriceCalls()} {
		for name, of := range calls {
			for from := range 3 {
				if got, want := of(s, list[from:]).text(), of(other, []int{1, 2, 3}[from:]).text(); got != want {
					t.Errorf("%s = %s; want %s", name, got, want)
				}
			}
		}
	}
	equal := impl.System{Size: 4, Sets: [][]int{list, list, list}, Costs: list}
	if fair, ok := impl.ArePrices(equal, []int{0, 1, 0, 0}, 1); !ok || !fair {
		t.Errorf("ArePrices = %v, %v", fair, ok)
	}
	if prices, paid, ok := impl.RaisePrices(equal); !ok || !slices.Equal(prices, []int{0, 1, 0, 0}) || !slices.Equal(paid, []int{0}) {
		t.Errorf("RaisePrices = %v, %v, %v", prices, paid, ok)
	}
	if !slices.Equal(list, []int{1, 2, 3}) {
		t.Errorf("the list is now %v", list)
	}
}
