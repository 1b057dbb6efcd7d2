package tests

import (
	"math"
	"slices"
	"testing"

	"loop.example/g01110/impl"
)

// checkFlowMemory tells checkMemory all lists of the arguments as lengths of a
// Field, behind those of the clients.
func checkFlowMemory(t *testing.T, name string, a flowArguments, of func(a flowArguments) outcome) {
	t.Helper()
	clients := len(a.s.f.Dist)
	lists := slices.Concat(a.s.f.Dist, [][]int{a.s.rooms, a.s.needs, a.u, a.w}, a.flow)
	checkMemory(t, name, impl.Field{Open: a.s.f.Open, Dist: lists}, a.set, func(f impl.Field, set []int) outcome {
		given, rest := f.Dist[:clients], f.Dist[clients:]
		s := stock{impl.Field{Open: f.Open, Dist: given}, rest[0], rest[1]}
		return of(flowArguments{s, set, rest[4:], rest[2], rest[3], a.r, a.k})
	})
}

// checkAllFlowMemory calls all functions of chapter 7.
func checkAllFlowMemory(t *testing.T, a flowArguments) {
	t.Helper()
	for call, of := range flowCalls() {
		checkFlowMemory(t, call, a, of)
	}
}

func TestP13FlowFunctionsModifyAndShareNothing(t *testing.T) {
	n := &numbers{state: 91}
	for _, s := range manyStocks(1) {
		for _, set := range s.setsFor(n) {
			a := s.argumentsFor(set)
			a.r, a.k = n.below(100), 1+n.below(len(s.rooms))
			checkAllFlowMemory(t, a)
		}
	}
}

func TestP13FailuresOfChapter7ModifyNothing(t *testing.T) {
	for _, f := range badFields() {
		s := stock{f, make([]int, len(f.Open)), make([]int, len(f.Dist))}
		checkAllFlowMemory(t, flowArguments{s, []int{0}, [][]int{{0}}, []int{0}, []int{0}, 1, 1})
	}
	good := stockOf("4 3 1 / 1 5 2 / 6 2 2", "1 3 2", "2 2").argumentsFor([]int{0, 1, 2})
	bad := []flowArguments{}
	for _, list := range badLists(3, impl.MaxRoom) {
		a := good
		a.s.rooms = list
		bad = append(bad, a)
	}
	for _, list := range badLists(2, impl.MaxNeed) {
		a := good
		a.s.needs = list
		bad = append(bad, a)
	}
	for _, list := range badSets(3) {
		a := good
		a.set = list
		bad = append(bad, a)
	}
	for _, flow := range badFlowsFor(good) {
		a := good
		a.flow = flow
		bad = append(bad, a)
	}
	for _, prices := range badFlowPrices(3, 2) {
		a := good
		a.u, a.w = prices[0], prices[1]
		bad = append(bad, a)
	}
	for _, number := range []int{-1, math.MinInt, math.MaxInt} {
		a := good
		a.r, a.k = number, number
		bad = append(bad, a)
	}
	for _, a := range bad {
		checkAllFlowMemory(t, a)
	}
}

// One list may be an argument in several places.
func TestP13ListsOfChapter7ThatAreGivenSeveralTimes(t *testing.T) {
	list := []int{0, 1, 2}
	apart := func() []int { return []int{0, 1, 2} }
	rows := [][]int{list, list, list}
	one := flowArguments{stock{impl.Field{Open: list, Dist: rows}, list, list}, list, rows, list, list, 1, 2}
	two := flowArguments{stock{impl.Field{Open: apart(), Dist: [][]int{apart(), apart(), apart()}}, apart(), apart()}, apart(), [][]int{apart(), apart(), apart()}, apart(), apart(), 1, 2}
	for _, prices := range [][]int{list, {0, 0, 0}} {
		for call, of := range flowCalls() {
			one.u, two.u = prices, slices.Clone(prices)
			if got, want := of(one).text(), of(two).text(); got != want {
				t.Errorf("%s = %s; want %s", call, got, want)
			}
		}
	}
	flow, ok := impl.LeastFlow(one.s.f, list, list, list)
	if want := flowOf("0 0 0 / 0 0 1 / 0 1 1"); !ok || !sameRows(flow, want) {
		t.Errorf("LeastFlow = %v, %v; want %v", flow, ok, want)
	}
	if !slices.Equal(list, []int{0, 1, 2}) || len(rows) != 3 {
		t.Errorf("the list is now %v", list)
	}
}
