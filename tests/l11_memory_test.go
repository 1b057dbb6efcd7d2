package tests

import (
	"slices"
	"testing"

	"loop.example/g01110/impl"
)

// checkFrontMemory tells checkMemory the set and the weights as lengths of a
// Field, behind those of the clients.
func checkFrontMemory(t *testing.T, name string, a frontArguments, of func(a frontArguments) outcome) {
	t.Helper()
	clients := len(a.f.Dist)
	checkMemory(t, name, impl.Field{Open: a.f.Open, Dist: append(slices.Clone(a.f.Dist), a.weights)}, a.set, func(f impl.Field, set []int) outcome {
		b := a
		b.f, b.set, b.weights = impl.Field{Open: f.Open, Dist: f.Dist[:clients]}, set, f.Dist[clients]
		return of(b)
	})
}

// checkGroundMemory tells checkMemory all lists of the arguments as lengths of a
// Field, one behind the other.
func checkGroundMemory(t *testing.T, name string, a groundArguments, of func(a groundArguments) outcome) {
	t.Helper()
	checkMemory(t, name, impl.Field{Open: a.hubs, Dist: slices.Concat(a.m, a.groups, a.flows)}, a.set, func(f impl.Field, set []int) outcome {
		b, groups, flows := a, len(a.m), len(a.m)+len(a.groups)
		b.m, b.groups, b.flows, b.set, b.hubs = f.Dist[:groups], f.Dist[groups:flows], f.Dist[flows:], set, f.Open
		return of(b)
	})
}

func checkAllFrontMemory(t *testing.T, a frontArguments) {
	t.Helper()
	for call, of := range frontCalls() {
		checkFrontMemory(t, call, a, of)
	}
}

func checkAllGroundMemory(t *testing.T, a groundArguments) {
	t.Helper()
	for call, of := range groundCalls() {
		checkGroundMemory(t, call, a, of)
	}
	checkGroundMemory(t, "IsGround", a, func(a groundArguments) outcome { return ofReport(impl.IsGround(a.m), true) })
}

func TestP13FrontFunctionsModifyAndShareNothing(t *testing.T) {
	for _, state := range []uint32{177, 178} {
		for _, a := range frontSamples(state) {
			for b := 1; b <= objectives; b++ {
				a.objective, a.b = b, b
				checkAllFrontMemory(t, a)
			}
			a.limit, a.set, a.weights = 1, allBelow(len(a.f.Open)), slices.Repeat([]int{1}, len(a.f.Dist))
			checkAllFrontMemory(t, a)
		}
	}
	for _, f := range namedFields() {
		checkAllFrontMemory(t, frontArguments{f, []int{0}, make([]int, len(f.Dist)), 1, impl.ObjPayment, impl.ObjService, 9, 1})
	}
}

func TestP13GroundFunctionsModifyAndShareNothing(t *testing.T) {
	for _, state := range []uint32{179, 180} {
		for _, a := range groundSamples(state) {
			checkAllGroundMemory(t, a)
			a.d = 2
			a.groups = nearGroupsModel(a.m, 2)
			checkAllGroundMemory(t, a)
		}
	}
	n := &numbers{state: 181}
	for _, m := range namedGrounds() {
		checkAllGroundMemory(t, groundArguments{m, n.groupsFrom(len(m)), n.flowsFrom(len(m), 9), allBelow(len(m)), allBelow(len(m)), len(m), 10, 2, 5})
	}
}

// Points are arrays, so that the lists of them are looked at apart.
func TestP13FrontsAreNew(t *testing.T) {
	for _, f := range namedFields() {
		first, one := impl.FrontOf(f, impl.ObjPayment, impl.ObjService)
		want := slices.Clone(first)
		second, two := impl.FrontOf(f, impl.ObjPayment, impl.ObjService)
		for place := range first {
			first[place] = [2]int{-1, -1}
		}
		third, three := impl.FrontOf(f, impl.ObjPayment, impl.ObjService)
		if !one || !two || !three || !slices.Equal(second, want) || !slices.Equal(third, want) {
			t.Errorf("FrontOf %q = %v, then %v and %v", textOf(f), want, second, third)
		}
	}
}

func TestP13FailuresOfChapter11ModifyNothing(t *testing.T) {
	for _, f := range badFields() {
		if len(f.Open) < 10 && len(f.Dist) < 10 {
			checkAllFrontMemory(t, frontArguments{f, []int{0}, make([]int, len(f.Dist)), 1, 1, 2, 2000, 1})
		}
	}
	good := frontArguments{fieldOf(trio), []int{0, 2}, []int{1, 2, 3}, 1, 2, 3, 9, 2}
	for _, list := range append(badSets(3), badLists(3, 99)...) {
		a := good
		a.set, a.weights = list, list
		checkAllFrontMemory(t, a)
		a.set = good.set
		checkAllFrontMemory(t, a)
	}
	for _, number := range append(outside(6), 0) {
		a := good
		a.objective, a.a, a.k = number, number, number
		checkAllFrontMemory(t, a)
	}
	for _, m := range badGrounds() {
		if len(m) < 10 {
			checkAllGroundMemory(t, groundArguments{m, [][]int{allBelow(len(m))}, slices.Repeat([][]int{make([]int, len(m))}, len(m)), allBelow(len(m)), allBelow(len(m)), 2, 9, 2, 5})
		}
	}
	fine := groundArguments{groundOf(villages), [][]int{{1, 0}, {3}, {2}}, rowsOf(pairwise), []int{0, 2}, []int{0, 0, 2, 2}, 3, 3, 2, 5}
	for _, set := range badSets(4) {
		a := fine
		a.set = set
		checkAllGroundMemory(t, a)
	}
	for _, hubs := range badHubs(4) {
		a := fine
		a.hubs = hubs
		checkAllGroundMemory(t, a)
	}
	for _, groups := range badGroups(4) {
		if a := fine; len(groups) < 10 {
			a.groups = groups
			checkAllGroundMemory(t, a)
		}
	}
	for _, flows := range badFlowTables(4) {
		if a := fine; len(flows) < 10 {
			a.flows = flows
			checkAllGroundMemory(t, a)
		}
	}
	for _, number := range append(outside(100), 0) {
		a := fine
		a.k, a.d, a.most, a.discount = number, number, number, number
		checkAllGroundMemory(t, a)
	}
}

// One list may be an argument in several places.
func TestP13ListsOfChapter11ThatAreGivenSeveralTimes(t *testing.T) {
	list := []int{0, 1, 2}
	one := frontArguments{impl.Field{Open: list, Dist: [][]int{list, list, list}}, list, list, 3, 2, 4, 5, 2}
	two := frontArguments{fieldOf("0 1 2 / 0 1 2 / 0 1 2 / 0 1 2"), []int{0, 1, 2}, []int{0, 1, 2}, 3, 2, 4, 5, 2}
	for call, of := range frontCalls() {
		if got, want := of(one), of(two); got.text() != want.text() || !got.ok {
			t.Errorf("%s = %s; want %s", call, got.text(), want.text())
		}
	}
	zero := []int{0, 0}
	table := [][]int{zero, zero}
	three := groundArguments{table, table, table, list[:2], zero, 2, 1, 2, 5}
	four := groundArguments{[][]int{{0, 0}, {0, 0}}, [][]int{{0, 0}, {0, 0}}, [][]int{{0, 0}, {0, 0}}, []int{0, 1}, []int{0, 0}, 2, 1, 2, 5}
	m := [][]int{{0, 1}, {1, 0}} // a ground, flows, groups that are none, and an allocation are parts of one table
	five := groundArguments{m, m, m, m[0], m[0], 2, 5, 2, 5}
	six := groundArguments{[][]int{{0, 1}, {1, 0}}, [][]int{{0, 1}, {1, 0}}, [][]int{{0, 1}, {1, 0}}, []int{0, 1}, []int{0, 1}, 2, 5, 2, 5}
	for call, of := range groundCalls() {
		if got, want := of(three), of(four); got.text() != want.text() || !got.ok {
			t.Errorf("%s = %s; want %s", call, got.text(), want.text())
		}
		if got, want := of(five), of(six); got.text() != want.text() || !got.ok {
			t.Errorf("%s = %s; want %s", call, got.text(), want.text())
		}
	}
	if !slices.Equal(list, []int{0, 1, 2}) || !slices.Equal(zero, []int{0, 0}) || !sameRows(m, [][]int{{0, 1}, {1, 0}}) {
		t.Errorf("the lists are now %v, %v and %v", list, zero, m)
	}
}
