package tests

import (
	"slices"
	"testing"

	"loop.example/g01110/impl"
)

// checkGameMemory tells checkMemory all lists of the arguments as lengths of a
// Field, behind those of the clients.
func checkGameMemory(t *testing.T, name string, a gameArguments, of func(a gameArguments) outcome) {
	t.Helper()
	clients := len(a.f.Dist)
	lists := slices.Concat(a.f.Dist, [][]int{a.shares, a.clients, a.order, a.leader})
	checkMemory(t, name, impl.Field{Open: a.f.Open, Dist: lists}, a.follower, func(f impl.Field, follower []int) outcome {
		b, rest := a, f.Dist[clients:]
		b.f, b.follower = impl.Field{Open: f.Open, Dist: f.Dist[:clients]}, follower
		b.shares, b.clients, b.order, b.leader = rest[0], rest[1], rest[2], rest[3]
		return of(b)
	})
}

// checkAllGameMemory calls all functions of chapter 9.
func checkAllGameMemory(t *testing.T, a gameArguments) {
	t.Helper()
	for call, of := range gameCalls() {
		checkGameMemory(t, call, a, of)
	}
}

func TestP13GameFunctionsModifyAndShareNothing(t *testing.T) {
	for _, state := range []uint32{120, 121} {
		for _, a := range gameSamples(state) {
			checkAllGameMemory(t, a)
			a.shares, _ = impl.AscentPrices(a.f)
			a.order, a.leader, a.follower = reversed(a.order), []int{0}, allBelow(len(a.f.Open))[1:]
			checkAllGameMemory(t, a)
		}
	}
}

func TestP13FailuresOfChapter9ModifyNothing(t *testing.T) {
	for _, f := range badFields() {
		checkAllGameMemory(t, gameArguments{f, make([]int, len(f.Dist)), []int{0}, allBelow(len(f.Dist)), []int{0}, []int{1}, 1, 1, 1, 1, 0, 1})
	}
	good := gameArguments{fieldOf(trio), []int{6, 8, 9}, []int{0, 2}, []int{2, 0, 1}, []int{1}, []int{0, 2}, 1, 1, 2, 2, 0, 1}
	for _, set := range append(badSets(3), nil) {
		a := good
		a.clients, a.leader = set, set
		checkAllGameMemory(t, a)
		a = good
		a.follower = set
		checkAllGameMemory(t, a)
	}
	for _, shares := range badShares(3) {
		a := good
		a.shares = shares
		checkAllGameMemory(t, a)
	}
	for _, order := range badOrders(3) {
		a := good
		a.order = order
		checkAllGameMemory(t, a)
	}
	for _, number := range append(outside(3), 0) {
		a := good
		a.firms, a.m, a.k, a.reply, a.a, a.b = number, number, number, number, number, number
		checkAllGameMemory(t, a)
	}
}

// One list may be an argument in several places.
func TestP13ListsOfChapter9ThatAreGivenSeveralTimes(t *testing.T) {
	list := []int{0, 1, 2}
	apart := func() []int { return []int{0, 1, 2} }
	one := gameArguments{impl.Field{Open: list, Dist: [][]int{list, list, list}}, list, list, list, list[:1], list[1:], 1, 1, 2, 2, 0, 1}
	two := gameArguments{impl.Field{Open: apart(), Dist: [][]int{apart(), apart(), apart()}}, apart(), apart(), apart(), apart()[:1], apart()[1:], 1, 1, 2, 2, 0, 1}
	for call, of := range gameCalls() {
		if got, want := of(one), of(two); got.text() != want.text() || !got.ok {
			t.Errorf("%s = %s; want %s", call, got.text(), want.text())
		}
	}
	if !slices.Equal(list, apart()) {
		t.Errorf("the list is now %v", list)
	}
}
