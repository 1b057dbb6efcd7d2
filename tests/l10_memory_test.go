package tests

import (
	"slices"
	"testing"

	"loop.example/g01110/impl"
)

// checkSeasonMemory tells checkMemory all lists of the arguments as lengths of a
// Field, one behind the other; rounds, plans and tables are parts of its list of
// lists, so that whatever is written into one of them or behind it is seen.
func checkSeasonMemory(t *testing.T, name string, a seasonArguments, of func(a seasonArguments) outcome) {
	t.Helper()
	lists := slices.Concat([][]int{a.s.Close, a.s.Keep, a.before}, a.plan, a.table)
	for _, clients := range a.s.Rounds {
		lists = append(lists, clients...)
	}
	checkMemory(t, name, impl.Field{Open: a.s.Open, Dist: lists}, a.set, func(f impl.Field, set []int) outcome {
		rest := f.Dist
		take := func(count int) [][]int {
			part := rest[:count]
			rest = rest[count:]
			return part
		}
		b := seasonArguments{impl.Season{Open: f.Open, Close: take(1)[0], Keep: take(1)[0]}, a.round, take(1)[0], set, take(len(a.plan)), take(len(a.table))}
		for _, clients := range a.s.Rounds {
			b.s.Rounds = append(b.s.Rounds, take(len(clients)))
		}
		rounds := append(b.s.Rounds, [][]int{{spareMark}})
		b.s.Rounds = rounds[:len(a.s.Rounds)]
		before := slices.Clone(rounds)
		result := of(b)
		if !slices.EqualFunc(rounds, before, sameRows) {
			t.Errorf("%s of %q modifies the list of rounds", name, seasonText(a.s))
		}
		return result
	})
}

// checkAllSeasonMemory calls all functions of chapter 10 that are told for a Season.
func checkAllSeasonMemory(t *testing.T, a seasonArguments) {
	t.Helper()
	for call, of := range seasonCalls() {
		checkSeasonMemory(t, call, a, of)
	}
	checkSeasonMemory(t, "IsSeason", a, func(a seasonArguments) outcome { return ofReport(impl.IsSeason(a.s), true) })
}

func TestP13SeasonFunctionsModifyAndShareNothing(t *testing.T) {
	for _, state := range []uint32{141, 142} {
		for _, a := range seasonSamples(state) {
			checkAllSeasonMemory(t, a)
			a.plan, _ = reachedPlan(a.s) // which a proof is told to be best
			checkAllSeasonMemory(t, a)
			a.table[0][0]++
			checkAllSeasonMemory(t, a)
		}
	}
	n := &numbers{state: 143}
	for _, s := range namedSeasons() {
		checkAllSeasonMemory(t, argumentsFor(s, n))
	}
}

func TestP13OnlineFunctionsModifyAndShareNothing(t *testing.T) {
	n := &numbers{state: 144}
	for _, f := range append(fieldsOfAllSizes(145), onlineFields(60)...) {
		for call, of := range onlineCalls() {
			checkMemory(t, call, f, n.orderFrom(len(f.Open)), of)
		}
	}
}

func TestP13FailuresOfChapter10ModifyNothing(t *testing.T) {
	for _, s := range badSeasons() {
		if len(s.Open) < 10 && len(s.Rounds) < 10 {
			checkAllSeasonMemory(t, fitArguments(s))
		}
	}
	good := argumentsFor(seasonOf(restSeason), &numbers{state: 146})
	for _, set := range append(badSets(2), nil) {
		a := good
		a.set = set
		checkAllSeasonMemory(t, a)
		a.before = set
		checkAllSeasonMemory(t, a)
	}
	for _, plan := range badPlans(good.s, good.plan) {
		a := good
		if a.plan = plan; len(plan) < 10 {
			checkAllSeasonMemory(t, a)
		}
	}
	for _, round := range outside(3) {
		a := good
		a.round = round
		checkAllSeasonMemory(t, a)
	}
	for _, table := range [][][]int{good.table[1:], append([][]int{{0, 0, 0, 0}}, good.table...), slices.Repeat([][]int{{0, 0, 0}}, 5), slices.Repeat([][]int{{0, 0, 0, 2000000}}, 5)} {
		a := good
		a.table = table
		checkAllSeasonMemory(t, a)
	}
	for _, f := range badFields() {
		for call, of := range onlineCalls() {
			checkMemory(t, call, f, []int{1, 0}, of)
		}
	}
	for _, order := range badOrders(3) {
		checkMemory(t, "NestedWorst", fieldOf(trio), order, onlineCalls()["NestedWorst o"])
	}
}

// One list may be an argument in several places.
func TestP13ListsOfChapter10ThatAreGivenSeveralTimes(t *testing.T) {
	list, sets := []int{0, 1}, [][]int{{0, 1}, {0, 1}}
	one := seasonArguments{impl.Season{Open: list, Close: list, Keep: list, Rounds: [][][]int{sets, sets}}, 1, list, list, sets, [][]int{{-1, -1, -1, -1}, {-1, -1, -1, -1}, {-1, -1, -1, -1}}}
	two := seasonArguments{seasonOf("0 1 / 0 1 / 0 1 | 0 1 / 0 1 | 0 1 / 0 1"), 1, []int{0, 1}, []int{0, 1}, [][]int{{0, 1}, {0, 1}}, copyRows(one.table)}
	short := impl.Season{Open: list[:1], Close: list[:1], Keep: list[1:], Rounds: [][][]int{{list[1:]}, nil, {list[:1], list[1:]}}}
	three := seasonArguments{short, 0, list[:1], list[:1], [][]int{list[:1], nil, list[:1]}, [][]int{list, list, list, list}}
	four := seasonArguments{seasonOf("0 / 0 / 1 | 1 | - | 0 / 1"), 0, []int{0}, []int{0}, [][]int{{0}, {}, {0}}, [][]int{{0, 1}, {0, 1}, {0, 1}, {0, 1}}}
	for call, of := range seasonCalls() {
		if got, want := of(one), of(two); got.text() != want.text() || !got.ok {
			t.Errorf("%s = %s; want %s", call, got.text(), want.text())
		}
		if got, want := of(three), of(four); got.text() != want.text() || !got.ok {
			t.Errorf("%s = %s; want %s", call, got.text(), want.text())
		}
	}
	f := impl.Field{Open: list, Dist: [][]int{list, list}}
	for call, of := range onlineCalls() {
		if got, want := of(f, list), of(fieldOf("0 1 / 0 1 / 0 1"), []int{0, 1}); got.text() != want.text() || !got.ok {
			t.Errorf("%s = %s; want %s", call, got.text(), want.text())
		}
	}
	if !slices.Equal(list, []int{0, 1}) || !sameRows(sets, [][]int{{0, 1}, {0, 1}}) {
		t.Errorf("the lists are now %v and %v", list, sets)
	}
}
