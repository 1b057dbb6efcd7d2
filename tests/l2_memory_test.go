package tests

import (
	"slices"
	"testing"

	"loop.example/g01110/impl"
)

const spareMark = 7777

// roomy gives a copy of a list with marked memory behind it, into which no function may write.
func roomy(list []int) []int {
	return append(slices.Clone(list), spareMark, spareMark, spareMark)[:len(list)]
}

func roomyField(f impl.Field) impl.Field {
	rows := [][]int{}
	for _, row := range f.Dist {
		rows = append(rows, roomy(row))
	}
	for range 8 {
		rows = append(rows, []int{spareMark})
	}
	return impl.Field{Open: roomy(f.Open), Dist: rows[:len(f.Dist)]}
}

// asRoomy tells whether a list is as roomy has made it from want.
func asRoomy(list, want []int) bool {
	return slices.Equal(list[:len(want)+3], append(slices.Clone(want), spareMark, spareMark, spareMark))
}

func asRoomyField(f, want impl.Field) bool {
	same := asRoomy(f.Open, want.Open) && len(f.Dist) == len(want.Dist)
	for client, row := range want.Dist {
		same = same && asRoomy(f.Dist[client], row)
	}
	for _, row := range f.Dist[len(want.Dist) : len(want.Dist)+8] {
		same = same && slices.Equal(row, []int{spareMark})
	}
	return same
}

// overwrite changes every number of a list, and reports whether another list of
// the same result is then another one, too.
func overwrite(lists [][]int, place int) bool {
	before := copyRows(lists)
	for i := range lists[place] {
		lists[place][i] = -12345
	}
	before[place] = lists[place]
	return !sameRows(lists, before)
}

// checkMemory calls a function three times, and spoils the results of the first
// call in between; nothing but these may be another one then.
func checkMemory(t *testing.T, name string, f impl.Field, set []int, call func(f impl.Field, set []int) outcome) {
	t.Helper()
	field, roomySet := roomyField(f), roomy(set)
	first := call(field, roomySet)
	want := first.text()
	second := call(field, roomySet)
	if second.text() != want {
		t.Errorf("%s of %q for %v is %s and then %s", name, textOf(f), set, want, second.text())
	}
	for place := range first.lists {
		if overwrite(first.lists, place) {
			t.Errorf("%s of %q for %v: two lists of the result share memory", name, textOf(f), set)
		}
	}
	if !asRoomyField(field, f) || !asRoomy(roomySet, set) {
		t.Errorf("%s of %q for %v modifies its arguments or shares their memory: %q, %v", name, textOf(f), set, textOf(field), roomySet)
	}
	if second.text() != want {
		t.Errorf("%s of %q for %v: two results share memory", name, textOf(f), set)
	}
	if third := call(field, roomySet); third.text() != want {
		t.Errorf("%s of %q for %v is %s and then %s", name, textOf(f), set, want, third.text())
	}
}

func memoryFields() []impl.Field {
	list := namedFields()
	n := &numbers{state: 6}
	for sites := 1; sites <= impl.MaxSites; sites++ {
		for clients := 0; clients <= impl.MaxClients; clients++ {
			list = append(list, n.fieldFrom(sites, clients, 9, 5), n.fieldFrom(sites, clients, 33, 33))
		}
	}
	return append(list, sparseFields()[:40]...)
}

func TestP13FieldFunctionsModifyAndShareNothing(t *testing.T) {
	for _, f := range memoryFields() {
		for name, of := range fieldCalls() {
			checkMemory(t, name, f, nil, func(f impl.Field, _ []int) outcome { return of(f) })
		}
		checkMemory(t, "IsField", f, nil, func(f impl.Field, _ []int) outcome { return ofReport(impl.IsField(f), true) })
	}
}

func TestP13SetFunctionsModifyAndShareNothing(t *testing.T) {
	for _, f := range memoryFields() {
		for name, of := range setCalls() {
			for _, set := range setsModel(len(f.Open)) {
				checkMemory(t, name, f, set, of)
			}
		}
	}
}

func TestP13FailuresModifyNothing(t *testing.T) {
	for _, f := range badFields() {
		for name, of := range fieldCalls() {
			checkMemory(t, name, f, nil, func(f impl.Field, _ []int) outcome { return of(f) })
		}
	}
	f := fieldOf("3 1 4 / 0 4 2 / 5 1 3")
	for name, of := range setCalls() {
		for _, set := range badSets(3) {
			checkMemory(t, name, f, set, of)
		}
	}
}

func TestP13ScaledAndJoinedFieldsAreNew(t *testing.T) {
	f, g := fieldOf("3 1 / 0 4 / 5 1"), fieldOf("3 1 / 2 2 / 6 7")
	for factor := -1; factor < 40; factor++ {
		checkMemory(t, "ScaleField", f, nil, func(f impl.Field, _ []int) outcome { return ofField(impl.ScaleField(f, factor)) })
	}
	other := roomyField(g)
	checkMemory(t, "JoinFields", f, nil, func(f impl.Field, _ []int) outcome { return ofField(impl.JoinFields(f, other)) })
	checkMemory(t, "JoinFields", f, nil, func(f impl.Field, _ []int) outcome { return ofField(impl.JoinFields(other, f)) })
	if !asRoomyField(other, g) {
		t.Errorf("JoinFields modifies its arguments or shares their memory: %q", textOf(other))
	}
}

// One list may be an argument in several places.
func TestP13ListsThatAreGivenSeveralTimes(t *testing.T) {
	list := []int{0, 1, 2}
	f := impl.Field{Open: list, Dist: [][]int{list, list, list}}
	apart := fieldOf("0 1 2 / 0 1 2 / 0 1 2 / 0 1 2")
	for name, of := range fieldCalls() {
		if got, want := of(f).text(), of(apart).text(); got != want {
			t.Errorf("%s = %s; want %s", name, got, want)
		}
	}
	for name, of := range setCalls() {
		if got, want := of(f, list).text(), of(apart, []int{0, 1, 2}).text(); got != want {
			t.Errorf("%s = %s; want %s", name, got, want)
		}
		if got, want := of(f, list[1:]).text(), of(apart, []int{1, 2}).text(); got != want {
			t.Errorf("%s = %s; want %s", name, got, want)
		}
	}
	if !slices.Equal(list, []int{0, 1, 2}) {
		t.Errorf("the list is now %v", list)
	}
}

func TestP13ParsedFieldsAreNew(t *testing.T) {
	for _, f := range memoryFields() {
		text := textOf(f)
		checkMemory(t, "ParseField", f, nil, func(impl.Field, []int) outcome { return ofField(impl.ParseField(text)) })
	}
}
