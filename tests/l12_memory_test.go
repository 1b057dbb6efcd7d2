package tests

import (
	"slices"
	"strconv"
	"strings"
	"testing"

	"loop.example/g01110/impl"
)

// checkAtlasMemory tells checkMemory the List of an Edit as lengths of a Field,
// behind those of the clients, and Open as a set.
func checkAtlasMemory(t *testing.T, name string, a editArguments, of func(a editArguments) outcome) {
	t.Helper()
	clients := len(a.x.Field.Dist)
	checkMemory(t, name, impl.Field{Open: a.x.Field.Open, Dist: append(slices.Clone(a.x.Field.Dist), a.e.List)}, a.x.Open, func(f impl.Field, set []int) outcome {
		b := a
		b.x.Field, b.x.Open, b.e.List = impl.Field{Open: f.Open, Dist: f.Dist[:clients]}, set, f.Dist[clients]
		return of(b)
	})
}

func checkAllAtlasMemory(t *testing.T, a editArguments) {
	t.Helper()
	for call, of := range editCalls() {
		checkAtlasMemory(t, call, a, of)
	}
	checkAtlasMemory(t, "IsAtlas", a, func(a editArguments) outcome { return ofReport(impl.IsAtlas(a.x), true) })
	checkAtlasMemory(t, "IsValidConsole", a, func(a editArguments) outcome {
		return ofReport(impl.IsValidConsole(impl.Console{Atlas: a.x, Log: a.l}), true)
	})
	checkAtlasMemory(t, "NewAtlas", a, func(a editArguments) outcome { return ofAtlas(impl.NewAtlas(a.x.Field)) })
	for _, line := range memoryLines() {
		checkAtlasMemory(t, "ExecuteCommand "+line, a, func(a editArguments) outcome {
			return ofConsole(impl.ExecuteCommand(impl.Console{Atlas: a.x, Log: a.l}, line))
		})
	}
}

// memoryLines has each kind of command, and some that are refused or fail.
func memoryLines() []string {
	return []string{"open 0", "close 0", "swap 0 1", "cost 0 9", "length 0 0 9", "site 5", "site 5 5 5", "client 5 5", "client 5", "dropsite 0", "dropclient 0", "improve", "best", "total", "served", "field", "prices", "median 1", "what", "", "a#"}
}

func TestP13AtlasFunctionsModifyAndShareNothing(t *testing.T) {
	n := &numbers{state: 211}
	for _, x := range append(namedAtlases(), atlasesOfAllSizes(212)...) {
		x.Count = min(x.Count, 990)
		for range 4 {
			checkAllAtlasMemory(t, editArguments{x, n.editFrom(x), logOf(1, "total", "?", "gap", "1")})
		}
		sites, clients := len(x.Field.Open), len(x.Field.Dist)
		for _, e := range []impl.Edit{{Kind: impl.EditSite, A: 5, List: n.listFrom(clients, 99)}, {Kind: impl.EditClient, List: n.listFrom(sites, 99)}} {
			checkAllAtlasMemory(t, editArguments{x, e, impl.Log{}})
		}
	}
}

// What is refused comes back as a Console of its own.
func TestP13FailuresOfChapter12ModifyNothing(t *testing.T) {
	full := logOf(30, slices.Repeat([]string{"gap", "?"}, 60)...)
	for _, x := range badAtlases() {
		if len(x.Field.Open) < 10 && len(x.Field.Dist) < 10 && len(x.Open) < 10 {
			checkAllAtlasMemory(t, editArguments{x, impl.Edit{Kind: impl.EditClient, List: []int{1, 2}}, impl.Log{}})
		}
	}
	for _, x := range namedAtlases() {
		for _, l := range []impl.Log{full, {Count: 1}, {Pending: "a"}} {
			checkAllAtlasMemory(t, editArguments{x, impl.Edit{Kind: impl.EditSite, List: []int{1, 2, 100}}, l})
		}
		for _, kind := range []int{-1, 0, 12} {
			checkAllAtlasMemory(t, editArguments{x, impl.Edit{Kind: kind, List: []int{1, 2}}, full})
		}
	}
}

// Each Edit has a list of its own, and none of them is kept.
func TestP13ListsOfEdits(t *testing.T) {
	x := atlasOf("4 3 / 1 5 / 6 2 | 0 | 0")
	edits := func() []impl.Edit {
		return []impl.Edit{{Kind: impl.EditClient, List: roomy([]int{7, 8})}, {Kind: impl.EditSite, A: 9, List: roomy([]int{1, 2, 3})}, {Kind: impl.EditDropClient, A: 1}, {Kind: impl.EditDropSite, A: 1}, {Kind: impl.EditBest}, {Kind: impl.EditClose, A: 1}}
	}
	list := append(edits(), impl.Edit{Kind: spareMark})
	for count := range 7 {
		first, _, _ := impl.EditAll(x, list[:count])
		want := atlasText(first)
		second, made, ok := impl.EditAll(x, list[:count])
		for _, row := range append([][]int{first.Field.Open, first.Open}, first.Field.Dist...) {
			for place := range row {
				row[place] = -1
			}
			_ = append(row, -1, -1, -1, -1)
		}
		third, _, _ := impl.EditAll(x, list[:count])
		if !ok || made > count || atlasText(second) != want || atlasText(third) != want || atlasText(x) != "4 3 / 1 5 / 6 2 | 0 | 0" {
			t.Errorf("with %d Edits: %q, %q and %q, from %q", count, want, atlasText(second), atlasText(third), atlasText(x))
		}
		for place, e := range edits() {
			if editText(list[place]) != editText(e) || len(e.List) > 0 && !asRoomy(list[place].List, e.List) {
				t.Errorf("with %d Edits, the one at %d is now %s", count, place, editText(list[place]))
			}
		}
	}
	if list[6].Kind != spareMark {
		t.Errorf("the list has %s behind it", editText(list[6]))
	}
}

// One list may be the whole Field, the open sites and the List of an Edit.
func TestP13ListsOfChapter12ThatAreGivenSeveralTimes(t *testing.T) {
	list := []int{0, 1, 2}
	one := impl.Atlas{Field: impl.Field{Open: list, Dist: [][]int{list, list, list}}, Open: list, Count: 5}
	two := atlasOf("0 1 2 / 0 1 2 / 0 1 2 / 0 1 2 | 0 1 2 | 5")
	edits := []impl.Edit{{Kind: impl.EditSite, A: 9, List: list}, {Kind: impl.EditClient, List: list}, {Kind: impl.EditCost, A: 1, B: 50}, {Kind: impl.EditLength, A: 1, B: 1, C: 50}, {Kind: impl.EditClose, A: 1}, {Kind: impl.EditDropClient, A: 1}, {Kind: impl.EditBest}, {Kind: impl.EditImprove}}
	for _, e := range edits {
		other := e
		other.List = slices.Clone(e.List)
		for call, of := range editCalls() {
			if got, want := of(editArguments{one, e, impl.Log{}}), of(editArguments{two, other, impl.Log{}}); got.text() != want.text() || !got.ok {
				t.Errorf("%s for %s = %s; want %s", call, editText(e), got.text(), want.text())
			}
		}
	}
	for _, line := range []string{"cost 1 50", "length 1 1 50", "site 9 0 1 2", "client 0 1 2", "close 1", "dropclient 0", "best", "improve", "field", ""} {
		want, reply := executeModel(impl.Console{Atlas: two}, line)
		checkExecuted(t, impl.Console{Atlas: one}, line, want, reply)
	}
	if !slices.Equal(list, []int{0, 1, 2}) {
		t.Errorf("the list is now %v", list)
	}
}

// An earlier Console stays as it is while others go on from it.
func TestP13ConsolesAreApart(t *testing.T) {
	n := &numbers{state: 213}
	for _, x := range namedAtlases() {
		c, _ := impl.NewConsole(x)
		consoles, told := []impl.Console{c}, []string{consoleText(c)}
		for range 40 {
			from := consoles[n.below(len(consoles))]
			next, _ := impl.ExecuteCommand(from, n.lineFrom(from.Atlas))
			consoles, told = append(consoles, next), append(told, consoleText(next))
		}
		for place, c := range consoles {
			if consoleText(c) != told[place] {
				t.Errorf("a Console was %s and is %s", told[place], consoleText(c))
			}
		}
		for place, c := range consoles { // spoil one after the other
			for _, row := range append([][]int{c.Atlas.Field.Open, c.Atlas.Open}, c.Atlas.Field.Dist...) {
				for at := range row {
					row[at] = -1
				}
			}
			for after := place + 1; after < len(consoles); after++ {
				if consoleText(consoles[after]) != told[after] {
					t.Errorf("two Consoles share memory: %s", told[after])
				}
			}
		}
	}
}

func TestP13RecordsAndRepliesAreNew(t *testing.T) {
	l := logOf(1, "total", "?", "gap", "1")
	c := impl.Console{Atlas: atlasOf(twoOpen), Log: l}
	records, _ := impl.LogRecords(l)
	replies, _ := impl.RunScript(c, "metric\nlocal\nwhat")
	wantRecords, wantReplies := slices.Clone(records), slices.Clone(replies)
	for place := range records {
		records[place] = impl.LogRecord{Command: "changed"}
	}
	for place := range replies {
		replies[place] = "changed"
	}
	_ = append(records[:0], impl.LogRecord{}, impl.LogRecord{})
	_ = append(replies[:0], "", "", "")
	again, one := impl.LogRecords(l)
	told, two := impl.RunScript(c, "metric\nlocal\nwhat")
	if !one || !two || !slices.Equal(again, wantRecords) || !slices.Equal(told, wantReplies) {
		t.Errorf("%q and %q are then %q and %q", wantRecords, strings.Join(wantReplies, "|"), again, strings.Join(told, "|"))
	}
	if n, ok := impl.ReplayLog(c.Atlas, l); !ok || n != 0 {
		t.Errorf("ReplayLog = %s, %v", strconv.Itoa(n), ok)
	}
}
