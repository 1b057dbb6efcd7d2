package tests

import (
	"math"
	"slices"
	"strconv"
	"strings"
	"testing"

	"loop.example/g01110/impl"
)

func ofAtlas(x impl.Atlas, ok bool) outcome {
	if atlasText(x) == atlasText(impl.Atlas{}) {
		return outcome{nil, "", ok}
	}
	o := ofField(x.Field, ok)
	if len(x.Open) > 0 {
		o.lists = append(o.lists, x.Open)
	}
	o.rest = strconv.Itoa(x.Count)
	return o
}

func ofConsole(c impl.Console, reply string) outcome {
	o := ofAtlas(c.Atlas, true)
	o.rest += " " + logText(c.Log) + " " + reply
	return o
}

// editArguments has what the functions of chapter 12 take that are told for an Atlas.
type editArguments struct {
	x impl.Atlas
	e impl.Edit
	l impl.Log
}

// editCalls has those of them that fail for Atlases that are not valid. With o,
// the Atlas has to have an open site; with l, the log has to be valid, and with
// e, the Edit to be possible.
func editCalls() map[string]func(a editArguments) outcome {
	return map[string]func(a editArguments) outcome{
		"NewConsole": func(a editArguments) outcome {
			c, ok := impl.NewConsole(a.x)
			return ofAtlas(c.Atlas, ok)
		},
		"EditAtlas e": func(a editArguments) outcome { return ofAtlas(impl.EditAtlas(a.x, a.e)) },
		"EditAll": func(a editArguments) outcome {
			x, made, ok := impl.EditAll(a.x, []impl.Edit{a.e, a.e, {Kind: impl.EditBest}})
			o := ofAtlas(x, ok)
			if made > 0 {
				o.rest += " " + strconv.Itoa(made)
			}
			return o
		},
		"EditAll of nothing": func(a editArguments) outcome {
			x, made, ok := impl.EditAll(a.x, nil)
			o := ofAtlas(x, ok)
			if made > 0 {
				o.rest += " " + strconv.Itoa(made)
			}
			return o
		},
		"AtlasTotal o": func(a editArguments) outcome { return ofNumber(impl.AtlasTotal(a.x)) },
		"AtlasGap o":   func(a editArguments) outcome { return ofNumber(impl.AtlasGap(a.x)) },
		"RunScript l": func(a editArguments) outcome {
			replies, ok := impl.RunScript(impl.Console{Atlas: a.x, Log: a.l}, "best\ntotal\nserved\nimprove\nfield")
			return ofText(strings.Join(replies, "|"), ok)
		},
		"ReplayLog l": func(a editArguments) outcome { return ofNumber(impl.ReplayLog(a.x, a.l)) },
	}
}

// edgeEdits has for each kind an Edit that is possible in the Atlas twoOpen.
func edgeEdits() []impl.Edit {
	return []impl.Edit{
		{Kind: impl.EditOpen, A: 1}, {Kind: impl.EditClose, A: 2}, {Kind: impl.EditSwap, A: 2, B: 1}, {Kind: impl.EditCost, A: 1, B: 99}, {Kind: impl.EditLength, A: 1, B: 2, C: 99}, {Kind: impl.EditSite, A: 99, List: []int{99, 0}},
		{Kind: impl.EditClient, List: []int{99, 0, 99}}, {Kind: impl.EditDropSite, A: 1}, {Kind: impl.EditDropClient, A: 1}, {Kind: impl.EditImprove}, {Kind: impl.EditBest},
	}
}

// badAtlases gives Atlases with a Field, a set of open sites or a Count that are not valid.
func badAtlases() map[string]impl.Atlas {
	bad := map[string]impl.Atlas{"nothing": {}}
	for name, f := range badFields() {
		bad["a Field with "+name] = impl.Atlas{Field: f}
		bad["an open site and a Field with "+name] = impl.Atlas{Field: f, Open: []int{0}, Count: 1}
	}
	for sites := 1; sites <= 7; sites++ {
		f := impl.Field{Open: make([]int, sites), Dist: [][]int{make([]int, sites)}}
		for place, set := range badSets(sites) {
			if len(set) > 0 {
				bad["the open sites "+strconv.Itoa(place)+" of "+strconv.Itoa(sites)] = impl.Atlas{Field: f, Open: set}
			}
		}
	}
	for _, count := range outside(1000) {
		bad["the Count "+strconv.Itoa(count)] = impl.Atlas{Field: fieldOf(stage), Open: []int{0}, Count: count}
	}
	return bad
}

func TestP12Limits(t *testing.T) {
	limits := []int{impl.MaxCount, impl.MaxRecords, impl.MaxCommand, impl.MaxReply, impl.MaxScriptLines, impl.LogOK, impl.LogInvalid, impl.LogFull}
	if want := []int{1000, 60, 160, 200, 30, 0, 1, 2}; !slices.Equal(limits, want) {
		t.Errorf("the limits and codes are %v; want %v", limits, want)
	}
	kinds := []int{impl.EditOpen, impl.EditClose, impl.EditSwap, impl.EditCost, impl.EditLength, impl.EditSite, impl.EditClient, impl.EditDropSite, impl.EditDropClient, impl.EditImprove, impl.EditBest}
	if want := []int{1, 2, 3, 4, 5, 6, 7, 8, 9, 10, 11}; !slices.Equal(kinds, want) {
		t.Errorf("the kinds of Edits are %v; want %v", kinds, want)
	}
}

func TestP12ArgumentsThatAreValid(t *testing.T) {
	for _, x := range append(namedAtlases(), atlasesOfAllSizes(209)...) {
		for call, of := range editCalls() {
			mayFail := strings.HasSuffix(call, " o") && len(x.Open) == 0 || strings.HasSuffix(call, " e") && x.Count == 1000
			got := of(editArguments{x, impl.Edit{Kind: impl.EditBest}, logOf(1, "total", "?", "gap", "?")})
			if got.ok == mayFail || !got.ok && !got.isZero() {
				t.Errorf("%s of %q = %s", call, atlasText(x), got.text())
			}
		}
	}
}

func TestP12AtlasesThatAreNotValid(t *testing.T) {
	for name, x := range badAtlases() {
		if impl.IsAtlas(x) {
			t.Errorf("%s: IsAtlas is true", name)
		}
		for _, l := range []impl.Log{{}, logOf(1, "open 0", "0", "total", "11")} {
			for _, e := range append(edgeEdits(), impl.Edit{Kind: impl.EditOpen}, impl.Edit{Kind: impl.EditClose}, impl.Edit{Kind: impl.EditDropClient}, impl.Edit{}) {
				for call, of := range editCalls() {
					if got := of(editArguments{x, e, l}); !got.isZero() {
						t.Errorf("%s: %s for %s = %s", name, call, editText(e), got.text())
					}
				}
			}
			c := impl.Console{Atlas: x, Log: l}
			if impl.IsValidConsole(c) {
				t.Errorf("%s: IsValidConsole is true", name)
			}
			if len(x.Field.Open) > 10 || len(x.Field.Dist) > 10 || len(x.Open) > 10 {
				continue
			}
			for _, line := range []string{"best", "open 0", "metric", "", "#"} {
				checkExecuted(t, c, line, c, "no")
			}
		}
	}
	for name, f := range badFields() {
		if x, ok := impl.NewAtlas(f); ok || atlasText(x) != atlasText(impl.Atlas{}) {
			t.Errorf("%s: NewAtlas gives %v", name, ok)
		}
	}
}

func TestP12KindsThatAreNone(t *testing.T) {
	for _, x := range append(namedAtlases(), atlasesOfAllSizes(210)...) {
		for _, kind := range append(outside(11), 0) {
			for _, e := range append(edgeEdits(), impl.Edit{}) {
				e.Kind = kind
				checkEditOf(t, x, e, "")
				checkEditAll(t, x, []impl.Edit{e, {Kind: impl.EditBest}}, x, 0)
			}
		}
	}
}

// In each Edit, each number is taken past its limits, and so is one that is not named.
func TestP12NumbersOfEditsThatAreNotValid(t *testing.T) {
	x := atlasOf(twoOpen)
	for _, fine := range edgeEdits() {
		if _, ok := impl.EditAtlas(x, fine); !ok {
			t.Errorf("%s is not possible", editText(fine))
		}
		for _, number := range append(farNumbers(), 100, 101, 7, -99) {
			for place := range 3 {
				e := fine
				*[]*int{&e.A, &e.B, &e.C}[place] = number
				if _, ok := editModel(x, e); ok != (number == 7 && (fine.Kind == 4 && place == 1 || fine.Kind == 5 && place == 2 || fine.Kind == 6 && place == 0)) {
					t.Errorf("the model takes %s to be possible: %v", editText(e), ok)
				}
				checkEditModel(t, x, e)
			}
			for place := range fine.List {
				e := fine
				e.List = slices.Clone(fine.List)
				e.List[place] = number
				checkEditModel(t, x, e)
			}
		}
		for _, list := range [][]int{{0}, {0, 0}, {0, 0, 0}, {0, 0, 0, 0}, make([]int, 8), make([]int, 100000), {-1}, {math.MinInt, math.MaxInt}} {
			e := fine
			e.List = list
			checkEditModel(t, x, e)
		}
	}
}

// A nil slice and an empty one are the same.
func TestP12NilAndEmptyLists(t *testing.T) {
	for _, e := range edgeEdits() {
		for _, text := range []string{"5 6 | none | 3", "5 6 | 0 | 3"} {
			one := atlasOf(text)
			two := impl.Atlas{Field: impl.Field{Open: []int{5, 6}, Dist: nil}, Open: one.Open, Count: 3}
			one.Field.Dist = [][]int{}
			if len(two.Open) == 0 {
				two.Open = nil
			}
			other := e
			if len(e.List) == 0 {
				e.List, other.List = nil, []int{}
			}
			for call, of := range editCalls() {
				if got, want := of(editArguments{one, e, impl.Log{}}), of(editArguments{two, other, impl.Log{}}); got.text() != want.text() {
					t.Errorf("%s for %s of %q with empty lists = %s, and with nil %s", call, editText(e), text, got.text(), want.text())
				}
			}
		}
	}
	checkEditAll(t, atlasOf("5 6 | none | 3"), []impl.Edit{}, atlasOf("5 6 | none | 3"), 0)
}

// All functions of strings return for any bytes.
func TestP12AnyBytes(t *testing.T) {
	x := atlasOf(twoOpen)
	for _, s := range append(texts(300, allBytes(), 60), texts(300, "0123 @#\n"+lineA, 60)...) {
		records, ends := recordsModel(s)
		checkRecovered(t, s, s[:ends[len(records)]], len(records))
		l := impl.Log{Durable: s[:len(s)/2], Pending: s[len(s)/2:], Count: len(s) % 3}
		checkLog(t, strconv.Quote(s), l, isLogModel(l))
		checkAppend(t, l, impl.LogRecord{Command: "a"}, map[bool]int{true: impl.LogOK, false: impl.LogInvalid}[isLogModel(l)])
		checkRecord(t, s, "", isRecordModel(impl.LogRecord{Command: s}))
		checkRecord(t, "a", s, isRecordModel(impl.LogRecord{Command: "a", Reply: s}))
		want, reply := executeModel(impl.Console{Atlas: x}, s)
		checkExecuted(t, impl.Console{Atlas: x}, s, want, reply)
		if replies, ok := impl.RunScript(impl.Console{Atlas: x}, s); ok != (strings.Count(s, "\n") < 30) || ok && len(replies) != strings.Count(s, "\n")+1 {
			t.Errorf("RunScript of %q = %q, %v", s, replies, ok)
		}
	}
}
