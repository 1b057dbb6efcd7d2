package tests

import (
	"math"
	"slices"
	"testing"

	"loop.example/g01110/impl"
)

// checkEdit compares the Atlas behind an Edit, "" if the Edit is not possible.
func checkEdit(t *testing.T, before string, e impl.Edit, want string) {
	t.Helper()
	checkEditOf(t, atlasOf(before), e, want)
}

func checkEditOf(t *testing.T, x impl.Atlas, e impl.Edit, want string) {
	t.Helper()
	if !impl.IsAtlas(x) {
		t.Errorf("IsAtlas of %q is false", atlasText(x))
	}
	before := atlasText(x)
	behind, ok := impl.EditAtlas(x, e)
	if want == "" {
		want = atlasText(impl.Atlas{})
		if ok {
			t.Errorf("%s of %q is possible: %q", editText(e), atlasText(x), atlasText(behind))
		}
	} else if !ok || !impl.IsAtlas(behind) {
		t.Errorf("%s of %q: possible %v, valid %v; want %q", editText(e), atlasText(x), ok, impl.IsAtlas(behind), want)
	}
	if atlasText(behind) != want {
		t.Errorf("%s of %q = %q; want %q", editText(e), atlasText(x), atlasText(behind), want)
	}
	if atlasText(x) != before {
		t.Errorf("%s of %q leaves %q", editText(e), before, atlasText(x))
	}
}

// checkTotals compares the total and the gap, where less than 0 stands for a failure.
func checkTotals(t *testing.T, text string, total, gap int) {
	t.Helper()
	x := atlasOf(text)
	if got, ok := impl.AtlasTotal(x); ok != (total >= 0) || got != max(0, total) {
		t.Errorf("AtlasTotal of %q = %d, %v; want %d", text, got, ok, total)
	}
	if got, ok := impl.AtlasGap(x); ok != (gap >= 0) || got != max(0, gap) {
		t.Errorf("AtlasGap of %q = %d, %v; want %d", text, got, ok, gap)
	}
}

const (
	// The sites 0 and 2 of three are open.
	twoOpen = "4 3 6 / 1 5 2 / 6 2 9 | 0 2 | 10"
	fullMap = "1 2 3 4 5 6 7 / 0 0 0 0 0 0 0 / 1 1 1 1 1 1 1 / 2 2 2 2 2 2 2 / 3 3 3 3 3 3 3 / 4 4 4 4 4 4 4 / 5 5 5 5 5 5 5 / 6 6 6 6 6 6 6"
)

func TestP12NewAtlas(t *testing.T) {
	for _, text := range []string{"0", "99", "4 3", "4 3 / 1 5 / 6 2", fullMap} {
		x, ok := impl.NewAtlas(fieldOf(text))
		if !ok || atlasText(x) != text+" | none | 0" || !impl.IsAtlas(x) {
			t.Errorf("NewAtlas of %q = %q, %v", text, atlasText(x), ok)
		}
	}
	for _, f := range manyFields(1) {
		if x, ok := impl.NewAtlas(f); !ok || atlasText(x) != textOf(f)+" | none | 0" {
			t.Errorf("NewAtlas of %q = %q, %v", textOf(f), atlasText(x), ok)
		}
	}
}

func TestP12IsAtlas(t *testing.T) {
	for _, text := range []string{
		"0 | none | 0", "0 | 0 | 0", "99 | none | 1", "99 | 0 | 999", "4 3 | 0 1 | 1000", twoOpen, fullMap + " | none | 0", fullMap + " | 0 1 2 3 4 5 6 | 1000", fullMap + " | 6 | 3",
	} {
		if !impl.IsAtlas(atlasOf(text)) {
			t.Errorf("IsAtlas of %q is false", text)
		}
	}
	for _, text := range []string{
		" | none | 0", "0 | 1 | 0", "0 | -1 | 0", "0 | 0 0 | 0", "0 | none | -1", "0 | none | 1001", "0 | 0 1 | 0", "100 | none | 0", "-1 | none | 0", "4 3 | 1 0 | 0", "4 3 | 0 2 | 0",
		"4 3 | 0 1 1 | 0", "4 3 / 1 | 0 | 0", "4 3 / 1 2 3 | 0 | 0", "4 3 / 1 100 | 0 | 0", "4 3 / -1 2 | 0 | 0", fullMap + " | 0 1 2 3 4 5 7 | 0", fullMap + " / 0 0 0 0 0 0 0 | none | 0",
	} {
		if impl.IsAtlas(atlasOf(text)) {
			t.Errorf("IsAtlas of %q is true", text)
		}
	}
	for _, count := range []int{math.MinInt, math.MaxInt, math.MinInt + 1, -1 << 32, 1 << 32, 1001, -1, 2000, -1000} {
		if impl.IsAtlas(impl.Atlas{Field: fieldOf("0"), Count: count}) {
			t.Errorf("IsAtlas with the Count %d is true", count)
		}
	}
}

func TestP12OpenCloseAndSwapByHand(t *testing.T) {
	for _, c := range []struct {
		kind, a, b int
		want       string
	}{
		{impl.EditOpen, 1, 0, "0 1 2"}, {impl.EditOpen, 0, 0, ""}, {impl.EditOpen, 2, 0, ""}, {impl.EditOpen, 3, 0, ""}, {impl.EditOpen, -1, 0, ""}, {impl.EditOpen, 1, 1, ""},
		{impl.EditClose, 0, 0, "2"}, {impl.EditClose, 2, 0, "0"}, {impl.EditClose, 1, 0, ""}, {impl.EditClose, 3, 0, ""}, {impl.EditClose, -1, 0, ""}, {impl.EditClose, 0, 1, ""},
		{impl.EditSwap, 0, 1, "1 2"}, {impl.EditSwap, 2, 1, "0 1"}, {impl.EditSwap, 0, 0, ""}, {impl.EditSwap, 1, 1, ""}, {impl.EditSwap, 2, 2, ""}, {impl.EditSwap, 0, 2, ""},
		{impl.EditSwap, 2, 0, ""}, {impl.EditSwap, 1, 0, ""}, {impl.EditSwap, 1, 2, ""}, {impl.EditSwap, 0, 3, ""}, {impl.EditSwap, 0, -1, ""}, {impl.EditSwap, 3, 1, ""}, {impl.EditSwap, -1, 1, ""},
	} {
		want := ""
		if c.want != "" {
			want = "4 3 6 / 1 5 2 / 6 2 9 | " + c.want + " | 11"
		}
		checkEdit(t, twoOpen, impl.Edit{Kind: c.kind, A: c.a, B: c.b}, want)
	}
	checkEdit(t, "4 3 | 1 | 0", impl.Edit{Kind: impl.EditClose, A: 1}, "4 3 | none | 1")
	checkEdit(t, "4 3 | none | 0", impl.Edit{Kind: impl.EditOpen, A: 1}, "4 3 | 1 | 1")
	checkEdit(t, "4 3 | none | 0", impl.Edit{Kind: impl.EditClose}, "")
	checkEdit(t, "4 3 | none | 0", impl.Edit{Kind: impl.EditSwap, B: 1}, "")
	checkEdit(t, "4 3 | 0 1 | 0", impl.Edit{Kind: impl.EditSwap, B: 1}, "")
	checkEdit(t, "4 3 | 0 1 | 0", impl.Edit{Kind: impl.EditOpen, A: 1}, "")
	checkEdit(t, "8 | none | 0", impl.Edit{Kind: impl.EditOpen}, "8 | 0 | 1")
	checkEdit(t, "8 | 0 | 0", impl.Edit{Kind: impl.EditClose}, "8 | none | 1")
	checkEdit(t, "8 | 0 | 0", impl.Edit{Kind: impl.EditSwap}, "")
	checkEdit(t, "8 | none | 0", impl.Edit{Kind: impl.EditSwap}, "")
	checkEdit(t, "1 2 3 4 | 0 3 | 0", impl.Edit{Kind: impl.EditSwap, A: 0, B: 2}, "1 2 3 4 | 2 3 | 1")
	checkEdit(t, "1 2 3 4 | 0 3 | 0", impl.Edit{Kind: impl.EditSwap, A: 3, B: 1}, "1 2 3 4 | 0 1 | 1")
	checkEdit(t, "1 2 3 4 | 1 2 | 0", impl.Edit{Kind: impl.EditSwap, A: 1, B: 3}, "1 2 3 4 | 2 3 | 1")
	checkEdit(t, "1 2 3 4 | 1 2 | 0", impl.Edit{Kind: impl.EditSwap, A: 2, B: 0}, "1 2 3 4 | 0 1 | 1")
}

func TestP12CostsAndLengthsByHand(t *testing.T) {
	for _, c := range []struct {
		e    impl.Edit
		want string
	}{
		{impl.Edit{Kind: impl.EditCost, A: 1, B: 0}, "4 0 6 / 1 5 2 / 6 2 9"}, {impl.Edit{Kind: impl.EditCost, A: 0, B: 99}, "99 3 6 / 1 5 2 / 6 2 9"}, {impl.Edit{Kind: impl.EditCost, A: 2, B: 6}, "4 3 6 / 1 5 2 / 6 2 9"},
		{impl.Edit{Kind: impl.EditCost, A: 2, B: 100}, ""}, {impl.Edit{Kind: impl.EditCost, A: 2, B: -1}, ""}, {impl.Edit{Kind: impl.EditCost, A: 3, B: 5}, ""}, {impl.Edit{Kind: impl.EditCost, A: -1, B: 5}, ""},
		{impl.Edit{Kind: impl.EditCost, A: 1, B: 0, C: 1}, ""}, {impl.Edit{Kind: impl.EditCost, A: 1, B: 0, List: []int{0}}, ""},
		{impl.Edit{Kind: impl.EditLength, A: 0, B: 2, C: 0}, "4 3 6 / 1 5 0 / 6 2 9"}, {impl.Edit{Kind: impl.EditLength, A: 1, B: 2, C: 99}, "4 3 6 / 1 5 2 / 6 2 99"}, {impl.Edit{Kind: impl.EditLength, A: 1, B: 0, C: 7}, "4 3 6 / 1 5 2 / 7 2 9"},
		{impl.Edit{Kind: impl.EditLength, C: 8}, "4 3 6 / 8 5 2 / 6 2 9"}, {impl.Edit{Kind: impl.EditLength, A: 0, B: 2, C: 100}, ""}, {impl.Edit{Kind: impl.EditLength, A: 0, B: 2, C: -1}, ""},
		{impl.Edit{Kind: impl.EditLength, A: 2, B: 1, C: 1}, ""}, {impl.Edit{Kind: impl.EditLength, A: -1, B: 1, C: 1}, ""}, {impl.Edit{Kind: impl.EditLength, A: 1, B: 3, C: 1}, ""}, {impl.Edit{Kind: impl.EditLength, A: 1, B: -1, C: 1}, ""},
		{impl.Edit{Kind: impl.EditLength, A: 1, B: 1, C: 1, List: []int{0}}, ""}, {impl.Edit{Kind: impl.EditLength, A: 1, B: 1, C: 1, List: []int{}}, "4 3 6 / 1 5 2 / 6 1 9"},
	} {
		want := c.want
		if want != "" {
			want += " | 0 2 | 11"
		}
		checkEdit(t, twoOpen, c.e, want)
	}
	checkEdit(t, "4 3 | 0 | 0", impl.Edit{Kind: impl.EditLength}, "")
	checkEdit(t, "4 3 | 0 | 0", impl.Edit{Kind: impl.EditCost}, "0 3 | 0 | 1")
}

func TestP12AddedSitesAndClientsByHand(t *testing.T) {
	for _, c := range []struct {
		kind, a int
		list    []int
		want    string
	}{
		{impl.EditSite, 7, []int{8, 9}, "4 3 6 7 / 1 5 2 8 / 6 2 9 9"}, {impl.EditSite, 0, []int{0, 0}, "4 3 6 0 / 1 5 2 0 / 6 2 9 0"}, {impl.EditSite, 99, []int{99, 99}, "4 3 6 99 / 1 5 2 99 / 6 2 9 99"},
		{impl.EditSite, 100, []int{8, 9}, ""}, {impl.EditSite, -1, []int{8, 9}, ""}, {impl.EditSite, 7, []int{100, 9}, ""}, {impl.EditSite, 7, []int{8, 100}, ""}, {impl.EditSite, 7, []int{-1, 9}, ""},
		{impl.EditSite, 7, nil, ""}, {impl.EditSite, 7, []int{8}, ""}, {impl.EditSite, 7, []int{8, 9, 0}, ""}, {impl.EditSite, 7, make([]int, 100000), ""},
		{impl.EditClient, 0, []int{7, 8, 9}, "4 3 6 / 1 5 2 / 6 2 9 / 7 8 9"}, {impl.EditClient, 0, []int{0, 0, 0}, "4 3 6 / 1 5 2 / 6 2 9 / 0 0 0"}, {impl.EditClient, 0, []int{99, 99, 99}, "4 3 6 / 1 5 2 / 6 2 9 / 99 99 99"},
		{impl.EditClient, 1, []int{7, 8, 9}, ""}, {impl.EditClient, 0, []int{7, 8}, ""}, {impl.EditClient, 0, []int{7, 8, 9, 0}, ""}, {impl.EditClient, 0, nil, ""},
		{impl.EditClient, 0, []int{100, 8, 9}, ""}, {impl.EditClient, 0, []int{7, 8, -1}, ""}, {impl.EditClient, 0, make([]int, 100000), ""},
	} {
		want := c.want
		if want != "" {
			want += " | 0 2 | 11"
		}
		checkEdit(t, twoOpen, impl.Edit{Kind: c.kind, A: c.a, List: c.list}, want)
	}
	checkEdit(t, "4 | 0 | 0", impl.Edit{Kind: impl.EditSite, A: 5}, "4 5 | 0 | 1")
	checkEdit(t, "4 | 0 | 0", impl.Edit{Kind: impl.EditSite, A: 5, List: []int{}}, "4 5 | 0 | 1")
	checkEdit(t, "4 | 0 | 0", impl.Edit{Kind: impl.EditSite, A: 5, List: []int{0}}, "")
	checkEdit(t, "4 | none | 0", impl.Edit{Kind: impl.EditClient, List: []int{3}}, "4 / 3 | none | 1")
	checkEdit(t, "1 2 3 4 5 6 | 5 | 0", impl.Edit{Kind: impl.EditSite, A: 7}, "1 2 3 4 5 6 7 | 5 | 1")
	checkEdit(t, "1 2 3 4 5 6 7 | 5 | 0", impl.Edit{Kind: impl.EditSite, A: 7}, "")
	checkEdit(t, "1 / 0 / 1 / 2 / 3 / 4 / 5 | 0 | 0", impl.Edit{Kind: impl.EditClient, List: []int{6}}, "1 / 0 / 1 / 2 / 3 / 4 / 5 / 6 | 0 | 1")
	checkEdit(t, "1 / 0 / 1 / 2 / 3 / 4 / 5 / 6 | 0 | 0", impl.Edit{Kind: impl.EditClient, List: []int{6}}, "")
	checkEdit(t, fullMap+" | none | 0", impl.Edit{Kind: impl.EditSite, List: make([]int, 7)}, "")
	checkEdit(t, fullMap+" | none | 0", impl.Edit{Kind: impl.EditClient, List: make([]int, 7)}, "")
	checkEdit(t, "1 / 0 / 1 / 2 / 3 / 4 / 5 / 6 | 0 | 0", impl.Edit{Kind: impl.EditSite, A: 9, List: allBelow(7)}, "1 9 / 0 0 / 1 1 / 2 2 / 3 3 / 4 4 / 5 5 / 6 6 | 0 | 1")
}

func TestP12DroppedSitesAndClientsByHand(t *testing.T) {
	for _, c := range []struct {
		before  string
		kind, a int
		want    string
	}{
		{twoOpen, impl.EditDropSite, 1, "4 6 / 1 2 / 6 9 | 0 1 | 11"}, {twoOpen, impl.EditDropSite, 0, ""}, {twoOpen, impl.EditDropSite, 2, ""}, {twoOpen, impl.EditDropSite, 3, ""}, {twoOpen, impl.EditDropSite, -1, ""},
		{"1 2 3 4 5 | 1 3 | 0", impl.EditDropSite, 0, "2 3 4 5 | 0 2 | 1"}, {"1 2 3 4 5 | 1 3 | 0", impl.EditDropSite, 2, "1 2 4 5 | 1 2 | 1"}, {"1 2 3 4 5 | 1 3 | 0", impl.EditDropSite, 4, "1 2 3 4 | 1 3 | 1"},
		{"1 2 3 4 5 | none | 0", impl.EditDropSite, 4, "1 2 3 4 | none | 1"}, {"1 2 3 4 5 | 1 3 | 0", impl.EditDropSite, 5, ""}, {"8 | none | 0", impl.EditDropSite, 0, ""}, {"8 / 1 | none | 0", impl.EditDropSite, 0, ""}, {"8 | 0 | 0", impl.EditDropSite, 0, ""},
		{"8 9 | none | 0", impl.EditDropSite, 0, "9 | none | 1"}, {"8 9 | 1 | 0", impl.EditDropSite, 0, "9 | 0 | 1"}, {"8 9 | 0 | 0", impl.EditDropSite, 1, "8 | 0 | 1"}, {"8 9 | 0 | 0", impl.EditDropSite, 2, ""},
		{twoOpen, impl.EditDropClient, 0, "4 3 6 / 6 2 9 | 0 2 | 11"}, {twoOpen, impl.EditDropClient, 1, "4 3 6 / 1 5 2 | 0 2 | 11"}, {twoOpen, impl.EditDropClient, 2, ""}, {twoOpen, impl.EditDropClient, -1, ""},
		{"8 / 1 | 0 | 0", impl.EditDropClient, 0, "8 | 0 | 1"}, {"8 | 0 | 0", impl.EditDropClient, 0, ""}, {"8 9 | 0 | 0", impl.EditDropClient, 1, ""},
		{"8 / 1 / 2 / 3 | 0 | 0", impl.EditDropClient, 1, "8 / 1 / 3 | 0 | 1"}, {"8 / 1 / 2 / 3 | 0 | 0", impl.EditDropClient, 0, "8 / 2 / 3 | 0 | 1"},
	} {
		checkEdit(t, c.before, impl.Edit{Kind: c.kind, A: c.a}, c.want)
		checkEdit(t, c.before, impl.Edit{Kind: c.kind, A: c.a, B: 1}, "")
		checkEdit(t, c.before, impl.Edit{Kind: c.kind, A: c.a, C: 1}, "")
		checkEdit(t, c.before, impl.Edit{Kind: c.kind, A: c.a, List: []int{1}}, "")
	}
}

func TestP12ImproveAndBestByHand(t *testing.T) {
	for _, c := range []struct{ before, improved, best string }{
		{"4 3 / 1 5 / 6 2 | 0 | 0", "4 3 / 1 5 / 6 2 | 0 1 | 1", "4 3 / 1 5 / 6 2 | 1 | 1"},
		{"4 3 / 1 5 / 6 2 | 0 1 | 0", "4 3 / 1 5 / 6 2 | 0 1 | 1", "4 3 / 1 5 / 6 2 | 1 | 1"},
		{"4 3 / 1 5 / 6 2 | 1 | 0", "4 3 / 1 5 / 6 2 | 1 | 1", "4 3 / 1 5 / 6 2 | 1 | 1"},
		{"4 3 / 1 5 / 6 2 | none | 0", "", "4 3 / 1 5 / 6 2 | 1 | 1"},
		{"3 1 2 | none | 0", "", "3 1 2 | 1 | 1"}, {"3 1 2 | 0 | 0", "3 1 2 | 1 | 1", "3 1 2 | 1 | 1"}, {"3 1 2 | 0 1 2 | 4", "3 1 2 | 1 | 5", "3 1 2 | 1 | 5"},
		{"0 0 | 1 | 0", "0 0 | 1 | 1", "0 0 | 0 | 1"}, {"7 | 0 | 999", "7 | 0 | 1000", "7 | 0 | 1000"}, {"7 | none | 999", "", "7 | 0 | 1000"}, {"7 | 0 | 1000", "", ""},
		{"9 9 1 / 0 0 5 / 0 0 5 / 0 0 5 | 2 | 0", "9 9 1 / 0 0 5 / 0 0 5 / 0 0 5 | 0 | 1", "9 9 1 / 0 0 5 / 0 0 5 / 0 0 5 | 0 | 1"},
	} {
		checkEdit(t, c.before, impl.Edit{Kind: impl.EditImprove}, c.improved)
		checkEdit(t, c.before, impl.Edit{Kind: impl.EditBest}, c.best)
		for _, kind := range []int{impl.EditImprove, impl.EditBest} {
			for _, e := range []impl.Edit{{Kind: kind, A: 1}, {Kind: kind, B: 1}, {Kind: kind, C: -1}, {Kind: kind, List: []int{0}}} {
				checkEdit(t, c.before, e, "")
			}
		}
	}
}

// Behind the Count MaxCount, no Edit is possible, of whatever kind.
func TestP12EditsAtTheGreatestCount(t *testing.T) {
	for _, e := range []impl.Edit{
		{Kind: impl.EditOpen, A: 1}, {Kind: impl.EditClose, A: 2}, {Kind: impl.EditSwap, A: 0, B: 1}, {Kind: impl.EditCost, A: 1, B: 2}, {Kind: impl.EditLength, A: 1, B: 2, C: 3}, {Kind: impl.EditSite, A: 5, List: []int{1, 2}},
		{Kind: impl.EditClient, List: []int{1, 2, 3}}, {Kind: impl.EditDropSite, A: 1}, {Kind: impl.EditDropClient, A: 1}, {Kind: impl.EditImprove}, {Kind: impl.EditBest},
	} {
		for count, possible := range map[int]bool{0: true, 1: true, 998: true, 999: true, 1000: false} {
			x := atlasOf(twoOpen)
			x.Count = count
			behind, ok := impl.EditAtlas(x, e)
			if ok != possible || ok && behind.Count != count+1 || !ok && atlasText(behind) != atlasText(impl.Atlas{}) {
				t.Errorf("%s with the Count %d = %q, %v", editText(e), count, atlasText(behind), ok)
			}
		}
	}
}

// editsAround gives Edits of all kinds with numbers around the edges of an
// Atlas, and with lists of all lengths nearby.
func editsAround(x impl.Atlas) []impl.Edit {
	list := []impl.Edit{}
	sites, clients := len(x.Field.Open), len(x.Field.Dist)
	numbers := slices.Compact([]int{-1, 0, 1, 2, sites - 1, sites, 99, 100})
	for kind := 0; kind <= 12; kind++ {
		for _, a := range append(slices.Clone(numbers), clients-1, clients) {
			for _, b := range numbers {
				for _, c := range []int{-1, 0, 1, 99, 100} {
					list = append(list, impl.Edit{Kind: kind, A: a, B: b, C: c})
				}
			}
			for _, count := range []int{sites - 1, sites, sites + 1, clients - 1, clients, clients + 1} {
				for _, number := range []int{-1, 0, 99, 100} {
					rest := slices.Repeat([]int{5}, max(count, 0))
					if len(rest) > 0 {
						rest[len(rest)-1] = number
					}
					list = append(list, impl.Edit{Kind: kind, A: a, List: rest}, impl.Edit{Kind: kind, A: a, B: number, List: rest}, impl.Edit{Kind: kind, A: a, C: number, List: rest})
				}
			}
		}
	}
	return list
}

func checkEditModel(t *testing.T, x impl.Atlas, e impl.Edit) {
	t.Helper()
	want := ""
	if behind, ok := editModel(x, e); ok {
		want = atlasText(behind)
	}
	checkEditOf(t, x, e, want)
}

func TestP12EditsOfManyAtlases(t *testing.T) {
	for _, x := range namedAtlases() {
		for _, e := range editsAround(x) {
			checkEditModel(t, x, e)
		}
	}
	n := &numbers{state: 190}
	for _, x := range atlasesOfAllSizes(191) {
		for range 300 {
			checkEditModel(t, x, n.editFrom(x))
		}
	}
}

// All sites of all sets are opened, closed, swapped and dropped.
func TestP12EditsOfAllSets(t *testing.T) {
	n := &numbers{state: 192}
	for sites := 1; sites <= 7; sites++ {
		x := n.atlasFrom(sites, n.below(8), 99)
		for _, set := range setsModel(sites) {
			x.Open, x.Count = set, n.below(1000)
			for a := -1; a <= sites; a++ {
				for _, kind := range []int{impl.EditOpen, impl.EditClose, impl.EditDropSite} {
					checkEditModel(t, x, impl.Edit{Kind: kind, A: a})
				}
				for b := -1; b <= sites; b++ {
					checkEditModel(t, x, impl.Edit{Kind: impl.EditSwap, A: a, B: b})
				}
			}
			checkEditModel(t, x, impl.Edit{Kind: impl.EditImprove})
		}
		checkEditModel(t, x, impl.Edit{Kind: impl.EditBest})
	}
}

func TestP12TotalsByHand(t *testing.T) {
	for _, c := range []struct {
		text       string
		total, gap int
	}{
		{"4 3 / 1 5 / 6 2 | 0 | 0", 11, 1}, {"4 3 / 1 5 / 6 2 | 1 | 0", 10, 0}, {"4 3 / 1 5 / 6 2 | 0 1 | 1000", 10, 0}, {"4 3 / 1 5 / 6 2 | none | 0", -1, -1},
		{"0 | 0 | 0", 0, 0}, {"0 | none | 0", -1, -1}, {"7 / 0 | 0 | 3", 7, 0}, {"7 / 5 | 0 | 3", 12, 0}, {"7 | 0 | 3", 7, 7}, {"3 1 | 0 1 | 3", 4, 4}, {"3 1 | 1 | 3", 1, 1},
		{"0 9 / 50 0 | 0 | 3", 50, 41}, {"0 9 / 50 0 | 1 | 3", 9, 0}, {"0 9 / 50 0 | 0 1 | 3", 9, 0}, {"0 0 / 5 9 | 1 | 3", 9, 4}, {fullMap + " | none | 3", -1, -1},
		{"2 2 2 / 0 0 99 / 99 0 0 / 0 99 0 | 0 1 | 3", 4, 2}, {"2 2 2 / 0 0 99 / 99 0 0 / 0 99 0 | 0 1 2 | 3", 6, 4},
		{"99 99 / 99 99 / 99 99 | 0 1 | 0", 396, 99}, {"99 99 / 99 99 / 99 99 | 1 | 0", 297, 0},
	} {
		checkTotals(t, c.text, c.total, c.gap)
	}
}

func TestP12TotalsOfManyAtlases(t *testing.T) {
	for _, f := range manyFields(1) {
		for _, set := range setsModel(len(f.Open)) {
			x := impl.Atlas{Field: f, Open: set, Count: len(set)}
			total, one := impl.AtlasTotal(x)
			gap, two := impl.AtlasGap(x)
			if len(set) == 0 {
				if one || two || total != 0 || gap != 0 {
					t.Errorf("without open sites, %q has the total %d, %v and the gap %d, %v", textOf(f), total, one, gap, two)
				}
				continue
			}
			if !one || !two || total != totalModel(f, set) || gap != gapOfModel(x) || gap < 0 {
				t.Errorf("%q for %v has the total %d, %v and the gap %d, %v", textOf(f), set, total, one, gap, two)
			}
		}
	}
}

// edited makes an Edit that has to be possible.
func edited(t *testing.T, x impl.Atlas, e impl.Edit) impl.Atlas {
	t.Helper()
	behind, ok := impl.EditAtlas(x, e)
	if !ok {
		t.Errorf("%s of %q is not possible", editText(e), atlasText(x))
	}
	return behind
}

func TestP12ImproveAndBestNeverMakeTheTotalGreater(t *testing.T) {
	for _, x := range append(namedAtlases(), atlasesOfAllSizes(193)...) {
		x.Count = 0
		best, _ := impl.AtlasTotal(edited(t, x, impl.Edit{Kind: impl.EditBest}))
		for _, set := range setsModel(len(x.Field.Open))[1:] {
			x.Open = set
			total, _ := impl.AtlasTotal(x)
			behind := edited(t, x, impl.Edit{Kind: impl.EditImprove})
			improved, ok := impl.AtlasTotal(behind)
			if !ok || improved > total || best > improved {
				t.Errorf("%q has the total %d, improved %d, and at best %d", atlasText(x), total, improved, best)
			}
			behind.Count--
			if again := edited(t, behind, impl.Edit{Kind: impl.EditImprove}); !slices.Equal(again.Open, behind.Open) {
				t.Errorf("%q is improved to %v, and again to %v", atlasText(x), behind.Open, again.Open)
			}
		}
	}
}

func TestP12WhatWasAddedLastCanBeDropped(t *testing.T) {
	n := &numbers{state: 194}
	for _, x := range append(namedAtlases(), atlasesOfAllSizes(195)...) {
		sites, clients := len(x.Field.Open), len(x.Field.Dist)
		x.Count = min(x.Count, 998)
		want := x
		want.Count += 2
		if sites < impl.MaxSites {
			more := edited(t, x, impl.Edit{Kind: impl.EditSite, A: n.below(100), List: n.listFrom(clients, 99)})
			if fewer := edited(t, more, impl.Edit{Kind: impl.EditDropSite, A: sites}); atlasText(fewer) != atlasText(want) {
				t.Errorf("%q becomes %q and then %q", atlasText(x), atlasText(more), atlasText(fewer))
			}
		}
		if clients < impl.MaxClients {
			more := edited(t, x, impl.Edit{Kind: impl.EditClient, List: n.listFrom(sites, 99)})
			if fewer := edited(t, more, impl.Edit{Kind: impl.EditDropClient, A: clients}); atlasText(fewer) != atlasText(want) {
				t.Errorf("%q becomes %q and then %q", atlasText(x), atlasText(more), atlasText(fewer))
			}
		}
	}
}

func checkEditAll(t *testing.T, x impl.Atlas, list []impl.Edit, want impl.Atlas, count int) {
	t.Helper()
	behind, made, ok := impl.EditAll(x, list)
	if !ok || made != count || atlasText(behind) != atlasText(want) || !impl.IsAtlas(behind) {
		t.Errorf("EditAll of %q with %d Edits = %q, %d, %v; want %q, %d", atlasText(x), len(list), atlasText(behind), made, ok, atlasText(want), count)
	}
}

func TestP12EditAllByHand(t *testing.T) {
	x := atlasOf("4 3 / 1 5 / 6 2 | none | 0")
	fine, wrong := []impl.Edit{{Kind: impl.EditOpen, A: 1}, {Kind: impl.EditOpen}, {Kind: impl.EditDropClient}}, impl.Edit{Kind: impl.EditOpen, A: 1}
	results := []string{"4 3 / 1 5 / 6 2 | none | 0", "4 3 / 1 5 / 6 2 | 1 | 1", "4 3 / 1 5 / 6 2 | 0 1 | 2", "4 3 / 6 2 | 0 1 | 3"}
	checkEditAll(t, x, nil, x, 0)
	checkEditAll(t, x, []impl.Edit{}, x, 0)
	checkEditAll(t, x, []impl.Edit{{}}, x, 0)
	checkEditAll(t, x, []impl.Edit{{Kind: impl.EditClose, A: 1}, fine[0]}, x, 0)
	for count, want := range results {
		checkEditAll(t, x, fine[:count], atlasOf(want), count)
		if count > 0 { // what has been opened cannot be opened again
			checkEditAll(t, x, slices.Concat(fine[:count], []impl.Edit{wrong}), atlasOf(want), count)
			checkEditAll(t, x, slices.Concat(fine[:count], []impl.Edit{wrong}, fine), atlasOf(want), count)
		}
	}
}

func TestP12EditAllStopsAtTheGreatestCount(t *testing.T) {
	turns := slices.Repeat([]impl.Edit{{Kind: impl.EditOpen}, {Kind: impl.EditClose}}, 1000)
	for _, count := range []int{0, 1, 500, 998, 999, 1000} {
		want := atlasOf("8 | none | 1000")
		if count%2 == 1 {
			want.Open = []int{0}
		}
		checkEditAll(t, impl.Atlas{Field: fieldOf("8"), Count: count}, turns, want, 1000-count)
	}
}

func TestP12EditAllIsOneEditAfterTheOther(t *testing.T) {
	n := &numbers{state: 196}
	for _, x := range append(namedAtlases(), atlasesOfAllSizes(197)...) {
		want, count, stopped := x, 0, false
		list := []impl.Edit{}
		for range 12 {
			e := n.editFrom(want)
			list = append(list, e)
			behind, ok := editModel(want, e)
			if stopped = stopped || !ok; !stopped {
				want, count = behind, count+1
			}
		}
		checkEditAll(t, x, list, want, count)
	}
}
