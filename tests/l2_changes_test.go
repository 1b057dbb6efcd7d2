package tests

import (
	"math"
	"slices"
	"testing"

	"loop.example/g01110/impl"
)

func checkMetric(t *testing.T, f impl.Field, want bool) {
	t.Helper()
	if metric, ok := impl.IsMetric(f); !ok || metric != want {
		t.Errorf("IsMetric(%q) = %v, %v; want %v", textOf(f), metric, ok, want)
	}
}

func checkFieldResult(t *testing.T, name string, f, got impl.Field, ok bool, want impl.Field) {
	t.Helper()
	if !ok || !sameField(got, want) {
		t.Errorf("%s of %q = %q, %v; want %q", name, textOf(f), textOf(got), ok, textOf(want))
	}
}

func checkNoField(t *testing.T, name string, f, got impl.Field, ok bool) {
	t.Helper()
	if ok || len(got.Open) != 0 || len(got.Dist) != 0 {
		t.Errorf("%s of %q = %q, %v; want none, false", name, textOf(f), textOf(got), ok)
	}
}

func checkClosed(t *testing.T, f, want impl.Field) {
	t.Helper()
	closed, ok := impl.ClosePath(f)
	checkFieldResult(t, "ClosePath", f, closed, ok, want)
	checkMetric(t, closed, true)
	again, ok := impl.ClosePath(closed)
	checkFieldResult(t, "ClosePath", closed, again, ok, want)
}

func TestP2MetricByHand(t *testing.T) {
	for text, want := range map[string]bool{
		"5": true, "5 6 7": true, "0 / 99": true, "0 / 0 / 99": true, "0 0 / 0 99": true, // one site or one client
		"3 1 / 0 4 / 5 1 / 2 2": true, "3 1 / 0 9 / 5 1 / 2 2": false,
		"0 0 / 0 0 / 0 0": true, "0 0 / 99 99 / 99 99": true, "0 0 / 3 3 / 3 3": true,
		"0 0 / 0 0 / 0 1": false, "0 0 / 0 0 / 1 0": false, "0 0 / 0 1 / 0 0": false, "0 0 / 1 0 / 0 0": false,
		"0 0 / 1 3 / 1 1": true, "0 0 / 1 4 / 1 1": false, "0 0 / 3 1 / 1 1": true, "0 0 / 4 1 / 1 1": false,
		"0 0 / 1 1 / 1 3": true, "0 0 / 1 1 / 1 4": false, "0 0 / 1 1 / 3 1": true, "0 0 / 1 1 / 4 1": false,
		"9 9 9 / 1 1 1 / 1 1 1 / 1 1 3": true, "9 9 9 / 1 1 1 / 1 1 1 / 1 1 4": false, "9 9 9 / 4 1 1 / 1 1 1 / 1 1 1": false,
		"0 99 / 1 3 / 1 1": true, // opening costs do not count
	} {
		checkMetric(t, fieldOf(text), want)
	}
}

func TestP2ClosePathByHand(t *testing.T) {
	for text, want := range map[string]string{
		"5": "5", "5 6 7": "5 6 7", "0 / 99": "0 / 99", "4 3 / 0 99": "4 3 / 0 99",
		"3 1 / 0 4 / 5 1 / 2 2": "3 1 / 0 4 / 5 1 / 2 2", "3 1 / 0 9 / 5 1 / 2 2": "3 1 / 0 4 / 5 1 / 2 2",
		"3 1 / 0 0 / 0 99": "3 1 / 0 0 / 0 0", "3 1 / 99 0 / 0 0": "3 1 / 0 0 / 0 0", "3 1 / 1 9 / 2 3": "3 1 / 1 6 / 2 3",
		// ways of 5 and of 7 steps, once from the first client and once from the last one
		"0 0 0 / 1 99 99 / 1 1 99 / 99 1 1":                                      "0 0 0 / 1 3 5 / 1 1 3 / 3 1 1",
		"0 0 0 / 99 1 1 / 1 1 99 / 1 99 99":                                      "0 0 0 / 3 1 1 / 1 1 3 / 1 3 5",
		"0 0 0 0 / 1 99 99 99 / 2 3 99 99 / 99 4 5 99 / 99 99 6 7":               "0 0 0 0 / 1 6 15 28 / 2 3 12 25 / 9 4 5 18 / 20 15 6 7",
		"1 2 3 4 / 99 99 6 7 / 99 4 5 99 / 2 3 99 99 / 1 99 99 99":               "1 2 3 4 / 20 15 6 7 / 9 4 5 18 / 2 3 12 25 / 1 6 15 28",
		"0 0 0 0 / 50 99 99 99 / 1 1 99 99 / 99 1 1 99 / 99 99 1 1 / 99 99 99 1": "0 0 0 0 / 50 52 54 56 / 1 1 3 5 / 3 1 1 3 / 5 3 1 1 / 7 5 3 1",
		"0 0 / 99 99 / 99 99":                                                    "0 0 / 99 99 / 99 99", "0 0 / 33 99 / 33 33": "0 0 / 33 99 / 33 33", "0 0 / 32 99 / 33 33": "0 0 / 32 98 / 33 33",
	} {
		checkClosed(t, fieldOf(text), fieldOf(want))
	}
}

func TestP2MetricAndClosePathOfManyFields(t *testing.T) {
	list := append(manyFields(10), smallFields(2, 2, 2)...)
	for _, f := range append(append(list, smallFields(3, 2, 1)...), sparseFields()...) {
		metric := metricModel(f)
		checkMetric(t, f, metric)
		checkClosed(t, f, closeModel(f))
		if metric {
			checkClosed(t, f, f)
		}
	}
}

// sparseFields have a few short lengths among the greatest ones, so that least
// ways have many steps.
func sparseFields() []impl.Field {
	list := []impl.Field{}
	n := &numbers{state: 5}
	for range 400 {
		f := n.fieldFrom(3+n.below(5), 3+n.below(5), 9, 5)
		for _, row := range f.Dist {
			for site := range row {
				if n.below(4) > 0 {
					row[site] = 99
				}
			}
		}
		list = append(list, f)
	}
	return list
}

func TestP2JoinFieldsByHand(t *testing.T) {
	for _, c := range [][3]string{
		{"5", "5", "5"}, {"5 / 1", "5", "5 / 1"}, {"5", "5 / 1", "5 / 1"}, {"5 / 1", "5 / 2", "5 / 1 / 2"}, {"5 / 2", "5 / 1", "5 / 2 / 1"},
		{"3 1 / 0 4 / 5 1", "3 1 / 2 2", "3 1 / 0 4 / 5 1 / 2 2"}, {"0 0 / 7 7", "0 0 / 7 7", "0 0 / 7 7 / 7 7"},
		{"0 / 1 / 2 / 3 / 4", "0 / 5 / 6 / 7", "0 / 1 / 2 / 3 / 4 / 5 / 6 / 7"}, {"0 / 1 / 2 / 3 / 4 / 5 / 6 / 7", "0", "0 / 1 / 2 / 3 / 4 / 5 / 6 / 7"},
		{"0", "0 / 1 / 2 / 3 / 4 / 5 / 6 / 7", "0 / 1 / 2 / 3 / 4 / 5 / 6 / 7"},
	} {
		joined, ok := impl.JoinFields(fieldOf(c[0]), fieldOf(c[1]))
		checkFieldResult(t, "JoinFields with "+c[1], fieldOf(c[0]), joined, ok, fieldOf(c[2]))
	}
	for _, c := range [][2]string{
		{"5", "6"}, {"5", "5 5"}, {"5 5", "5"}, {"3 1", "1 3"}, {"3 1 / 1 1", "3 2 / 1 1"}, {"3 1 / 1 1", "2 1 / 1 1"}, {"0", "0 0"},
		{"0 / 1 / 2 / 3 / 4", "0 / 1 / 2 / 3 / 4"}, {"0 / 1", "0 / 1 / 2 / 3 / 4 / 5 / 6 / 7"}, {"0 / 1 / 2 / 3 / 4 / 5 / 6 / 7", "0 / 1"},
		{"0 / 1 / 2 / 3 / 4 / 5 / 6 / 7", "0 / 1 / 2 / 3 / 4 / 5 / 6 / 7"},
	} {
		joined, ok := impl.JoinFields(fieldOf(c[0]), fieldOf(c[1]))
		checkNoField(t, "JoinFields with "+c[1], fieldOf(c[0]), joined, ok)
	}
}

func TestP2JoinFieldsOfManyFields(t *testing.T) {
	n := &numbers{state: 3}
	for clients := 0; clients <= impl.MaxClients; clients++ {
		for more := 0; more <= impl.MaxClients; more++ {
			sites := 1 + n.below(impl.MaxSites)
			f, g := n.fieldFrom(sites, clients, 99, 99), n.fieldFrom(sites, more, 99, 99)
			other, ok := impl.JoinFields(f, g)
			if !slices.Equal(f.Open, g.Open) {
				checkNoField(t, "JoinFields with "+textOf(g), f, other, ok)
			}
			g.Open = slices.Clone(f.Open)
			joined, ok := impl.JoinFields(f, g)
			if clients+more > impl.MaxClients {
				checkNoField(t, "JoinFields with "+textOf(g), f, joined, ok)
				continue
			}
			checkFieldResult(t, "JoinFields with "+textOf(g), f, joined, ok, impl.Field{Open: f.Open, Dist: slices.Concat(f.Dist, g.Dist)})
		}
	}
}

func TestP2ScaleFieldByHand(t *testing.T) {
	for _, c := range []struct {
		field  string
		factor int
		want   string
	}{
		{"3 1 / 0 4 / 5 1", 1, "3 1 / 0 4 / 5 1"}, {"3 1 / 0 4 / 5 1", 2, "6 2 / 0 8 / 10 2"}, {"3 1 / 0 4 / 5 1", 19, "57 19 / 0 76 / 95 19"},
		{"99 / 99", 1, "99 / 99"}, {"0 / 33", 3, "0 / 99"}, {"33 / 0", 3, "99 / 0"}, {"1 / 0", 99, "99 / 0"}, {"0 / 1", 99, "0 / 99"}, {"9", 11, "99"},
		{"0", 1, "0"}, {"0", 99, "0"}, {"0", 100, "0"}, {"0 0 / 0 0", 1000000, "0 0 / 0 0"}, {"0 0 / 0 0", math.MaxInt, "0 0 / 0 0"}, {"0", math.MaxInt, "0"},
	} {
		scaled, ok := impl.ScaleField(fieldOf(c.field), c.factor)
		checkFieldResult(t, "ScaleField", fieldOf(c.field), scaled, ok, fieldOf(c.want))
	}
}

func TestP2ScaleFieldPastALimit(t *testing.T) {
	for _, c := range []struct {
		field  string
		factor int
	}{
		{"3 1 / 0 4 / 5 1", 20}, {"3 1 / 0 4 / 5 1", 34}, {"99 / 0", 2}, {"0 / 99", 2}, {"50 / 0", 2}, {"0 / 50", 2}, {"0 / 34", 3}, {"34 / 0", 3},
		{"1", 100}, {"0 / 1", 100}, {"0 0 / 0 0 / 0 1", 100}, {"1", math.MaxInt}, {"0 / 1", math.MaxInt}, {"0 / 2", math.MaxInt}, {"99 / 99", math.MaxInt},
		// products that wrap around to 0 and to small numbers
		{"4", 1 << 62}, {"0 / 4", 1 << 62}, {"4 8 / 16 32", 1 << 62}, {"64", 1 << 58}, {"0 / 64", 1 << 58}, {"8 / 8", 1 << 61},
		{"3", 6148914691236517206}, {"0 / 3", 6148914691236517206}, {"5", 3689348814741910324}, {"2 / 4", math.MaxInt - 3}, {"96 / 32", 1 << 59},
	} {
		scaled, ok := impl.ScaleField(fieldOf(c.field), c.factor)
		checkNoField(t, "ScaleField", fieldOf(c.field), scaled, ok)
	}
	for _, factor := range []int{0, -1, -2, -99, math.MinInt, math.MinInt + 1, -1 << 62} {
		for _, text := range []string{"0", "0 / 0", "1", "3 1 / 0 4 / 5 1"} {
			scaled, ok := impl.ScaleField(fieldOf(text), factor)
			checkNoField(t, "ScaleField", fieldOf(text), scaled, ok)
		}
	}
}

func scaledModel(f impl.Field, factor int) (impl.Field, bool) {
	scaled, fits := impl.Field{Open: slices.Clone(f.Open), Dist: copyRows(f.Dist)}, true
	for _, row := range append(slices.Clone(scaled.Dist), scaled.Open) {
		for place := range row {
			row[place] *= factor
			fits = fits && row[place] <= 99
		}
	}
	return scaled, fits
}

func TestP2ScaleFieldOfManyFields(t *testing.T) {
	for _, f := range manyFields(1) {
		for _, factor := range []int{1, 2, 3, 5, 10, 33, 49, 50, 98, 99, 100, 101, 1000} {
			want, fits := scaledModel(f, factor)
			scaled, ok := impl.ScaleField(f, factor)
			if fits {
				checkFieldResult(t, "ScaleField", f, scaled, ok, want)
			} else {
				checkNoField(t, "ScaleField", f, scaled, ok)
			}
		}
	}
}
