package tests

import (
	"math"
	"slices"
	"strconv"
	"testing"

	"loop.example/g01110/impl"
)

// outcome is what a function returns: its lists one after the other, its other
// results as a text, and its last bool.
type outcome struct {
	lists [][]int
	rest  string
	ok    bool
}

func (o outcome) text() string {
	text := o.rest + " " + strconv.FormatBool(o.ok)
	for _, list := range o.lists {
		text += " " + listOf(list)
	}
	return text
}

// isZero tells whether a failure is without any result.
func (o outcome) isZero() bool {
	return !o.ok && len(o.lists) == 0 && (o.rest == "" || o.rest == "0" || o.rest == "false")
}

func ofNumber(n int, ok bool) outcome      { return outcome{nil, strconv.Itoa(n), ok} }
func ofReport(b bool, ok bool) outcome     { return outcome{nil, strconv.FormatBool(b), ok} }
func ofText(s string, ok bool) outcome     { return outcome{nil, s, ok} }
func ofRows(rows [][]int, ok bool) outcome { return outcome{rows, "", ok} }

func ofList(list []int, ok bool) outcome {
	if len(list) == 0 {
		return outcome{nil, "", ok}
	}
	return outcome{[][]int{list}, "", ok}
}

func ofField(f impl.Field, ok bool) outcome {
	if len(f.Open) == 0 && len(f.Dist) == 0 {
		return outcome{nil, "", ok}
	}
	return outcome{append([][]int{f.Open}, f.Dist...), "", ok}
}

// fieldCalls has the functions that take a Field alone, or numbers beside it.
func fieldCalls() map[string]func(f impl.Field) outcome {
	return map[string]func(f impl.Field) outcome{
		"IsMetric":     func(f impl.Field) outcome { return ofReport(impl.IsMetric(f)) },
		"BestSet":      func(f impl.Field) outcome { return ofList(impl.BestSet(f)) },
		"BestTotal":    func(f impl.Field) outcome { return ofNumber(impl.BestTotal(f)) },
		"NeededSites":  func(f impl.Field) outcome { return ofList(impl.NeededSites(f)) },
		"ClosePath":    func(f impl.Field) outcome { return ofField(impl.ClosePath(f)) },
		"ScaleField 1": func(f impl.Field) outcome { return ofField(impl.ScaleField(f, 1)) },
		"ScaleField 3": func(f impl.Field) outcome { return ofField(impl.ScaleField(f, 3)) },
		"FieldText":    func(f impl.Field) outcome { return ofText(impl.FieldText(f)) },
		"join self":    func(f impl.Field) outcome { return ofField(impl.JoinFields(f, f)) },
		"join before":  func(f impl.Field) outcome { return ofField(impl.JoinFields(f, otherField(f))) },
		"join behind":  func(f impl.Field) outcome { return ofField(impl.JoinFields(otherField(f), f)) },
	}
}

// otherField is a Field with the same opening costs and a client, if it can be one.
func otherField(f impl.Field) impl.Field {
	return impl.Field{Open: slices.Clone(f.Open), Dist: [][]int{make([]int, len(f.Open))}}
}

// setCalls has the functions that take a Field and a set.
func setCalls() map[string]func(f impl.Field, set []int) outcome {
	return map[string]func(f impl.Field, set []int) outcome{
		"ServedBy":  func(f impl.Field, set []int) outcome { return ofList(impl.ServedBy(f, set)) },
		"ServiceOf": func(f impl.Field, set []int) outcome { return ofNumber(impl.ServiceOf(f, set)) },
		"PaymentOf": func(f impl.Field, set []int) outcome { return ofNumber(impl.PaymentOf(f, set)) },
		"TotalOf":   func(f impl.Field, set []int) outcome { return ofNumber(impl.TotalOf(f, set)) },
		"ReachOf":   func(f impl.Field, set []int) outcome { return ofNumber(impl.ReachOf(f, set)) },
		"ClientsOf": func(f impl.Field, set []int) outcome { return ofRows(impl.ClientsOf(f, set)) },
		"IdleSites": func(f impl.Field, set []int) outcome { return ofList(impl.IdleSites(f, set)) },
		"swap first": func(f impl.Field, set []int) outcome {
			if len(set) == 0 {
				return ofList(impl.SwapSites(f, set, 0, 0))
			}
			return ofList(impl.SwapSites(f, set, set[0], siteBeside(f, set)))
		},
		"swap last": func(f impl.Field, set []int) outcome {
			if len(set) == 0 {
				return ofList(impl.SwapSites(f, set, 0, 1))
			}
			return ofList(impl.SwapSites(f, set, set[len(set)-1], siteBeside(f, set)))
		},
	}
}

// siteBeside gives the first site that is not in a set.
func siteBeside(f impl.Field, set []int) int {
	for site := range f.Open {
		if !slices.Contains(set, site) {
			return site
		}
	}
	return -1
}

func badFields() map[string]impl.Field {
	seven := slices.Repeat([]int{1}, 7)
	bad := map[string]impl.Field{
		"no sites": {}, "empty": {Open: []int{}, Dist: [][]int{}}, "no sites, a client": {Dist: [][]int{{}}}, "no sites, a length": {Dist: [][]int{{1}}},
		"8 sites": {Open: slices.Repeat([]int{1}, 8)}, "8 sites of 0": {Open: make([]int, 8)}, "8 sites, a client": {Open: make([]int, 8), Dist: [][]int{make([]int, 8)}},
		"8 clients": {Open: []int{1}, Dist: slices.Repeat([][]int{{1}}, 8)}, "8 and 7": {Open: seven, Dist: slices.Repeat([][]int{seven}, 8)},
		"no lengths": {Open: []int{1}, Dist: [][]int{{}}}, "nil lengths": {Open: []int{1}, Dist: [][]int{nil}}, "nil at the end": {Open: []int{1}, Dist: [][]int{{1}, nil}},
		"too short": {Open: []int{1, 2}, Dist: [][]int{{1}}}, "too long": {Open: []int{1, 2}, Dist: [][]int{{1, 2, 3}}},
		"too short later": {Open: []int{1, 2}, Dist: [][]int{{1, 2}, {1, 2}, {1}}}, "too long later": {Open: []int{1, 2}, Dist: [][]int{{1, 2}, {1, 2, 0}, {1, 1}}},
		"short and long": {Open: []int{1, 2}, Dist: [][]int{{1}, {1, 2, 3}}}, "other sites": {Open: []int{1}, Dist: [][]int{{1, 2}, {1, 2}}},
		"many sites": {Open: make([]int, 100000)}, "many clients": {Open: []int{1}, Dist: slices.Repeat([][]int{{1}}, 100000)}, "many lengths": {Open: []int{1}, Dist: [][]int{make([]int, 100000)}},
	}
	for _, n := range []int{-1, 100, -2, 101, 1000, math.MinInt, math.MaxInt, math.MinInt + 1, math.MaxInt - 1, 1 << 32, -1 << 32, 1<<32 + 1, 1 << 62, 256} {
		name := strconv.Itoa(n)
		bad["cost "+name] = impl.Field{Open: []int{n}}
		bad["first cost "+name] = impl.Field{Open: []int{n, 1, 2}, Dist: [][]int{{1, 2, 3}}}
		bad["last cost "+name] = impl.Field{Open: []int{0, 1, n}, Dist: [][]int{{1, 2, 3}, {0, 0, 0}}}
		bad["length "+name] = impl.Field{Open: []int{1}, Dist: [][]int{{n}}}
		bad["first length "+name] = impl.Field{Open: []int{1, 2}, Dist: [][]int{{n, 1}, {1, 1}}}
		bad["last length "+name] = impl.Field{Open: []int{1, 2}, Dist: [][]int{{1, 1}, {1, n}}}
		bad["middle length "+name] = impl.Field{Open: []int{1, 2, 3}, Dist: [][]int{{1, 1, 1}, {1, n, 1}, {1, 1, 1}}}
	}
	return bad
}

func TestP2FieldsThatAreNotValid(t *testing.T) {
	for name, f := range badFields() {
		if impl.IsField(f) {
			t.Errorf("%s: IsField is true", name)
		}
		for call, of := range fieldCalls() {
			if got := of(f); !got.isZero() {
				t.Errorf("%s: %s = %s", name, call, got.text())
			}
		}
		for call, of := range setCalls() {
			for _, set := range [][]int{nil, {0}, {0, 1}, {1}, {7}, {-1}} {
				if got := of(f, set); !got.isZero() {
					t.Errorf("%s: %s for %v = %s", name, call, set, got.text())
				}
			}
		}
		for _, factor := range []int{-1, 0, 1, 2, 100, 1 << 62, math.MaxInt, math.MinInt} {
			if got := ofField(impl.ScaleField(f, factor)); !got.isZero() {
				t.Errorf("%s: ScaleField by %d = %s", name, factor, got.text())
			}
		}
	}
}

func TestP2JoinFieldsThatAreNotValid(t *testing.T) {
	good := []impl.Field{fieldOf("1"), fieldOf("1 / 1"), fieldOf("1 2"), fieldOf("1 2 / 1 1"), fieldOf("0 1 2 / 1 2 3")}
	for name, f := range badFields() {
		for _, g := range good {
			one, two := ofField(impl.JoinFields(f, g)), ofField(impl.JoinFields(g, f))
			if !one.isZero() || !two.isZero() {
				t.Errorf("%s with %q: JoinFields = %s and %s", name, textOf(g), one.text(), two.text())
			}
		}
	}
}

func TestP2LimitsOfFields(t *testing.T) {
	for _, f := range manyFields(2) {
		if !impl.IsField(f) {
			t.Errorf("IsField(%q) = false", textOf(f))
		}
		for call, of := range fieldCalls() {
			got := of(f)
			fails := call == "join self" && len(f.Dist) > 3 || call == "ScaleField 3" || (call == "join before" || call == "join behind") && len(f.Dist) == 7
			if !got.ok && (!fails || !got.isZero()) {
				t.Errorf("%s of %q = %s", call, textOf(f), got.text())
			}
		}
	}
}

// badSets gives lists that are no sets of a Field with so many sites.
func badSets(sites int) [][]int {
	list := [][]int{
		{-1}, {sites}, {sites + 1}, {math.MinInt}, {math.MaxInt}, {0, 0}, {0, sites}, {-1, 0}, {0, -1}, {sites - 1, sites}, {0, math.MaxInt}, {math.MinInt, 0},
		{sites - 1, sites - 1}, {sites - 1, -1}, {math.MinInt, math.MaxInt}, {math.MaxInt, math.MinInt}, {1 << 32}, {-1 << 32}, {100}, make([]int, 100000),
	}
	all := []int{}
	for site := range sites {
		all = append(all, site)
		for other := range site {
			list = append(list, []int{site, other}, append(slices.Clone(all), other))
		}
		list = append(list, append(slices.Clone(all), site), append([]int{-1}, all...))
	}
	return append(list, append(slices.Clone(all), sites), append(all, math.MaxInt))
}

func TestP2SetsThatAreNotValid(t *testing.T) {
	n := &numbers{state: 4}
	for sites := 1; sites <= impl.MaxSites; sites++ {
		for _, clients := range []int{0, 1, 3, 7} {
			f := n.fieldFrom(sites, clients, 9, 9)
			for call, of := range setCalls() {
				for _, set := range badSets(sites) {
					if got := of(f, set); !got.isZero() {
						t.Errorf("%s of %q for %.60s = %s", call, textOf(f), listOf(set), got.text())
					}
				}
				if got := of(f, nil); call != "PaymentOf" && !got.isZero() {
					t.Errorf("%s of %q without sites = %s", call, textOf(f), got.text())
				}
			}
		}
	}
}

func TestP2SwapSitesThatAreNotThere(t *testing.T) {
	f := fieldOf("1 2 3 / 4 5 6")
	for _, n := range []int{-1, 3, 4, 7, math.MinInt, math.MaxInt, 1 << 32, -1 << 32} {
		checkNoSwap(t, f, []int{0, 1}, n, 2)
		checkNoSwap(t, f, []int{0, 1}, 0, n)
		checkNoSwap(t, f, []int{0, 1}, n, n)
		checkNoSwap(t, f, []int{0, 1, 2}, 0, n)
		checkNoSwap(t, f, nil, n, 0)
	}
	for _, set := range badSets(3) {
		for out := range 4 {
			for in := range 4 {
				checkNoSwap(t, f, set, out, in)
			}
		}
	}
}
