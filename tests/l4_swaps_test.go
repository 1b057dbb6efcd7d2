package tests

import (
	"slices"
	"testing"

	"loop.example/g01110/impl"
)

func checkGain(t *testing.T, f impl.Field, set []int, out, in, want int) {
	t.Helper()
	gain, ok := impl.SwapGain(f, set, out, in)
	checkNumber(t, "SwapGain for "+listOf([]int{out, in}), f, set, gain, ok, want)
}

func checkNoGain(t *testing.T, f impl.Field, set []int, out, in int) {
	t.Helper()
	if gain, ok := impl.SwapGain(f, set, out, in); ok || gain != 0 {
		t.Errorf("SwapGain of %q for %.60s, %d and %d = %d, %v; want 0, false", textOf(f), listOf(set), out, in, gain, ok)
	}
}

func checkBestSwap(t *testing.T, f impl.Field, set []int, out, in int) {
	t.Helper()
	gotOut, gotIn, ok := impl.BestSwap(f, set)
	if !ok || gotOut != out || gotIn != in {
		t.Errorf("BestSwap of %q for %v = %d, %d, %v; want %d, %d", textOf(f), set, gotOut, gotIn, ok, out, in)
	}
	local, ok := impl.IsSwapLocal(f, set)
	checkReport(t, "IsSwapLocal", f, set, local, ok, false)
}

func checkNoBestSwap(t *testing.T, f impl.Field, set []int) {
	t.Helper()
	if out, in, ok := impl.BestSwap(f, set); ok || out != 0 || in != 0 {
		t.Errorf("BestSwap of %q for %v = %d, %d, %v; want 0, 0, false", textOf(f), set, out, in, ok)
	}
	local, ok := impl.IsSwapLocal(f, set)
	checkReport(t, "IsSwapLocal", f, set, local, ok, true)
}

func checkSwapEnd(t *testing.T, f impl.Field, set, want []int, count int) {
	t.Helper()
	end, swaps, ok := impl.SwapMedian(f, set)
	checkList(t, "SwapMedian", f, set, end, ok, want)
	checkNumber(t, "the swaps of SwapMedian", f, set, swaps, ok, count)
}

// The gains of this test were worked out by hand.
func TestP4SwapGainsByHand(t *testing.T) {
	for _, c := range []struct {
		field         string
		set           []int
		out, in, gain int
	}{
		{"3 1 / 0 4 / 5 1 / 2 2", []int{0}, 0, 1, 0}, {"3 1 / 0 4 / 5 1 / 2 2", []int{1}, 1, 0, 0},
		{"0 0 / 1 5", []int{0}, 0, 1, -4}, {"0 0 / 1 5", []int{1}, 1, 0, 4}, {"9 0 / 1 5", []int{0}, 0, 1, -4},
		{"5 6", []int{0}, 0, 1, 0}, {"5 6 7", []int{0, 2}, 2, 1, 0}, // no clients
		{"0 0 0 / 0 9 4 / 0 9 4 / 9 0 4 / 9 0 4", []int{0, 2}, 2, 1, 8}, {"0 0 0 / 0 9 4 / 0 9 4 / 9 0 4 / 9 0 4", []int{0, 1}, 0, 2, -8},
		{"0 0 0 / 0 9 4 / 0 9 4 / 9 0 4 / 9 0 4", []int{0}, 0, 2, 2}, {"0 0 0 / 0 9 4 / 0 9 4 / 9 0 4 / 9 0 4", []int{0}, 0, 1, 0},
		{apart, []int{0, 1, 2, 3, 4, 5}, 0, 6, 0}, {"0 0 / 0 99 / 0 99 / 0 99 / 0 99 / 0 99 / 0 99 / 0 99", []int{0}, 0, 1, -693}, {"0 0 / 0 99 / 0 99 / 0 99 / 0 99 / 0 99 / 0 99 / 0 99", []int{1}, 1, 0, 693},
	} {
		checkGain(t, fieldOf(c.field), c.set, c.out, c.in, c.gain)
	}
	f := fieldOf("0 0 0 0 / 1 2 3 4 / 4 3 2 1")
	for _, c := range [][]int{{0, 0}, {1, 1}, {0, 1}, {2, 0}, {2, 2}, {1, 3}, {1, -1}, {1, 4}, {-1, 0}, {4, 0}, {0, 2}, {-1, -1}, {4, 4}, {3, 3}} {
		checkNoGain(t, f, []int{1, 3}, c[0], c[1])
	}
	for out := range 4 {
		for in := range 4 {
			checkNoGain(t, f, []int{0, 1, 2, 3}, out, in)
		}
	}
}

// The swaps of this test were worked out by hand.
func TestP4SwapsByHand(t *testing.T) {
	for _, c := range []struct {
		field   string
		set     []int
		out, in int
		end     []int
		swaps   int
	}{
		{"0 0 / 5 1", []int{0}, 0, 1, []int{1}, 1},
		{"0 0 0 / 5 3 3", []int{0}, 0, 1, []int{1}, 1},       // equal gains: the least site to put in
		{"0 0 0 / 5 5 3", []int{0, 1}, 0, 2, []int{1, 2}, 1}, // and the least one to take out
		{"0 0 0 0 / 5 3 5 3", []int{0, 2}, 0, 1, []int{1, 2}, 1},
		{"0 0 0 / 5 3 1", []int{0}, 0, 2, []int{2}, 1}, // the greatest gain
		{"0 0 0 / 3 5 1 / 0 9 9", []int{0, 1}, 1, 2, []int{0, 2}, 1},
		{"0 0 0 / 0 9 4 / 0 9 4 / 9 0 4 / 9 0 4", []int{0}, 0, 2, []int{2}, 1},
		{"0 0 0 / 0 9 4 / 0 9 4 / 9 0 4 / 9 0 4", []int{1, 2}, 2, 0, []int{0, 1}, 1},
		{"0 0 0 0 / 9 9 0 9 / 9 9 9 1", []int{0, 1}, 0, 2, []int{2, 3}, 2}, // two swaps, the one with the greater gain first
		{"0 0 0 0 / 9 9 9 0 / 9 9 1 9", []int{0, 1}, 0, 3, []int{2, 3}, 2},
	} {
		f := fieldOf(c.field)
		checkBestSwap(t, f, c.set, c.out, c.in)
		checkSwapEnd(t, f, c.set, c.end, c.swaps)
	}
	for _, c := range []struct {
		field string
		set   []int
	}{
		{"3 1 / 0 4 / 5 1 / 2 2", []int{0}}, {"3 1 / 0 4 / 5 1 / 2 2", []int{1}}, // gains of 0
		{"3 1 / 0 4 / 5 1 / 2 2", []int{0, 1}}, {"5", []int{0}}, {"5 / 9", []int{0}}, {apart, []int{0, 1, 2, 3, 4, 5, 6}}, // no swaps
		{"5 6", []int{0}}, {"5 6", []int{1}}, {"5 6 7", []int{1, 2}}, {"5 6 7", []int{0, 1, 2}}, // no clients
		{"9 0 / 1 2", []int{0}}, {"0 0 / 0 99", []int{0}}, {"0 0 0 / 5 5 5", []int{1, 2}}, {apart, []int{3}}, {apart, []int{1, 2, 3, 4, 5, 6}},
		// a service of 4, which no swap makes less, though that of both others is 0
		{"0 0 0 0 / 1 9 0 9 / 1 9 9 0 / 9 1 0 9 / 9 1 9 0", []int{0, 1}}, {"0 0 0 0 / 1 9 0 9 / 1 9 9 0 / 9 1 0 9 / 9 1 9 0", []int{2, 3}},
	} {
		f := fieldOf(c.field)
		checkNoBestSwap(t, f, c.set)
		checkSwapEnd(t, f, c.set, c.set, 0)
	}
}

func TestP4SwapsOfManyFields(t *testing.T) {
	for _, list := range [][]impl.Field{manyFields(2), sparseFields()[:150], smallFields(1, 2, 3), smallFields(2, 1, 5), smallFields(2, 2, 2), smallFields(3, 1, 2), smallFields(3, 2, 1)} {
		for _, f := range list {
			for _, set := range setsModel(len(f.Open))[1:] {
				swaps := swapsModel(f, set)
				for _, swap := range swaps {
					checkGain(t, f, set, swap.out, swap.in, swap.gain)
				}
				if len(swaps) > 0 && swaps[0].gain > 0 {
					checkBestSwap(t, f, set, swaps[0].out, swaps[0].in)
				} else {
					checkNoBestSwap(t, f, set)
				}
				end, count := swapEndModel(f, set)
				checkSwapEnd(t, f, set, end, count)
			}
		}
	}
}

func TestP4SwapsOfAllSites(t *testing.T) {
	n := &numbers{state: 43}
	for sites := 1; sites <= impl.MaxSites; sites++ {
		f := n.fieldFrom(sites, sites%4, 9, 9)
		for _, set := range setsModel(sites) {
			for out := -2; out <= sites+1; out++ {
				for in := -2; in <= sites+1; in++ {
					if !slices.Contains(set, out) || !slices.Contains(othersModel(f, set), in) {
						checkNoGain(t, f, set, out, in)
					}
				}
			}
		}
	}
}

// The rest of this file tells guarantees of the program's own results alone.

func TestP4SwapMedianIsLocal(t *testing.T) {
	for _, f := range append(manyFields(2), sparseFields()[:100]...) {
		for _, set := range setsModel(len(f.Open))[1:] {
			end, swaps, ok := impl.SwapMedian(f, set)
			local, fine := impl.IsSwapLocal(f, end)
			before, _ := impl.ServiceOf(f, set)
			after, _ := impl.ServiceOf(f, end)
			if !ok || !fine || !local || len(end) != len(set) || after > before-swaps || swaps == 0 && !slices.Equal(end, set) {
				t.Fatalf("SwapMedian of %q for %v = %v, %d, %v; local is %v, %v, the services are %d and %d", textOf(f), set, end, swaps, ok, local, fine, before, after)
			}
		}
	}
}

func TestP4MediansAreLocal(t *testing.T) {
	for _, f := range manyFields(3) {
		for k := 1; k <= len(f.Open); k++ {
			median, _ := impl.MedianOf(f, k)
			checkNoBestSwap(t, f, median)
			checkSwapEnd(t, f, median, median, 0)
		}
	}
}

func TestP4LocalSetsOfMetricFieldsAreWithinFiveTimesTheLeast(t *testing.T) {
	fields := metricFields()
	for _, l := range manyLines(2) {
		f, _ := impl.LineField(l.sites, l.clients)
		fields = append(fields, f)
	}
	for _, f := range fields {
		steps, _ := impl.MedianSteps(f)
		for _, set := range setsModel(len(f.Open))[1:] {
			service, _ := impl.ServiceOf(f, set)
			local, ok := impl.IsSwapLocal(f, set)
			if !ok || local && service > 5*steps[len(set)-1] {
				t.Fatalf("IsSwapLocal of %q for %v = %v, %v; its service is %d, and the values are %v", textOf(f), set, local, ok, service, steps)
			}
		}
	}
}
