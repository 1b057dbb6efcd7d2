package tests

import (
	"math/bits"
	"slices"
	"testing"

	"loop.example/g01110/impl"
)

func checkStab(t *testing.T, intervals [][2]int, points, indices []int) {
	t.Helper()
	if got, ok := impl.StabPoints(intervals); !ok || !slices.Equal(got, points) {
		t.Errorf("StabPoints of %v = %v, %v; want %v", intervals, got, ok, points)
	}
	if got, ok := impl.ApartIntervals(intervals); !ok || !slices.Equal(got, indices) {
		t.Errorf("ApartIntervals of %v = %v, %v; want %v", intervals, got, ok, indices)
	}
}

// The points of this test were worked out by hand.
func TestP6IntervalsByHand(t *testing.T) {
	for _, c := range []struct {
		intervals       [][2]int
		points, indices []int
	}{
		{[][2]int{{0, 3}, {2, 5}, {4, 6}}, []int{3, 6}, []int{0, 2}}, {nil, nil, nil}, {[][2]int{}, nil, nil},
		{[][2]int{{5, 5}}, []int{5}, []int{0}}, {[][2]int{{0, 0}}, []int{0}, []int{0}}, {[][2]int{{99, 99}}, []int{99}, []int{0}}, {[][2]int{{0, 99}}, []int{99}, []int{0}}, {[][2]int{{0, 0}, {99, 99}}, []int{0, 99}, []int{0, 1}}, {[][2]int{{99, 99}, {0, 0}}, []int{0, 99}, []int{1, 0}}, // one point
		{[][2]int{{0, 0}, {0, 99}, {99, 99}}, []int{0, 99}, []int{0, 2}}, {[][2]int{{5, 5}, {6, 6}, {5, 6}}, []int{5, 6}, []int{0, 1}}, {[][2]int{{5, 6}, {6, 6}, {5, 5}}, []int{5, 6}, []int{2, 1}},
		{[][2]int{{1, 4}, {1, 4}}, []int{4}, []int{0}}, {[][2]int{{1, 4}, {1, 4}, {5, 5}, {5, 5}}, []int{4, 5}, []int{0, 2}}, // the same
		{[][2]int{{0, 3}, {3, 5}}, []int{3}, []int{0}}, {[][2]int{{3, 5}, {0, 3}}, []int{3}, []int{1}}, {[][2]int{{0, 3}, {4, 5}}, []int{3, 5}, []int{0, 1}}, {[][2]int{{0, 3}, {3, 6}, {6, 9}}, []int{3, 9}, []int{0, 2}}, {[][2]int{{6, 9}, {3, 6}, {0, 3}}, []int{3, 9}, []int{2, 0}}, // that touch in one point
		{[][2]int{{2, 4}, {0, 4}}, []int{4}, []int{0}}, {[][2]int{{0, 4}, {2, 4}, {0, 1}}, []int{1, 4}, []int{2, 1}}, {[][2]int{{2, 4}, {0, 4}, {0, 1}}, []int{1, 4}, []int{2, 0}}, {[][2]int{{0, 4}, {1, 4}, {2, 4}, {3, 4}, {1, 2}}, []int{2, 4}, []int{4, 3}}, // the same greater number
		{[][2]int{{0, 9}, {3, 4}}, []int{4}, []int{1}}, {[][2]int{{0, 9}, {3, 4}, {6, 7}}, []int{4, 7}, []int{1, 2}}, {[][2]int{{5, 9}, {3, 4}, {6, 7}}, []int{4, 7}, []int{1, 2}}, {[][2]int{{5, 9}, {3, 4}, {0, 7}}, []int{4, 9}, []int{1, 0}}, // within others
	} {
		checkStab(t, c.intervals, c.points, c.indices)
	}
}

func TestP6TwelveIntervals(t *testing.T) {
	far, same, points, back := [][2]int{}, [][2]int{}, []int{}, []int{}
	for place := range impl.MaxIntervals {
		far = append(far, [2]int{8 * place, 8*place + 7})
		same = append(same, [2]int{98, 99})
		points = append(points, 8*place+7)
		back = append(back, impl.MaxIntervals-1-place)
	}
	checkStab(t, far, points, allBelow(impl.MaxIntervals))
	checkStab(t, same, []int{99}, []int{0})
	slices.Reverse(far)
	checkStab(t, far, points, back)
}

func allIntervals() [][][2]int {
	return slices.Concat(manyIntervals(3), smallIntervals(1, 9), smallIntervals(2, 6), smallIntervals(3, 4), smallIntervals(4, 3))
}

func TestP6ManyIntervals(t *testing.T) {
	for _, intervals := range allIntervals() {
		points, indices := stabModel(intervals)
		checkStab(t, intervals, points, indices)
	}
}

// The rest of this file tells guarantees of the program's own results alone.

// Intervals without common points need as many points as there are.
func TestP6PointsAreInAllIntervalsAndApartOnesProveThem(t *testing.T) {
	for _, intervals := range allIntervals() {
		points, one := impl.StabPoints(intervals)
		indices, two := impl.ApartIntervals(intervals)
		isMissed := func(interval [2]int) bool { return !isStabbed(interval, points) }
		if !one || !two || len(points) != len(indices) || !slices.IsSorted(points) || slices.ContainsFunc(intervals, isMissed) {
			t.Fatalf("StabPoints of %v = %v, %v; ApartIntervals are %v, %v", intervals, points, one, indices, two)
		}
		for place, index := range indices {
			if intervals[index][1] != points[place] || place > 0 && intervals[index][0] <= intervals[indices[place-1]][1] {
				t.Fatalf("ApartIntervals of %v = %v; StabPoints are %v", intervals, indices, points)
			}
		}
	}
}

func TestP6NoFewerPointsAreInAllIntervals(t *testing.T) {
	for _, intervals := range slices.Concat(smallIntervals(2, 6), smallIntervals(3, 4), smallIntervals(4, 3)) {
		points, ok := impl.StabPoints(intervals)
		for number := range uint(1 << 7) {
			isMissed := func(interval [2]int) bool { return !isStabbed(interval, listOfBits(number)) }
			if !ok || bits.OnesCount(number) < len(points) && !slices.ContainsFunc(intervals, isMissed) {
				t.Fatalf("StabPoints of %v = %v, %v; %v would do", intervals, points, ok, listOfBits(number))
			}
		}
	}
}
