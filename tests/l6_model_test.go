package tests

import (
	"math/bits"
	"slices"
	"strconv"

	"loop.example/g01110/impl"
)

// The functions here tell chapter 6 again, as near to the words of the document
// as can be and apart from the program. The elements of a set are told as the
// bits of a number.

// systemOf reads the size of a System and, for each set, its cost and its elements.
func systemOf(text string) impl.System {
	rows := rowsOf(text)
	s := impl.System{Size: rows[0][0]}
	for _, row := range rows[1:] {
		s.Costs = append(s.Costs, row[0])
		s.Sets = append(s.Sets, row[1:])
	}
	return s
}

// systemText writes any System, even one that is not valid.
func systemText(s impl.System) string {
	text := strconv.Itoa(s.Size) + " costs " + listOf(s.Costs) + " sets"
	for _, set := range s.Sets {
		text += " " + listOf(set)
	}
	return text
}

func sameSystem(a, b impl.System) bool {
	return a.Size == b.Size && slices.Equal(a.Costs, b.Costs) && sameRows(a.Sets, b.Sets)
}

func bitsOf(list []int) uint {
	number := uint(0)
	for _, n := range list {
		number |= 1 << n
	}
	return number
}

func listOfBits(number uint) []int {
	list := []int{}
	for n := range bits.Len(number) {
		if number>>n&1 == 1 {
			list = append(list, n)
		}
	}
	return list
}

// fullOf has all elements.
func fullOf(s impl.System) uint {
	return 1<<s.Size - 1
}

func coveredModel(s impl.System, choice []int) uint {
	covered := uint(0)
	for _, set := range choice {
		covered |= bitsOf(s.Sets[set])
	}
	return covered
}

func costModel(s impl.System, choice []int) int {
	cost := 0
	for _, set := range choice {
		cost += s.Costs[set]
	}
	return cost
}

func leastCoverModel(s impl.System) ([]int, bool) {
	least, cost := []int{}, -1
	for _, choice := range setsModel(len(s.Sets)) {
		if coveredModel(s, choice) == fullOf(s) && (cost < 0 || costModel(s, choice) < cost) {
			least, cost = choice, costModel(s, choice)
		}
	}
	return least, cost >= 0
}

// greedyCoverModel gives the sets and the prices. Its quotients are 840 times
// as great, so that all of them are whole.
func greedyCoverModel(s impl.System) ([]int, []int, bool) {
	chosen, prices, covered := []int{}, make([]int, s.Size), uint(0)
	for covered != fullOf(s) {
		best, least := -1, 0
		for set := range s.Sets {
			fresh := bits.OnesCount(bitsOf(s.Sets[set]) &^ covered)
			if fresh > 0 && (best < 0 || 840*s.Costs[set]/fresh < least) {
				best, least = set, 840*s.Costs[set]/fresh
			}
		}
		if best < 0 {
			return []int{}, []int{}, false
		}
		for _, element := range listOfBits(bitsOf(s.Sets[best]) &^ covered) {
			prices[element] = least
		}
		chosen = append(chosen, best)
		covered |= bitsOf(s.Sets[best])
	}
	return chosen, prices, true
}

func arePricesModel(s impl.System, prices []int, scale int) bool {
	for set, elements := range s.Sets {
		sum := 0
		for _, element := range elements {
			sum += prices[element]
		}
		if sum > s.Costs[set]*scale {
			return false
		}
	}
	return true
}

// raiseModel raises prices by 1, as long as they are fair then.
func raiseModel(s impl.System) ([]int, []int) {
	prices, paid := make([]int, s.Size), []int{}
	for element := range s.Size {
		isInSet := coveredModel(s, allBelow(len(s.Sets)))>>element&1 == 1
		for isInSet && arePricesModel(s, prices, 1) {
			prices[element]++
		}
		prices[element] = max(0, prices[element]-1)
	}
	for set, elements := range s.Sets {
		sum := 0
		for _, element := range elements {
			sum += prices[element]
		}
		if sum == s.Costs[set] {
			paid = append(paid, set)
		}
	}
	return prices, paid
}

func allBelow(limit int) []int {
	return listOfBits(1<<limit - 1)
}

func turnModel(s impl.System) impl.System {
	turned := impl.System{Size: len(s.Sets)}
	for element := range s.Size {
		with := []int{}
		for set, elements := range s.Sets {
			if slices.Contains(elements, element) {
				with = append(with, set)
			}
		}
		turned.Sets, turned.Costs = append(turned.Sets, with), append(turned.Costs, 1)
	}
	return turned
}

func hitsModel(s impl.System, elements []int) bool {
	for _, set := range s.Sets {
		if bitsOf(set)&bitsOf(elements) == 0 {
			return false
		}
	}
	return true
}

func leastHittingModel(s impl.System) ([]int, bool) {
	for _, elements := range setsModel(s.Size) {
		if hitsModel(s, elements) {
			return elements, true
		}
	}
	return []int{}, false
}

// isPackingModel compares each two sets.
func isPackingModel(s impl.System, choice []int) bool {
	for place, set := range choice {
		if len(s.Sets[set]) == 0 {
			return false
		}
		for _, other := range choice[:place] {
			if bitsOf(s.Sets[set])&bitsOf(s.Sets[other]) != 0 {
				return false
			}
		}
	}
	return true
}

func packingModel(s impl.System) []int {
	largest := []int{}
	for _, choice := range setsModel(len(s.Sets)) {
		if isPackingModel(s, choice) && len(choice) > len(largest) {
			largest = choice
		}
	}
	return largest
}

func mostModel(s impl.System, k int) []int {
	best, most := []int{}, 0
	for _, choice := range setsModel(len(s.Sets)) {
		if count := bits.OnesCount(coveredModel(s, choice)); len(choice) <= k && count > most {
			best, most = choice, count
		}
	}
	return best
}

func coverageModel(s impl.System, k int) []int {
	chosen := []int{}
	for len(chosen) < k {
		best, most := -1, 0
		for set := range s.Sets {
			if fresh := bits.OnesCount(bitsOf(s.Sets[set]) &^ coveredModel(s, chosen)); fresh > most {
				best, most = set, fresh
			}
		}
		if best < 0 {
			break
		}
		chosen = append(chosen, best)
	}
	return chosen
}

func reachSystemModel(f impl.Field, r int) impl.System {
	s := impl.System{Size: len(f.Dist)}
	for site := range f.Open {
		near := uint(0)
		for client := range f.Dist {
			if f.Dist[client][site] <= r {
				near |= 1 << client
			}
		}
		s.Sets, s.Costs = append(s.Sets, listOfBits(near)), append(s.Costs, 1)
	}
	return s
}

// stabModel goes through all points in ascending order.
func stabModel(intervals [][2]int) ([]int, []int) {
	points, apart := []int{}, []int{}
	for point := range 100 {
		for place, interval := range intervals {
			if interval[1] == point && !isStabbed(interval, points) {
				points, apart = append(points, point), append(apart, place)
			}
		}
	}
	return points, apart
}

func isStabbed(interval [2]int, points []int) bool {
	for point := interval[0]; point <= interval[1]; point++ {
		if slices.Contains(points, point) {
			return true
		}
	}
	return false
}

// namedSystems has the edges that the document names.
func namedSystems() []impl.System {
	list := []impl.System{}
	for _, text := range []string{
		"0", "1", "3", "8", "0 / 1", "0 / 99 / 1", "0 / 5 / 5 / 5 / 5 / 5 / 5 / 5 / 5", "3 / 1", "8 / 99 / 1 / 5", // no elements, no sets, sets without elements
		"1 / 1 0", "1 / 99 0", "1 / 2 0 / 1 0 / 1 0", "1 / 3 / 1 0", "2 / 1 0", "2 / 1 1", "3 / 1 0 / 1 2", "8 / 1 0 1 2 3 4 5 6",
		"3 / 2 0 1 / 3 1 2 / 1 2", "2 / 1 0 / 1 1 / 2 0 1", "2 / 2 0 1 / 1 0 / 1 1", "2 / 1 0 / 1 1 / 3 0 1", "3 / 61 0 1 2 / 20 0 / 30 1 / 60 2", "3 / 20 0 / 30 1 / 60 2 / 60 0 1 2",
		"3 / 1 0 1 / 1 1 2 / 1 0 2", "4 / 1 0 1 / 1 2 3 / 1 0 2 / 1 1 3", "6 / 1 0 1 2 / 1 3 4 5 / 1 1 2 3 4", "4 / 3 / 1 1 2 / 1 0 1 / 1 2 3 / 1 / 1 0 3",
		"8 / 1 0 / 1 1 / 1 2 / 1 3 / 1 4 / 1 5 / 1 6 / 1 7", "8 / 99 7 / 99 6 / 99 5 / 99 4 / 99 3 / 99 2 / 99 1 / 99 0",
		"8 / 1 0 1 / 1 1 2 / 1 2 3 / 1 3 4 / 1 4 5 / 1 5 6 / 1 6 7 / 1 0 7", "8 / 9 0 1 2 3 / 9 4 5 6 7 / 8 0 2 4 6 / 8 1 3 5 7 / 5 0 1 / 5 2 3 / 5 4 5 / 5 6 7",
		"8 / 99 0 1 2 3 4 5 6 7 / 12 0 / 14 1 / 16 2 / 19 3 / 24 4 / 33 5 / 49 6", "8 / 12 0 / 14 1 / 16 2 / 19 3 / 24 4 / 33 5 / 49 6 / 99 0 1 2 3 4 5 6 7",
	} {
		list = append(list, systemOf(text))
	}
	for _, cost := range []int{1, 2, 98, 99} {
		for _, size := range []int{1, 7, 8} {
			all := allBelow(size)
			s := impl.System{Size: size}
			for range impl.MaxSystem { // one list several times is an argument, too
				s.Sets, s.Costs = append(s.Sets, all), append(s.Costs, cost)
			}
			list = append(list, s)
		}
	}
	return list
}

// systemFrom makes a System in which elements are in sets with this chance, in
// tenths, and costs are at most this number.
func (n *numbers) systemFrom(size, sets, tenths, cost int) impl.System {
	s := impl.System{Size: size}
	for range sets {
		set := []int{}
		for element := range size {
			if n.below(10) < tenths {
				set = append(set, element)
			}
		}
		s.Sets, s.Costs = append(s.Sets, set), append(s.Costs, 1+n.below(cost))
	}
	return s
}

// manySystems adds Systems of all sizes, with small sets and with great ones.
func manySystems(each int) []impl.System {
	list := namedSystems()
	n := &numbers{state: 61}
	for size := range impl.MaxElements + 1 {
		for sets := range impl.MaxSystem + 1 {
			for range each {
				list = append(list, n.systemFrom(size, sets, 3, 1), n.systemFrom(size, sets, 2, 3), n.systemFrom(size, sets, 4, 9),
					n.systemFrom(size, sets, 5, 99), n.systemFrom(size, sets, 6, 4), n.systemFrom(size, sets, 7, 99))
			}
		}
	}
	return list
}

// smallSystems gives all Systems of a size with so many sets and costs of at most this number.
func smallSystems(size, sets, cost int) []impl.System {
	list := []impl.System{}
	kinds, count := cost<<size, 1
	for range sets {
		count *= kinds
	}
	for code := range count {
		s := impl.System{Size: size}
		for range sets {
			s.Sets, s.Costs = append(s.Sets, listOfBits(uint(code%kinds/cost))), append(s.Costs, 1+code%kinds%cost)
			code /= kinds
		}
		list = append(list, s)
	}
	return list
}

func allSmallSystems() []impl.System {
	return slices.Concat(smallSystems(0, 2, 3), smallSystems(1, 3, 3), smallSystems(2, 1, 3), smallSystems(2, 2, 4), smallSystems(2, 3, 2), smallSystems(3, 1, 4), smallSystems(3, 2, 3), smallSystems(3, 3, 2))
}

// manyIntervals has lists of intervals of all lengths, wide and narrow ones.
func manyIntervals(each int) [][][2]int {
	list := [][][2]int{}
	n := &numbers{state: 62}
	for count := range impl.MaxIntervals + 1 {
		for range each {
			for _, most := range []int{3, 9, 40, 99} {
				for _, width := range []int{0, 1, 5, 30, 99} {
					intervals := [][2]int{}
					for range count {
						from := n.below(most + 1)
						intervals = append(intervals, [2]int{from, min(most, from+n.below(width+1))})
					}
					list = append(list, intervals)
				}
			}
		}
	}
	return list
}

// smallIntervals gives all lists of so many intervals with points of at most this number.
func smallIntervals(count, most int) [][][2]int {
	lists := [][][2]int{{}}
	for range count {
		longer := [][][2]int{}
		for _, intervals := range lists {
			for from := range most + 1 {
				for to := from; to <= most; to++ {
					longer = append(longer, append(slices.Clone(intervals), [2]int{from, to}))
				}
			}
		}
		lists = longer
	}
	return lists
}
