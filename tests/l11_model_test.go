package tests

import (
	"cmp"
	"slices"

	"loop.example/g01110/impl"
)

// The functions here tell chapter 11 again, as near to the words of the document
// as can be and apart from the program.

const objectives = 5

func objectiveModel(f impl.Field, set []int, objective int) int {
	service, reach := serviceModel(f, set)
	payment := paymentModel(f, set)
	return []int{service, payment, service + payment, reach, len(set)}[objective-1]
}

// pointModel gives the point of a set.
func pointModel(f impl.Field, set []int, a, b int) [2]int {
	return [2]int{objectiveModel(f, set, a), objectiveModel(f, set, b)}
}

func dominates(point, other [2]int) bool {
	return point[0] <= other[0] && point[1] <= other[1] && point != other
}

// frontModel holds each point against all others, and gives the points that are
// left and their first sets.
func frontModel(f impl.Field, a, b int) ([][2]int, [][]int) {
	sets, points := setsModel(len(f.Open))[1:], [][2]int{}
	for _, set := range sets {
		points = append(points, pointModel(f, set, a, b))
	}
	first := map[int]int{} // the place of the first set with a point of the front, by the point's first number
	for place, point := range points {
		if !slices.ContainsFunc(points, func(other [2]int) bool { return dominates(other, point) }) && slices.Index(points, point) == place {
			first[point[0]] = place
		}
	}
	front, firstSets := [][2]int{}, [][]int{}
	for number := range 2000 {
		if place, ok := first[number]; ok {
			front, firstSets = append(front, points[place]), append(firstSets, sets[place])
		}
	}
	return front, firstSets
}

// underModel gives no set if none keeps the limit.
func underModel(f impl.Field, a, b, limit int) []int {
	kept := slices.DeleteFunc(setsModel(len(f.Open))[1:], func(set []int) bool { return objectiveModel(f, set, b) > limit })
	if len(kept) == 0 {
		return nil
	}
	return slices.MinFunc(kept, func(set, other []int) int {
		return cmp.Compare(objectiveModel(f, set, a), objectiveModel(f, other, a))
	})
}

// orderedModel looks for each weight for the length that has so many before it.
func orderedModel(f impl.Field, set, weights []int) int {
	counts := make([]int, 100)
	for _, row := range f.Dist {
		counts[leastModel(row, set)]++
	}
	value, place := 0, 0
	for length, count := range counts {
		for range count {
			value += weights[place] * length
			place++
		}
	}
	return value
}

func orderedBestModel(f impl.Field, k int, weights []int) []int {
	best, least := []int{}, -1
	for _, set := range setsModel(len(f.Open)) {
		if len(set) != k {
			continue
		}
		if value := orderedModel(f, set, weights); least < 0 || value < least {
			best, least = set, value
		}
	}
	return best
}

func metricGroundModel(m [][]int) bool {
	for i := range m {
		for j := range m {
			for third := range m {
				if m[i][j] > m[i][third]+m[third][j] {
					return false
				}
			}
		}
	}
	return true
}

func dispersionModel(m [][]int, set []int) int {
	distances := []int{}
	for _, i := range set {
		for _, j := range set {
			if i != j {
				distances = append(distances, m[i][j])
			}
		}
	}
	return slices.Min(distances)
}

// bestDispersionModel gives the set and its dispersion.
func bestDispersionModel(m [][]int, k int) ([]int, int) {
	best, greatest := []int{}, -1
	for _, set := range setsModel(len(m)) {
		if len(set) != k {
			continue
		}
		if dispersion := dispersionModel(m, set); dispersion > greatest {
			best, greatest = set, dispersion
		}
	}
	return best, greatest
}

// farthestFirstModel gives all places in the order in which they are taken.
func farthestFirstModel(m [][]int) []int {
	taken, greatest := []int{0, 1}, -1
	for i := range m {
		for j := i + 1; j < len(m); j++ {
			if m[i][j] > greatest {
				taken, greatest = []int{i, j}, m[i][j]
			}
		}
	}
	for len(taken) < len(m) {
		next, farthest := -1, -1
		for place := range m {
			if slices.Contains(taken, place) {
				continue
			}
			near := leastModel(m[place], taken)
			if near > farthest {
				next, farthest = place, near
			}
		}
		taken = append(taken, next)
	}
	return taken
}

// provesModel counts how often each place is in the groups.
func provesModel(m, groups [][]int, d int) bool {
	counts := make([]int, len(m))
	for _, group := range groups {
		if len(group) == 0 {
			return false
		}
		for _, place := range group {
			if place < 0 || place >= len(m) {
				return false
			}
			counts[place]++
		}
	}
	for _, count := range counts {
		if count != 1 {
			return false
		}
	}
	for _, group := range groups {
		for _, i := range group {
			for _, j := range group {
				if i != j && m[i][j] >= d {
					return false
				}
			}
		}
	}
	return true
}

func nearGroupsModel(m [][]int, d int) [][]int {
	groups := [][]int{}
nextPlace:
	for place := range m {
	nextGroup:
		for at, group := range groups {
			for _, other := range group {
				if m[place][other] >= d {
					continue nextGroup
				}
			}
			groups[at] = append(group, place)
			continue nextPlace
		}
		groups = append(groups, []int{place})
	}
	return groups
}

func isAllocationModel(places int, hubs []int) bool {
	if len(hubs) != places {
		return false
	}
	for _, hub := range hubs {
		if hub < 0 || hub >= places || hubs[hub] != hub {
			return false
		}
	}
	return true
}

// hubCostModel goes over all pairs of places in order.
func hubCostModel(m, flows [][]int, hubs []int, discount int) int {
	cost := 0
	for i := range m {
		for j := range m {
			if i != j {
				cost += flows[i][j] * (10*m[i][hubs[i]] + 10*m[j][hubs[j]] + discount*m[hubs[i]][hubs[j]])
			}
		}
	}
	return cost
}

// allocationsModel gives all allocations with at most k hubs, in ascending
// order: for each set of hubs, those of the other places in all ways.
func allocationsModel(places, k int) [][]int {
	list := [][]int{}
	for _, set := range setsModel(places) {
		if len(set) > k || len(set) == 0 && places > 0 {
			continue
		}
		lists := [][]int{{}}
		for place := range places {
			longer := [][]int{}
			for _, before := range lists {
				for _, hub := range set {
					if hub == place || !slices.Contains(set, place) {
						longer = append(longer, append(slices.Clone(before), hub))
					}
				}
			}
			lists = longer
		}
		list = append(list, lists...)
	}
	slices.SortFunc(list, slices.Compare)
	return list
}

// bestHubsModel gives the allocation and its cost.
func bestHubsModel(m, flows [][]int, k, discount int) ([]int, int) {
	best, least := []int{}, -1
	for _, hubs := range allocationsModel(len(m), k) {
		if cost := hubCostModel(m, flows, hubs, discount); least < 0 || cost < least {
			best, least = hubs, cost
		}
	}
	return best, least
}

// groundOf reads the distances of each place to those before it, - for no place.
func groundOf(text string) [][]int {
	if text == "-" {
		return nil
	}
	rows := rowsOf(text)
	m := make([][]int, len(rows))
	for i := range m {
		m[i] = make([]int, len(rows))
		for j := range i {
			m[i][j], m[j][i] = rows[i][j], rows[i][j]
		}
	}
	return m
}

// groundFrom makes a ground with distances of at most this number.
func (n *numbers) groundFrom(places, most int) [][]int {
	m := make([][]int, places)
	for i := range m {
		m[i] = make([]int, places)
		for j := range i {
			m[i][j] = n.below(most + 1)
			m[j][i] = m[i][j]
		}
	}
	return m
}

// metricGroundFrom makes the ground of places in a plane.
func (n *numbers) metricGroundFrom(places, most int) [][]int {
	points := [][2]int{}
	for range places {
		points = append(points, [2]int{n.below(most + 1), n.below(most + 1)})
	}
	m := make([][]int, places)
	for i, one := range points {
		for _, two := range points {
			m[i] = append(m[i], max(one[0]-two[0], two[0]-one[0])+max(one[1]-two[1], two[1]-one[1]))
		}
	}
	return m
}

// namedGrounds has the edges that the document names.
func namedGrounds() [][][]int {
	list := [][][]int{{}}
	for _, text := range []string{
		"-", " ", " / 0", " / 7", " / 99", triangle, " / 3 / 5 2", " / 3 / 5 1", " / 0 / 0 0", " / 0 / 5 5", " / 5 / 0 5", " / 5 / 5 0", " / 99 / 99 99", " / 99 / 0 99", " / 1 / 99 99",
		square, roads, " / 4 / 4 4 / 4 4 4 / 4 4 4 4", " / 1 / 2 1 / 3 2 1 / 4 3 2 1", " / 0 / 0 0 / 9 9 9 / 9 9 9 0", " / 5 / 5 5 / 5 5 5 / 5 5 5 5 / 5 5 5 5 5 / 5 5 5 5 5 5",
		" / 1 / 2 1 / 3 2 1 / 4 3 2 1 / 5 4 3 2 1 / 6 5 4 3 2 1", " / 0 / 0 0 / 0 0 0 / 0 0 0 0 / 0 0 0 0 0 / 0 0 0 0 0 0", " / 99 / 99 99 / 99 99 99 / 99 99 99 99 / 99 99 99 99 99 / 99 99 99 99 99 99",
		" / 0 / 9 9 / 9 9 0 / 9 9 9 9 / 9 9 9 9 0 / 9 9 9 9 9 9",
	} {
		list = append(list, groundOf(text))
	}
	return list
}

const (
	// triangle is that of the document's tests.
	triangle = " / 3 / 5 4"
	// square has four places, of which those at opposite corners are farthest from each other.
	square = " / 1 / 2 1 / 1 2 1"
	// roads has three places that are near to each other, and two that are far off.
	roads = " / 2 / 3 2 / 40 41 42 / 70 71 72 30"
)

// manyGrounds adds grounds of all sizes, with few different numbers and with
// many, and every second one metric.
func manyGrounds(each int) [][][]int {
	list, n := namedGrounds(), &numbers{state: 151}
	for places := range impl.MaxSites + 1 {
		for range each {
			for _, most := range []int{1, 2, 3, 9, 49} {
				list = append(list, n.groundFrom(places, most), n.metricGroundFrom(places, most), n.groundFrom(places, 2*most+1))
			}
		}
	}
	return list
}

// smallGrounds gives all grounds of so many places with distances of at most this number.
func smallGrounds(places, most int) [][][]int {
	list, pairs := [][][]int{}, places*(places-1)/2
	for code := range power(most+1, pairs) {
		m := make([][]int, places)
		for i := range m {
			m[i] = make([]int, places)
			for j := range i {
				m[i][j] = code % (most + 1)
				m[j][i] = m[i][j]
				code /= most + 1
			}
		}
		list = append(list, m)
	}
	return list
}

// groupsFrom gives some groups of all places.
func (n *numbers) groupsFrom(places int) [][]int {
	groups := [][]int{}
	for _, place := range n.orderFrom(places) {
		if at := n.below(len(groups) + 1); at < len(groups) {
			groups[at] = append(groups[at], place)
		} else {
			groups = append(groups, []int{place})
		}
	}
	return groups
}

// flowsFrom makes flows of at most this number, also of places to themselves.
func (n *numbers) flowsFrom(places, most int) [][]int {
	flows := [][]int{}
	for range places {
		flows = append(flows, n.listFrom(places, most))
	}
	return flows
}

// hubNet is a network with a discount.
type hubNet struct {
	m, flows [][]int
	discount int
}

func (h hubNet) text() string {
	return rowsText(h.m) + " with " + rowsText(h.flows) + " and " + listOf([]int{h.discount})
}

// namedNets has the edges that the document names.
func namedNets() []hubNet {
	list := []hubNet{}
	for _, m := range namedGrounds() {
		if len(m) > impl.MaxHubs {
			continue
		}
		for _, discount := range []int{0, 1, 5, 10} {
			for _, flow := range []int{0, 1, 99} { // one list several times is an argument, too
				list = append(list, hubNet{m, slices.Repeat([][]int{slices.Repeat([]int{flow}, len(m))}, len(m)), discount})
			}
		}
	}
	return list
}

// manyNets adds networks of all sizes.
func manyNets(each int) []hubNet {
	list, n := namedNets(), &numbers{state: 152}
	for places := range impl.MaxHubs + 1 {
		for range each {
			for _, most := range []int{1, 3, 9, 49} {
				for _, flow := range []int{1, 4, 99} {
					list = append(list, hubNet{n.groundFrom(places, 2*most), n.flowsFrom(places, flow), n.below(11)}, hubNet{n.metricGroundFrom(places, most), n.flowsFrom(places, flow), 10 * n.below(2)})
				}
			}
		}
	}
	return list
}
