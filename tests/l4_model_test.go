package tests

import (
	"cmp"
	"slices"

	"loop.example/g01110/impl"
)

// The functions here tell chapter 4 again, as near to the words of the document
// as can be and apart from the program.

func medianModel(f impl.Field, k int) ([]int, int) {
	median, value := []int{}, -1
	for _, set := range setsModel(len(f.Open)) {
		if len(set) != k {
			continue
		}
		if service, _ := serviceModel(f, set); value < 0 || service < value {
			median, value = set, service
		}
	}
	return median, value
}

func valuesModel(f impl.Field) []int {
	values := []int{}
	for site := range f.Open {
		_, value := medianModel(f, site+1)
		values = append(values, value)
	}
	return values
}

// greedyModel takes sites for a whole order; its first k sites are those for k.
func greedyModel(f impl.Field) []int {
	taken := []int{}
	for len(taken) < len(f.Open) {
		next, least := -1, 0
		for site := range f.Open {
			service, _ := serviceModel(f, append(slices.Clone(taken), site))
			if !slices.Contains(taken, site) && (next < 0 || service < least) {
				next, least = site, service
			}
		}
		taken = append(taken, next)
	}
	return taken
}

// reverseModel gives sites up for a whole order; all but the first ones are left.
func reverseModel(f impl.Field) []int {
	gone := []int{}
	for len(gone)+1 < len(f.Open) {
		next, least := -1, 0
		for site := range f.Open {
			if slices.Contains(gone, site) {
				continue
			}
			if service, _ := serviceModel(f, othersModel(f, append(slices.Clone(gone), site))); next < 0 || service < least {
				next, least = site, service
			}
		}
		gone = append(gone, next)
	}
	return append(gone, othersModel(f, gone)...)
}

// othersModel gives all sites that are not in a list.
func othersModel(f impl.Field, list []int) []int {
	others := []int{}
	for site := range f.Open {
		if !slices.Contains(list, site) {
			others = append(others, site)
		}
	}
	return others
}

type swapModel struct {
	out, in, gain int
	set           []int
}

// swapsModel gives all swaps of a set, the one with the greatest gain first.
func swapsModel(f impl.Field, set []int) []swapModel {
	swaps := []swapModel{}
	before, _ := serviceModel(f, set)
	for _, out := range set {
		for _, in := range othersModel(f, set) {
			swapped := othersModel(f, append(othersModel(f, append(slices.Clone(set), in)), out))
			after, _ := serviceModel(f, swapped)
			swaps = append(swaps, swapModel{out, in, before - after, swapped})
		}
	}
	slices.SortFunc(swaps, func(a, b swapModel) int {
		return cmp.Or(cmp.Compare(b.gain, a.gain), cmp.Compare(a.out, b.out), cmp.Compare(a.in, b.in))
	})
	return swaps
}

// swapEndModel gives the set at the end of SwapMedian, and the number of swaps.
func swapEndModel(f impl.Field, set []int) ([]int, int) {
	swaps := swapsModel(f, set)
	if len(swaps) == 0 || swaps[0].gain <= 0 {
		return set, 0
	}
	end, count := swapEndModel(f, swaps[0].set)
	return end, count + 1
}

// boundsModel gives the price bound for each price, over all sets of all numbers of sites.
func boundsModel(f impl.Field, k int) []int {
	sets := setsModel(len(f.Open))[1:]
	services := []int{}
	for _, set := range sets {
		service, _ := serviceModel(f, set)
		services = append(services, service)
	}
	bounds := []int{}
	for price := range impl.MaxMedianPrice + 1 {
		bound := services[0] + price
		for place, set := range sets {
			bound = min(bound, services[place]+price*len(set))
		}
		bounds = append(bounds, bound-price*k)
	}
	return bounds
}

func bestPriceModel(bounds []int) (int, int) {
	greatest := slices.Max(bounds)
	return slices.Index(bounds, greatest), greatest
}

func lineModel(sites, clients []int) impl.Field {
	f := impl.Field{Open: make([]int, len(sites))}
	for _, client := range clients {
		row := []int{}
		for _, site := range sites {
			if site < client {
				row = append(row, client-site)
			} else {
				row = append(row, site-client)
			}
		}
		f.Dist = append(f.Dist, row)
	}
	return f
}

// upModel gives the nodes from a node up to the first one, both included.
func upModel(parents []int, node int) []int {
	up := []int{}
	for ; node >= 0; node = parents[node] {
		up = append(up, node)
	}
	return up
}

// treeModel sums up the edges that are above one of two nodes, but not above both.
func treeModel(parents, lengths []int) impl.Field {
	f := impl.Field{Open: make([]int, len(parents))}
	for a := range parents {
		row := []int{}
		for b := range parents {
			upA, upB, sum := upModel(parents, a), upModel(parents, b), 0
			for node, length := range lengths {
				if slices.Contains(upA, node) != slices.Contains(upB, node) {
					sum += length
				}
			}
			row = append(row, sum)
		}
		f.Dist = append(f.Dist, row)
	}
	return f
}

// partModel sums up the weights of the nodes that can be reached from a node
// without another one.
func partModel(parents, weights []int, from, without int) int {
	reached := []int{from}
	for at := 0; at < len(reached); at++ {
		for node := range parents {
			if parents[node] != reached[at] && parents[reached[at]] != node || node == without || slices.Contains(reached, node) {
				continue
			}
			reached = append(reached, node)
		}
	}
	sum := 0
	for _, node := range reached {
		sum += weights[node]
	}
	return sum
}

func majorityModel(parents, weights []int) int {
	for node := range parents {
		isMiddle := true
		for from := range parents {
			if from != node && 2*partModel(parents, weights, from, node) > sumModel(weights) {
				isMiddle = false
			}
		}
		if isMiddle {
			return node
		}
	}
	panic("no node is in the middle")
}

// lineOf is a line, perhaps one that is not valid.
type lineOf struct{ sites, clients []int }

// placesFrom gives so many places of at most this number, in ascending order,
// different ones if they are those of sites.
func (n *numbers) placesFrom(count, most int, different bool) []int {
	places := []int{}
	for len(places) < count {
		if place := n.below(most + 1); !different || !slices.Contains(places, place) {
			places = append(places, place)
		}
	}
	slices.Sort(places)
	return places
}

// manyLines has lines of all sizes, with places that are close and with any.
func manyLines(each int) []lineOf {
	list := []lineOf{}
	n := &numbers{state: 41}
	for sites := 1; sites <= impl.MaxSites; sites++ {
		for clients := 0; clients <= impl.MaxClients; clients++ {
			for range each {
				for _, most := range []int{sites, 9, 30, impl.MaxPlace} {
					list = append(list, lineOf{n.placesFrom(sites, most, true), n.placesFrom(clients, most, false)})
				}
			}
		}
	}
	return list
}

// smallLines has all lines with places in 0..4 and at most three clients.
func smallLines() []lineOf {
	list := []lineOf{}
	clients := [][]int{{}}
	for first := range 5 {
		clients = append(clients, []int{first})
		for second := first; second < 5; second++ {
			clients = append(clients, []int{first, second})
			for third := second; third < 5; third++ {
				clients = append(clients, []int{first, second, third})
			}
		}
	}
	for _, sites := range setsModel(5)[1:] {
		for _, places := range clients {
			list = append(list, lineOf{sites, places})
		}
	}
	return list
}

// allTrees has the lists of parents of all trees with at most so many nodes.
func allTrees(most int) [][]int {
	list := [][]int{{-1}}
	for from, nodes := 0, 1; nodes < most; nodes++ {
		for end := len(list); from < end; from++ {
			for parent := range nodes {
				list = append(list, append(slices.Clone(list[from]), parent))
			}
		}
	}
	return list
}

// lengthsFrom gives varied lengths for the edges of a tree: none at all, equal
// ones, short ones and any.
func (n *numbers) lengthsFrom(nodes int) [][]int {
	list := [][]int{}
	for _, most := range []int{0, 1, 5, 16, 33, impl.MaxLength} {
		lengths := []int{0}
		for range nodes - 1 {
			lengths = append(lengths, n.below(most+1))
		}
		list = append(list, lengths)
	}
	for _, length := range []int{1, 16, 49, 50, impl.MaxLength} {
		lengths := slices.Repeat([]int{length}, nodes)
		lengths[0] = 0
		list = append(list, lengths)
	}
	return list
}

// weightsFrom gives varied weights for the nodes of a tree.
func (n *numbers) weightsFrom(nodes int) [][]int {
	list := [][]int{make([]int, nodes), slices.Repeat([]int{1}, nodes), slices.Repeat([]int{99}, nodes)}
	for _, most := range []int{1, 1, 2, 3, 3, 6, 6, 99, 99} {
		weights := []int{}
		for range nodes {
			weights = append(weights, n.below(most+1))
		}
		list = append(list, weights)
	}
	return list
}
