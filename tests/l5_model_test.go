package tests

import (
	"math"
	"slices"

	"loop.example/g01110/impl"
)

// The functions here tell chapter 5 again, as near to the words of the document
// as can be and apart from the program.

// lengthsModel tries every length in turn.
func lengthsModel(f impl.Field) []int {
	lengths := []int{}
	for length := range impl.MaxLength + 1 {
		for _, row := range f.Dist {
			if slices.Contains(row, length) {
				lengths = append(lengths, length)
				break
			}
		}
	}
	return lengths
}

func withinModel(f impl.Field, set []int, r int) []int {
	within := []int{}
	for client, site := range servedModel(f, set) {
		if f.Dist[client][site] <= r {
			within = append(within, client)
		}
	}
	return within
}

func radiiModel(f impl.Field, set []int) []int {
	radii := []int{}
	for place, group := range groupsModel(servedModel(f, set), set) {
		radii = append(radii, 0)
		for _, client := range group {
			radii[place] = max(radii[place], f.Dist[client][set[place]])
		}
	}
	return radii
}

// partialModel gives the first set, and its reach without z clients.
func partialModel(f impl.Field, k, z int) ([]int, int) {
	best, least := []int{}, -1
	for _, set := range setsModel(len(f.Open))[1:] {
		if len(set) > k {
			break
		}
		if reach := leftModel(f, set, z); least < 0 || reach < least {
			best, least = set, reach
		}
	}
	return best, least
}

// leftModel leaves out clients with the greatest length, one after the other.
func leftModel(f impl.Field, set []int, z int) int {
	lengths := []int{}
	for client, site := range servedModel(f, set) {
		lengths = append(lengths, f.Dist[client][site])
	}
	for ; z > 0 && len(lengths) > 0; z-- {
		at := slices.Index(lengths, slices.Max(lengths))
		lengths = slices.Delete(lengths, at, at+1)
	}
	if len(lengths) == 0 {
		return 0
	}
	return slices.Max(lengths)
}

func centresModel(f impl.Field, k int) ([]int, int) {
	best, least := []int{}, -1
	for _, set := range setsModel(len(f.Open))[1:] {
		if _, reach := serviceModel(f, set); len(set) <= k && (least < 0 || reach < least) {
			best, least = set, reach
		}
	}
	return best, least
}

// coverModel gives an empty set if none covers the radius.
func coverModel(f impl.Field, r int) []int {
	for _, set := range setsModel(len(f.Open))[1:] {
		if _, reach := serviceModel(f, set); reach <= r {
			return set
		}
	}
	return []int{}
}

// farModel counts the clients of a list to which each site has a length of at most r.
func farModel(f impl.Field, clients []int, r int) bool {
	for site := range f.Open {
		count := 0
		for _, client := range clients {
			if f.Dist[client][site] <= r {
				count++
			}
		}
		if count >= 2 {
			return false
		}
	}
	return true
}

func largestFarModel(f impl.Field, r int) []int {
	largest := []int{}
	for _, clients := range setsModel(len(f.Dist)) {
		if len(clients) > len(largest) && farModel(f, clients, r) {
			largest = clients
		}
	}
	return largest
}

func allNearModel(f impl.Field, r int) bool {
	for _, row := range f.Dist {
		if slices.Min(row) > r {
			return false
		}
	}
	return true
}

func farReachModel(f impl.Field, k int) int {
	for _, r := range lengthsModel(f) {
		if allNearModel(f, r) && len(largestFarModel(f, r)) <= k {
			return r
		}
	}
	return 0
}

func gapModel(f impl.Field, i, j int) int {
	sums := []int{}
	for site := range f.Open {
		sums = append(sums, f.Dist[i][site]+f.Dist[j][site])
	}
	if i == j {
		return 0
	}
	return slices.Min(sums)
}

// farthestModel takes all clients, of which the first k ones are those for k.
func farthestModel(f impl.Field) []int {
	taken := []int{}
	if len(f.Dist) > 0 {
		taken = append(taken, 0)
	}
	for len(taken) < len(f.Dist) {
		next, greatest := -1, 0
		for client := range f.Dist {
			gaps := []int{}
			for _, other := range taken {
				gaps = append(gaps, gapModel(f, client, other))
			}
			if !slices.Contains(taken, client) && (next < 0 || slices.Min(gaps) > greatest) {
				next, greatest = client, slices.Min(gaps)
			}
		}
		taken = append(taken, next)
	}
	return taken
}

// nearestModel gives the sites to which clients are nearest, the site 0 if there are none.
func nearestModel(f impl.Field, clients []int) []int {
	sites := []int{}
	for site := range f.Open {
		for _, client := range clients {
			if row := f.Dist[client]; slices.Index(row, slices.Min(row)) == site {
				sites = append(sites, site)
				break
			}
		}
	}
	if len(f.Dist) == 0 {
		return []int{0}
	}
	return sites
}

func thresholdModel(f impl.Field, r int) []int {
	kept := []int{}
	for client := range f.Dist {
		isFar := true
		for _, other := range kept {
			isFar = isFar && farModel(f, []int{other, client}, r)
		}
		if isFar {
			kept = append(kept, client)
		}
	}
	return kept
}

// lineSitesModel fails if the first client without a site has none to take.
func lineSitesModel(l lineOf, r int) ([]int, bool) {
	f, taken := lineModel(l.sites, l.clients), []int{}
	for client, row := range f.Dist {
		isServed := slices.ContainsFunc(taken, func(site int) bool { return row[site] <= r })
		if isServed {
			continue
		}
		next := -1
		for site := range l.sites {
			if f.Dist[client][site] <= r && (next < 0 || l.sites[site] > l.sites[next]) {
				next = site
			}
		}
		if next < 0 {
			return []int{}, false
		}
		taken = append(taken, next)
	}
	return taken, true
}

// radiiFor gives radii that are just, just below and just above lengths, and
// those that are less and greater than all of them.
func radiiFor(f impl.Field) []int {
	radii := []int{0, 1, 50, 98, impl.MaxLength, impl.MaxLength + 1, 198, 199, 1000, 1 << 32, math.MaxInt - 1, math.MaxInt}
	for _, length := range lengthsModel(f) {
		radii = append(radii, max(0, length-1), length, length+1)
	}
	slices.Sort(radii)
	return slices.Compact(radii)
}

// midFields has Fields with lengths about the middle and up to the greatest
// one, with clients at sites, and with clients far from all sites.
func midFields(count int) []impl.Field {
	list := []impl.Field{}
	n := &numbers{state: 51}
	for range count {
		f := n.fieldFrom(1+n.below(7), n.below(8), 9, 12)
		for _, row := range f.Dist {
			switch n.below(4) {
			case 0: // at a site, and perhaps at several
				row[n.below(len(row))] = 0
			case 1:
				for site := range row {
					row[site] += 40
				}
			case 2:
				for site := range row {
					row[site] = n.below(3) * 49
				}
			}
		}
		list = append(list, f)
	}
	return list
}

// placeFields has the Fields of places in a plane, whose lengths are sums of
// the differences of both coordinates, so that they are metric.
func placeFields(count int) []impl.Field {
	list := []impl.Field{}
	n := &numbers{state: 52}
	for range count {
		f, most := impl.Field{Open: make([]int, 1+n.below(7))}, 2+n.below(47)
		sites := [][2]int{}
		for range f.Open {
			sites = append(sites, [2]int{n.below(most), n.below(most)})
		}
		for range n.below(8) {
			client, row := [2]int{n.below(most), n.below(most)}, []int{}
			for _, site := range sites {
				row = append(row, max(client[0]-site[0], site[0]-client[0])+max(client[1]-site[1], site[1]-client[1]))
			}
			f.Dist = append(f.Dist, row)
		}
		list = append(list, f)
	}
	return list
}
