package tests

import (
	"cmp"
	"slices"
	"strconv"
	"strings"

	"loop.example/g01110/impl"
)

// The functions here tell chapter 2 again, as near to the words of the document
// as can be and apart from the program.

// rowsOf gives rows of numbers that are written as in FieldText, but of any values.
func rowsOf(text string) [][]int {
	rows := [][]int{}
	for _, part := range strings.Split(text, " / ") {
		row := []int{}
		for _, word := range strings.Fields(part) {
			n, err := strconv.Atoi(word)
			if err != nil {
				panic(err)
			}
			row = append(row, n)
		}
		rows = append(rows, row)
	}
	return rows
}

func fieldOf(text string) impl.Field {
	rows := rowsOf(text)
	return impl.Field{Open: rows[0], Dist: rows[1:]}
}

// textOf writes any Field, even one that is not valid.
func textOf(f impl.Field) string {
	text := strings.Trim(strings.ReplaceAll(listOf(f.Open), ",", " "), "[]")
	for _, row := range f.Dist {
		text += " / " + strings.Trim(strings.ReplaceAll(listOf(row), ",", " "), "[]")
	}
	return text
}

func listOf(list []int) string {
	words := []string{}
	for _, n := range list {
		words = append(words, strconv.Itoa(n))
	}
	return "[" + strings.Join(words, ",") + "]"
}

func copyRows(rows [][]int) [][]int {
	result := [][]int{}
	for _, row := range rows {
		result = append(result, slices.Clone(row))
	}
	return result
}

func sameField(f, g impl.Field) bool {
	return slices.Equal(f.Open, g.Open) && sameRows(f.Dist, g.Dist)
}

func sameRows(a, b [][]int) bool {
	return slices.EqualFunc(a, b, func(x, y []int) bool { return slices.Equal(x, y) })
}

// setsModel gives all sets of so many sites, the one without sites too, in their order.
func setsModel(sites int) [][]int {
	sets := [][]int{}
	for mask := range 1 << sites {
		set := []int{}
		for site := range sites {
			if mask>>site&1 == 1 {
				set = append(set, site)
			}
		}
		sets = append(sets, set)
	}
	slices.SortFunc(sets, func(a, b []int) int {
		return cmp.Or(cmp.Compare(len(a), len(b)), slices.Compare(a, b))
	})
	return sets
}

func servedModel(f impl.Field, set []int) []int {
	served := []int{}
	for _, row := range f.Dist {
		by := -1
		for site := range f.Open {
			if slices.Contains(set, site) && (by < 0 || row[site] < row[by]) {
				by = site
			}
		}
		served = append(served, by)
	}
	return served
}

// groupsModel gives for each site of a set the clients that it serves.
func groupsModel(served, set []int) [][]int {
	groups := [][]int{}
	for _, site := range set {
		group := []int{}
		for client, by := range served {
			if by == site {
				group = append(group, client)
			}
		}
		groups = append(groups, group)
	}
	return groups
}

// serviceModel gives the service and the reach of a set with at least one site.
func serviceModel(f impl.Field, set []int) (int, int) {
	service, reach := 0, 0
	for client, site := range servedModel(f, set) {
		length := f.Dist[client][site]
		service += length
		reach = max(reach, length)
	}
	return service, reach
}

func paymentModel(f impl.Field, set []int) int {
	payment := 0
	for _, site := range set {
		payment += f.Open[site]
	}
	return payment
}

func bestModel(f impl.Field) ([]int, int) {
	best, least := []int{}, -1
	for _, set := range setsModel(len(f.Open))[1:] {
		service, _ := serviceModel(f, set)
		if total := service + paymentModel(f, set); least < 0 || total < least {
			best, least = set, total
		}
	}
	return best, least
}

func metricModel(f impl.Field) bool {
	for i := range f.Dist {
		for j := range f.Dist {
			for a := range f.Open {
				for b := range f.Open {
					if f.Dist[i][a] > f.Dist[i][b]+f.Dist[j][b]+f.Dist[j][a] {
						return false
					}
				}
			}
		}
	}
	return true
}

// closeModel finds the least ways in the graph that has the clients and then
// the sites as its nodes, by one further node between after the other.
func closeModel(f impl.Field) impl.Field {
	clients, nodes := len(f.Dist), len(f.Dist)+len(f.Open)
	way := make([][]int, nodes)
	for x := range way {
		way[x] = slices.Repeat([]int{1 << 30}, nodes)
	}
	for i, row := range f.Dist {
		for a, length := range row {
			way[i][clients+a], way[clients+a][i] = length, length
		}
	}
	for between := range nodes {
		for x := range nodes {
			for y := range nodes {
				way[x][y] = min(way[x][y], way[x][between]+way[between][y])
			}
		}
	}
	closed := impl.Field{Open: slices.Clone(f.Open)}
	for i := range f.Dist {
		closed.Dist = append(closed.Dist, slices.Clone(way[i][clients:]))
	}
	return closed
}

// neededModel compares the whole columns of two sites: the opening cost and all lengths.
func neededModel(f impl.Field) []int {
	columns := make([][]int, len(f.Open))
	for site, cost := range f.Open {
		columns[site] = []int{cost}
		for _, row := range f.Dist {
			columns[site] = append(columns[site], row[site])
		}
	}
	needed := []int{}
	for a := range columns {
		replaced := false
		for b := range columns {
			greater := false
			for place := range columns[b] {
				greater = greater || columns[b][place] > columns[a][place]
			}
			if a != b && !greater && (b < a || !slices.Equal(columns[a], columns[b])) {
				replaced = true
			}
		}
		if !replaced {
			needed = append(needed, a)
		}
	}
	return needed
}

// numbers gives the same varied numbers at each run, without a random source.
type numbers struct{ state uint32 }

func (n *numbers) below(limit int) int {
	n.state = n.state*1664525 + 1013904223
	return int(n.state>>8) % limit
}

// fieldFrom makes a Field of this size with costs and lengths of at most these numbers.
func (n *numbers) fieldFrom(sites, clients, cost, length int) impl.Field {
	f := impl.Field{Open: []int{}, Dist: [][]int{}}
	for range sites {
		f.Open = append(f.Open, n.below(cost+1))
	}
	for range clients {
		row := []int{}
		for range sites {
			row = append(row, n.below(length+1))
		}
		f.Dist = append(f.Dist, row)
	}
	return f
}

// namedFields has the edges that the document names.
func namedFields() []impl.Field {
	list := []impl.Field{}
	for _, text := range []string{
		"0", "99", "5", "3 1", "1 3", "2 2", "0 0 0", "99 99 99 99 99 99 99", "6 5 4 3 2 1 0", "4 4 2 2 3 2 4",
		"0 / 0", "99 / 99", "7 / 0 / 99", "0 / 1 / 2 / 3 / 4 / 5 / 6", "3 1 / 0 4 / 5 1 / 2 2", "3 1 / 0 9 / 5 1 / 2 2",
		"0 0 / 0 0 / 0 0", "99 99 / 99 99 / 99 99", "2 2 / 1 0 / 0 1", "1 1 / 0 1 / 1 0", "0 0 / 3 3 / 3 3",
		"4 4 4 / 2 2 2 / 5 5 5", "4 5 4 / 2 2 2 / 5 5 5", "5 4 4 / 2 2 2 / 5 5 5", "4 4 / 2 2 / 5 4", "4 4 / 2 2 / 4 5",
		"1 2 3 / 3 2 1", "3 2 1 / 3 2 1", "3 2 1 / 1 2 3", "0 0 0 / 5 0 9 / 9 0 5 / 9 9 9", "10 0 / 0 50 / 0 50 / 50 0",
		"0 99 0 / 0 99 0 / 99 0 99", "0 0 0 0 / 0 1 99 99 / 99 1 1 99 / 99 99 1 1", "0 0 0 0 / 99 99 1 1 / 99 1 1 99 / 1 1 99 99",
		"0 0 0 0 0 0 0 / 1 1 99 99 99 99 99 / 99 1 1 99 99 99 99 / 99 99 1 1 99 99 99 / 99 99 99 1 1 99 99 / 99 99 99 99 1 1 99 / 99 99 99 99 99 1 1",
		"0 0 0 0 0 0 0 / 99 99 99 99 99 1 1 / 99 99 99 99 1 1 99 / 99 99 99 1 1 99 99 / 99 99 1 1 99 99 99 / 99 1 1 99 99 99 99 / 1 1 99 99 99 99 99",
		"1 2 3 4 5 6 7 / 7 6 5 4 3 2 1", "7 6 5 4 3 2 1 / 7 6 5 4 3 2 1",
	} {
		list = append(list, fieldOf(text))
	}
	for _, n := range []int{0, 1, 98, 99} {
		row := slices.Repeat([]int{n}, impl.MaxSites)
		f := impl.Field{Open: row}
		for range impl.MaxClients { // one list several times is an argument, too
			f.Dist = append(f.Dist, row)
		}
		list = append(list, f)
	}
	return list
}

// manyFields adds Fields of all sizes, with few different numbers and with many.
func manyFields(each int) []impl.Field {
	list := namedFields()
	n := &numbers{state: 2}
	for sites := 1; sites <= impl.MaxSites; sites++ {
		for clients := 0; clients <= impl.MaxClients; clients++ {
			for range each {
				list = append(list, n.fieldFrom(sites, clients, 1, 1), n.fieldFrom(sites, clients, 3, 2),
					n.fieldFrom(sites, clients, 12, 9), n.fieldFrom(sites, clients, 30, 99), n.fieldFrom(sites, clients, 99, 99))
			}
		}
	}
	return list
}

// smallFields gives all Fields of one or two sites and so many clients with these numbers.
func smallFields(sites, clients, most int) []impl.Field {
	list := []impl.Field{}
	count := 1
	for range sites * (clients + 1) {
		count *= most + 1
	}
	for code := range count {
		rows := make([][]int, clients+1)
		for r := range rows {
			for range sites {
				rows[r] = append(rows[r], code%(most+1))
				code /= most + 1
			}
		}
		list = append(list, impl.Field{Open: rows[0], Dist: rows[1:]})
	}
	return list
}
