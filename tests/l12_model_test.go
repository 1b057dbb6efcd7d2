package tests

import (
	"regexp"
	"slices"
	"strconv"
	"strings"

	"loop.example/g01110/impl"
)

// The functions here tell chapter 12 again, as near to the words of the document
// as can be and apart from the program.

// wordsOf writes a list as a reply of the Console does.
func wordsOf(list []int) string {
	words := []string{}
	for _, n := range list {
		words = append(words, strconv.Itoa(n))
	}
	if len(words) == 0 {
		return "none"
	}
	return strings.Join(words, " ")
}

// atlasText writes any Atlas, even one that is not valid.
func atlasText(x impl.Atlas) string {
	return textOf(x.Field) + " | " + wordsOf(x.Open) + " | " + strconv.Itoa(x.Count)
}

// atlasOf gives the Atlas that is written so.
func atlasOf(text string) impl.Atlas {
	parts := strings.Split(text, " | ")
	count, err := strconv.Atoi(parts[2])
	if err != nil {
		panic(err)
	}
	open := []int{}
	if parts[1] != "none" {
		open = rowsOf(parts[1])[0]
	}
	return impl.Atlas{Field: fieldOf(parts[0]), Open: open, Count: count}
}

func copyOfAtlas(x impl.Atlas) impl.Atlas {
	return impl.Atlas{Field: impl.Field{Open: slices.Clone(x.Field.Open), Dist: copyRows(x.Field.Dist)}, Open: slices.Clone(x.Open), Count: x.Count}
}

func editText(e impl.Edit) string {
	return "Edit " + wordsOf([]int{e.Kind, e.A, e.B, e.C}) + " " + listOf(e.List[:min(9, len(e.List))])
}

// unnamed tells whether those of A, B, C and the List that are not named are 0 or empty.
func unnamed(e impl.Edit, names string) bool {
	return (strings.Contains(names, "A") || e.A == 0) && (strings.Contains(names, "B") || e.B == 0) &&
		(strings.Contains(names, "C") || e.C == 0) && (strings.Contains(names, "List") || len(e.List) == 0)
}

func isIn(n, least, most int) bool { return n >= least && n <= most }

func areIn(list []int, least, most int) bool {
	for _, n := range list {
		if !isIn(n, least, most) {
			return false
		}
	}
	return true
}

// isPossibleModel tells whether an Edit of a valid Atlas is possible.
func isPossibleModel(x impl.Atlas, e impl.Edit) bool {
	sites, clients := len(x.Field.Open), len(x.Field.Dist)
	isOpen := func(site int) bool { return slices.Contains(x.Open, site) }
	isClosed := func(site int) bool { return isIn(site, 0, sites-1) && !isOpen(site) }
	if x.Count == 1000 {
		return false
	}
	switch e.Kind {
	case 1:
		return unnamed(e, "A") && isClosed(e.A)
	case 2:
		return unnamed(e, "A") && isOpen(e.A)
	case 3:
		return unnamed(e, "AB") && isOpen(e.A) && isClosed(e.B)
	case 4:
		return unnamed(e, "AB") && isIn(e.A, 0, sites-1) && isIn(e.B, 0, 99)
	case 5:
		return unnamed(e, "ABC") && isIn(e.A, 0, clients-1) && isIn(e.B, 0, sites-1) && isIn(e.C, 0, 99)
	case 6:
		return unnamed(e, "A List") && isIn(e.A, 0, 99) && len(e.List) == clients && areIn(e.List, 0, 99) && sites < 7
	case 7:
		return unnamed(e, "List") && len(e.List) == sites && areIn(e.List, 0, 99) && clients < 7
	case 8:
		return unnamed(e, "A") && isClosed(e.A) && sites > 1
	case 9:
		return unnamed(e, "A") && isIn(e.A, 0, clients-1)
	case 10:
		return unnamed(e, "") && len(x.Open) > 0
	case 11:
		return unnamed(e, "")
	}
	return false
}

// pillar is a site with all that belongs to it.
type pillar struct {
	cost    int
	lengths []int
	isOpen  bool
}

func pillarsOf(x impl.Atlas) []pillar {
	list := []pillar{}
	for site, cost := range x.Field.Open {
		p := pillar{cost: cost, isOpen: slices.Contains(x.Open, site)}
		for _, row := range x.Field.Dist {
			p.lengths = append(p.lengths, row[site])
		}
		list = append(list, p)
	}
	return list
}

func atlasOfPillars(list []pillar, count int) impl.Atlas {
	x := impl.Atlas{Count: count}
	x.Field.Dist = make([][]int, len(list[0].lengths))
	for site, p := range list {
		x.Field.Open = append(x.Field.Open, p.cost)
		for client, length := range p.lengths {
			x.Field.Dist[client] = append(x.Field.Dist[client], length)
		}
		if p.isOpen {
			x.Open = append(x.Open, site)
		}
	}
	return x
}

// editModel gives the Atlas behind an Edit, if it is possible.
func editModel(x impl.Atlas, e impl.Edit) (impl.Atlas, bool) {
	if !isPossibleModel(x, e) {
		return impl.Atlas{}, false
	}
	list, open := pillarsOf(x), x.Open
	switch e.Kind {
	case 1:
		list[e.A].isOpen = true
	case 2:
		list[e.A].isOpen = false
	case 3:
		list[e.A].isOpen, list[e.B].isOpen = false, true
	case 4:
		list[e.A].cost = e.B
	case 5:
		list[e.B].lengths[e.A] = e.C
	case 6:
		list = append(list, pillar{cost: e.A, lengths: e.List})
	case 7:
		for site := range list {
			list[site].lengths = append(list[site].lengths, e.List[site])
		}
	case 8:
		list = append(list[:e.A], list[e.A+1:]...)
	case 9:
		for site := range list {
			list[site].lengths = append(list[site].lengths[:e.A], list[site].lengths[e.A+1:]...)
		}
	case 10:
		open, _ = localModel(x.Field, x.Open)
	case 11:
		open, _ = bestModel(x.Field)
	}
	if e.Kind >= 10 {
		for site := range list {
			list[site].isOpen = slices.Contains(open, site)
		}
	}
	return atlasOfPillars(list, x.Count+1), true
}

func encodingModel(k int, e impl.LogRecord) string {
	return sealedOf(strconv.Itoa(k)+" "+e.Command+"@"+e.Reply) + "\n"
}

var (
	commandShape  = regexp.MustCompile(`^[ -"$-?A-~]{1,160}$`)
	replyShape    = regexp.MustCompile(`^[ -"$-~]{0,200}$`)
	encodingShape = regexp.MustCompile(`^([0-9]+ ([^@#\n]*)@([^#\n]*))#[0-9]+\n`)
)

func isRecordModel(e impl.LogRecord) bool {
	return commandShape.MatchString(e.Command) && replyShape.MatchString(e.Reply) && !strings.Contains(e.Command+e.Reply, "\n")
}

// recordsModel reads the records at the start of a text, and gives the places at
// which their encodings end.
func recordsModel(s string) ([]impl.LogRecord, []int) {
	records, ends := []impl.LogRecord{}, []int{0}
	for k := range 60 {
		rest := s[ends[k]:]
		found := encodingShape.FindStringSubmatch(rest)
		if found == nil {
			break
		}
		e := impl.LogRecord{Command: found[2], Reply: found[3]}
		if !isRecordModel(e) || found[0] != encodingModel(k, e) {
			break
		}
		records, ends = append(records, e), append(ends, ends[k]+len(found[0]))
	}
	return records, ends
}

func isLogModel(l impl.Log) bool {
	s := l.Durable + l.Pending
	records, ends := recordsModel(s)
	return len(s) <= 30000 && ends[len(ends)-1] == len(s) && slices.Contains(ends, len(l.Durable)) && l.Count == len(records)
}

func logText(l impl.Log) string {
	return strconv.Quote(l.Durable) + " " + strconv.Quote(l.Pending) + " " + strconv.Itoa(l.Count)
}

// logOf gives the log with these pairs of commands and replies, the first ones
// of which are durable.
func logOf(durable int, pairs ...string) impl.Log {
	l := impl.Log{}
	for at := 0; at+1 < len(pairs); at += 2 {
		line := encodingModel(l.Count, impl.LogRecord{Command: pairs[at], Reply: pairs[at+1]})
		if l.Count < durable {
			l.Durable += line
		} else {
			l.Pending += line
		}
		l.Count++
	}
	return l
}

// recordOf is one of many records that differ, as long as they may be.
func recordOf(k int) impl.LogRecord {
	word := strconv.Itoa(k)
	return impl.LogRecord{Command: word + strings.Repeat("c", 160-len(word)), Reply: word + strings.Repeat("r", 200-len(word))}
}

// longLog has so many of these records, and the first ones are durable.
func longLog(durable, count int) impl.Log {
	pairs := []string{}
	for k := range count {
		pairs = append(pairs, recordOf(k).Command, recordOf(k).Reply)
	}
	return logOf(durable, pairs...)
}

const numberShape = `(?:0|-?[1-9][0-9]{0,5})`

// commandShapes has the arguments of all commands: N is a number, L a list.
func commandShapes() map[string]string {
	return map[string]string{
		"open": "N", "close": "N", "swap": "NN", "cost": "NN", "length": "NNN", "site": "NL", "client": "L", "dropsite": "N", "dropclient": "N",
		"improve": "", "best": "", "total": "", "gap": "", "service": "", "reach": "", "served": "", "metric": "", "field": "",
		"prices": "", "growth": "", "local": "", "median": "N", "centres": "N", "far": "N", "unbeaten": "",
	}
}

// isCommandModel tells whether the words of a command are as the document lists them.
func isCommandModel(line string) bool {
	shape, known := commandShapes()[strings.Split(line, " ")[0]]
	pattern := strings.NewReplacer("N", " "+numberShape, "L", "(?: "+numberShape+")*").Replace(shape)
	return known && regexp.MustCompile("^[a-z]+"+pattern+"$").MatchString(line)
}

// replyModel gives the Atlas behind a command and the reply, "?" if there is none.
func replyModel(x impl.Atlas, line string) (impl.Atlas, string) {
	if !isCommandModel(line) {
		return x, "?"
	}
	words := strings.Split(line, " ")
	numbers := []int{}
	for _, word := range words[1:] {
		n, _ := strconv.Atoi(word)
		numbers = append(numbers, n)
	}
	if e, isEdit := commandEditModel(words[0], numbers); isEdit {
		behind, ok := editModel(x, e)
		if !ok {
			return x, "?"
		}
		return behind, editReplyModel(behind, words[0], numbers)
	}
	return x, answerModel(x, words[0], append(numbers, 0)[0])
}

func commandEditModel(command string, numbers []int) (impl.Edit, bool) {
	kind := slices.Index([]string{"", "open", "close", "swap", "cost", "length", "site", "client", "dropsite", "dropclient", "improve", "best"}, command)
	e := impl.Edit{Kind: kind}
	switch command {
	case "client":
		e.List = numbers
	case "site":
		e.A, e.List = numbers[0], numbers[1:]
	default:
		all := append(slices.Clone(numbers), 0, 0, 0)
		e.A, e.B, e.C = all[0], all[1], all[2]
	}
	return e, kind > 0
}

func editReplyModel(behind impl.Atlas, command string, numbers []int) string {
	switch command {
	case "cost", "length":
		return strconv.Itoa(numbers[len(numbers)-1])
	case "site", "dropsite":
		return strconv.Itoa(len(behind.Field.Open))
	case "client", "dropclient":
		return strconv.Itoa(len(behind.Field.Dist))
	}
	return wordsOf(behind.Open)
}

func answerModel(x impl.Atlas, command string, n int) string {
	f, sites := x.Field, len(x.Field.Open)
	switch command {
	case "metric":
		return reportModel(metricModel(f))
	case "field":
		return textOf(f)
	case "prices":
		return wordsOf(ascentModel(f))
	case "growth":
		if len(f.Dist) == 0 {
			return wordsOf(cheapestModel(f))
		}
		return wordsOf(growthModel(f).set())
	case "unbeaten":
		return wordsOf(unbeatenModel(f))
	case "far":
		if n >= 0 {
			return wordsOf(largestFarModel(f, n))
		}
		return "?"
	}
	if command == "median" && isIn(n, 1, sites) {
		set, _ := medianModel(f, n)
		return wordsOf(set)
	}
	if command == "centres" && isIn(n, 1, sites) {
		set, _ := centresModel(f, n)
		return wordsOf(set)
	}
	if command != "median" && command != "centres" && len(x.Open) > 0 {
		return openAnswerModel(x, command)
	}
	return "?"
}

func openAnswerModel(x impl.Atlas, command string) string {
	total, local := totalModel(x.Field, x.Open), true
	for _, set := range movesModel(x.Field, x.Open) {
		local = local && totalModel(x.Field, set) >= total
	}
	service, reach := serviceModel(x.Field, x.Open)
	switch command {
	case "total":
		return strconv.Itoa(total)
	case "gap":
		return strconv.Itoa(gapOfModel(x))
	case "service":
		return strconv.Itoa(service)
	case "reach":
		return strconv.Itoa(reach)
	case "served":
		return wordsOf(servedModel(x.Field, x.Open))
	}
	return reportModel(local)
}

func gapOfModel(x impl.Atlas) int {
	return totalModel(x.Field, x.Open) - sumModel(ascentModel(x.Field))
}

func reportModel(report bool) string {
	if report {
		return "yes"
	}
	return "no"
}

func isAtlasModel(x impl.Atlas) bool {
	sites := len(x.Field.Open)
	fine := isIn(sites, 1, 7) && len(x.Field.Dist) <= 7 && areIn(x.Field.Open, 0, 99) && isIn(x.Count, 0, 1000) && areIn(x.Open, 0, sites-1)
	for _, row := range x.Field.Dist {
		fine = fine && len(row) == sites && areIn(row, 0, 99)
	}
	for place := 1; place < len(x.Open); place++ {
		fine = fine && x.Open[place-1] < x.Open[place]
	}
	return fine
}

// executeModel gives the Console behind a command line, and the reply.
func executeModel(c impl.Console, line string) (impl.Console, string) {
	switch {
	case !isAtlasModel(c.Atlas) || !isLogModel(c.Log):
		return c, "no"
	case !isRecordModel(impl.LogRecord{Command: line}):
		return c, "bad"
	case c.Log.Count == 60:
		return c, "full"
	}
	behind, reply := replyModel(c.Atlas, line)
	c.Atlas = behind
	c.Log.Pending += encodingModel(c.Log.Count, impl.LogRecord{Command: line, Reply: reply})
	c.Log.Count++
	return c, reply
}

// The samples.

// namedAtlases has the edges that the document names.
func namedAtlases() []impl.Atlas {
	list := []impl.Atlas{}
	for _, text := range []string{
		"0 | none | 0", "0 | 0 | 0", "99 | none | 1000", "5 | 0 | 999", "7 / 0 | 0 | 3", "7 / 99 | none | 3", "3 1 | none | 0", "3 1 | 1 | 0", "3 1 | 0 1 | 1000",
		"4 3 / 1 5 / 6 2 | none | 0", "4 3 / 1 5 / 6 2 | 0 | 998", "4 3 / 1 5 / 6 2 | 1 | 999", "4 3 / 1 5 / 6 2 | 0 1 | 1000",
		"0 0 0 / 5 5 5 | 0 2 | 0", "5 6 7 / 1 9 9 / 9 2 9 / 9 9 3 | 0 1 2 | 7", "1 2 3 / 9 9 9 | 1 | 7", "99 99 / 99 99 / 99 99 | 0 | 1",
		"1 2 3 4 5 6 7 / 7 6 5 4 3 2 1 | 0 3 6 | 2", "1 2 3 4 5 6 7 | 1 2 3 4 5 6 | 2", "1 / 0 / 1 / 2 / 3 / 4 / 5 / 6 | 0 | 500",
		"99 99 99 99 99 99 99 / 99 99 99 99 99 99 99 / 99 99 99 99 99 99 99 | 0 1 2 3 4 5 6 | 0",
	} {
		list = append(list, atlasOf(text))
	}
	return list
}

// atlasFrom makes an Atlas of this size with costs and lengths of at most a number.
func (n *numbers) atlasFrom(sites, clients, most int) impl.Atlas {
	return impl.Atlas{Field: n.fieldFrom(sites, clients, most, most), Open: n.setFrom(sites), Count: n.below(1001)}
}

// atlasesOfAllSizes gives Atlases of all sizes, with few different numbers and with many.
func atlasesOfAllSizes(state uint32) []impl.Atlas {
	list, n := []impl.Atlas{}, &numbers{state: state}
	for sites := 1; sites <= 7; sites++ {
		for clients := range 8 {
			for _, most := range []int{2, 20, 99} {
				list = append(list, n.atlasFrom(sites, clients, most))
			}
		}
	}
	return list
}

// editFrom makes an Edit of an Atlas, which is possible often, but not always.
func (n *numbers) editFrom(x impl.Atlas) impl.Edit {
	sites, clients := len(x.Field.Open), len(x.Field.Dist)
	e := impl.Edit{Kind: 1 + n.below(11)}
	site := func() int { return n.below(sites+1) - n.below(12)/11 }
	number := func() int { return n.below(102) - n.below(30)/29 }
	switch e.Kind {
	case impl.EditOpen, impl.EditClose, impl.EditDropSite:
		e.A = site()
	case impl.EditSwap:
		e.A, e.B = site(), site()
	case impl.EditCost:
		e.A, e.B = site(), number()
	case impl.EditLength:
		e.A, e.B, e.C = n.below(clients+1), site(), number()
	case impl.EditSite:
		e.A, e.List = number(), n.listFrom(clients, 99)
	case impl.EditClient:
		e.List = n.listFrom(sites, 99)
	case impl.EditDropClient:
		e.A = n.below(clients + 1)
	}
	if n.below(25) == 0 {
		e.B++
	}
	if n.below(25) == 0 {
		e.List = append(e.List, 0)
	}
	return e
}

// lineFrom makes a command for an Atlas, mostly one that is fine.
func (n *numbers) lineFrom(x impl.Atlas) string {
	commands := []string{"open", "close", "swap", "cost", "length", "site", "client", "dropsite", "dropclient", "improve", "best",
		"total", "gap", "service", "reach", "served", "metric", "field", "prices", "growth", "local", "median", "centres", "far", "unbeaten"}
	line := commands[n.below(len(commands))]
	sites, clients := len(x.Field.Open), len(x.Field.Dist)
	for _, part := range commandShapes()[line] {
		switch {
		case part == 'N' && (line == "site" || line == "far"):
			line += " " + strconv.Itoa(n.below(100))
		case part == 'N' && strings.HasPrefix(line, "cost "), part == 'N' && strings.HasPrefix(line, "length ") && strings.Count(line, " ") == 2:
			line += " " + strconv.Itoa(n.below(102))
		case part == 'N':
			line += " " + strconv.Itoa(n.below(sites+1))
		case part == 'L':
			count := sites
			if strings.HasPrefix(line, "site") {
				count = clients
			}
			for _, length := range n.listFrom(count, 99) {
				line += " " + strconv.Itoa(length)
			}
		}
	}
	switch n.below(20) {
	case 0:
		return line + " 0"
	case 1:
		return line + " "
	case 2:
		return line[:max(1, strings.LastIndex(line, " "))]
	}
	return line
}
