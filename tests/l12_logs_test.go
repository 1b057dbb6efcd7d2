package tests

import (
	"math"
	"slices"
	"strconv"
	"strings"
	"testing"

	"loop.example/g01110/impl"
)

func checkRecord(t *testing.T, command, reply string, want bool) {
	t.Helper()
	e := impl.LogRecord{Command: command, Reply: reply}
	if got := impl.IsValidRecord(e); got != want {
		t.Errorf("IsValidRecord of %.40q, %.40q = %v", command, reply, got)
	}
	for _, k := range []int{-1, 0, 1, 9, 10, 59, 60, 61, math.MinInt, math.MaxInt, 1 << 32} {
		line := ""
		if want && k >= 0 && k < 60 {
			line = encodingModel(k, e)
		}
		if got, ok := impl.EncodeRecord(k, e); ok != (line != "") || got != line {
			t.Errorf("EncodeRecord of %d and %.40q, %.40q = %q, %v", k, command, reply, got, ok)
		}
	}
}

// The checksums here were computed apart from the program and from the model.
func TestP12EncodingsByHand(t *testing.T) {
	for _, c := range []struct {
		k                    int
		command, reply, want string
	}{
		{0, "total", "?", "0 total@?#401684\n"}, {0, "open 0", "0", "0 open 0@0#445584\n"}, {1, "gap", "1", "1 gap@1#913702\n"},
		{59, "field", "4 3 / 1 5 / 6 2", "59 field@4 3 / 1 5 / 6 2#96790\n"}, {7, "a", "", "7 a@#699942\n"}, {0, "x", "@", "0 x@@#956191\n"},
		{10, "best", "none", "10 best@none#992358\n"}, {0, " ", " ", "0  @ #808231\n"}, {3, "~", "~@ @ ~", "3 ~@~@ @ ~#291576\n"},
	} {
		e := impl.LogRecord{Command: c.command, Reply: c.reply}
		if got, ok := impl.EncodeRecord(c.k, e); !ok || got != c.want || encodingModel(c.k, e) != c.want {
			t.Errorf("EncodeRecord of %d and %q, %q = %q, %v", c.k, c.command, c.reply, got, ok)
		}
		sealed, _ := strings.CutSuffix(c.want, "\n")
		if text, ok := impl.VerifyChecksum(sealed); !ok || text != strconv.Itoa(c.k)+" "+c.command+"@"+c.reply {
			t.Errorf("VerifyChecksum of %q = %q, %v", sealed, text, ok)
		}
	}
}

func TestP12RecordsOfAllSizes(t *testing.T) {
	for _, command := range []int{0, 1, 2, 159, 160, 161, 162, 200, 4000, 100000} {
		for _, reply := range []int{0, 1, 199, 200, 201, 202, 4000, 100000} {
			want := command >= 1 && command <= 160 && reply <= 200
			checkRecord(t, strings.Repeat("c", command), strings.Repeat("r", reply), want)
			checkRecord(t, strings.Repeat(" ", command), strings.Repeat("~", reply), want)
		}
	}
}

func TestP12RecordsWithAllBytes(t *testing.T) {
	for n := range 256 {
		b := string([]byte{byte(n)})
		plain := n >= 32 && n <= 126 && b != "#"
		for _, text := range []string{b, b + "bc", "a" + b + "c", "ab" + b, strings.Repeat(b, 160)} {
			checkRecord(t, text, "", plain && b != "@")
			checkRecord(t, text, "reply", plain && b != "@")
			checkRecord(t, "command", text, plain)
			checkRecord(t, text, text, plain && b != "@")
		}
	}
	for _, text := range []string{"\u00e9", "a\u00e9b", "\u20ac", "\U0001f600", "a\xffb", "a\x00", "a\n", "\r\n"} {
		checkRecord(t, text, "", false)
		checkRecord(t, "a", text, false)
	}
}

func checkLog(t *testing.T, name string, l impl.Log, want bool) {
	t.Helper()
	if isLogModel(l) != want {
		t.Errorf("%s: the model takes this log to be valid: %v", name, !want)
	}
	records, ok := impl.LogRecords(l)
	if got := impl.IsValidLog(l); got != want || ok != want {
		t.Errorf("%s: IsValidLog = %v, LogRecords %v", name, got, ok)
	}
	asked := []impl.LogRecord{}
	if want {
		asked, _ = recordsModel(l.Durable + l.Pending)
	}
	if !slices.Equal(records, asked) {
		t.Errorf("%s: LogRecords = %q; want %q", name, records, asked)
	}
	if fine := impl.IsValidConsole(impl.Console{Atlas: atlasOf("0 | none | 0"), Log: l}); fine != want {
		t.Errorf("%s: IsValidConsole = %v", name, fine)
	}
}

const (
	lineA = "0 total@?#401684\n"
	lineB = "1 gap@1#913702\n"
)

func TestP12LogsByHand(t *testing.T) {
	for name, l := range map[string]impl.Log{
		"no record": {}, "one": {Pending: lineA, Count: 1}, "one durable": {Durable: lineA, Count: 1},
		"two": {Pending: lineA + lineB, Count: 2}, "half": {Durable: lineA, Pending: lineB, Count: 2}, "durable": {Durable: lineA + lineB, Count: 2},
		"the most": longLog(0, 60), "the most, half": longLog(30, 60), "the most, durable": longLog(60, 60), "all but one": longLog(0, 59), "short ones": logOf(59, slices.Repeat([]string{"a", ""}, 60)...),
		"like others": logOf(1, "0 total", "0 total", "1 gap", "@1 gap@", " ", "@", "1", "0 total@?"), "a space in front": {Pending: sealedOf("0  total@?") + "\n", Count: 1},
	} {
		checkLog(t, name, l, true)
	}
	for name, l := range map[string]impl.Log{
		"counts none": {Pending: lineA}, "counts two": {Pending: lineA, Count: 2}, "counts one less": {Durable: lineA, Pending: lineB, Count: 1}, "counts one more": {Durable: lineA, Pending: lineB, Count: 3},
		"counts one of none": {Count: 1}, "counts -1": {Count: -1}, "counts least": {Count: math.MinInt}, "counts most": {Pending: lineA, Count: math.MaxInt}, "wraps": {Pending: lineA, Count: 1<<32 + 1},
		"left out": {Pending: lineB, Count: 1}, "counts the left out": {Pending: lineB, Count: 2}, "twice": {Pending: lineA + lineA, Count: 2}, "turned": {Pending: lineB + lineA, Count: 2}, "second twice": {Pending: lineA + lineB + lineB, Count: 3},
		"one of three is left out": {Pending: lineA + encodingModel(2, recordOf(2)), Count: 2}, "no newline": {Pending: lineA[:len(lineA)-1], Count: 1}, "second without newline": {Pending: lineA + lineB[:len(lineB)-1], Count: 2},
		"ends inside": {Durable: lineA[:5], Pending: lineA[5:], Count: 1}, "ends before the newline": {Durable: lineA[:len(lineA)-1], Pending: "\n", Count: 1}, "ends inside the second": {Durable: lineA + lineB[:1], Pending: lineB[1:], Count: 2},
		"an empty line": {Pending: "\n" + lineA, Count: 1}, "an empty line behind": {Pending: lineA + "\n", Count: 1}, "durable and an empty line": {Durable: lineA, Pending: "\n", Count: 1}, "more behind": {Pending: lineA + "1", Count: 1}, "a space": {Pending: " " + lineA, Count: 1},
		"durable rest": {Durable: lineA + "1", Count: 1}, "two texts": {Durable: lineA, Pending: lineA, Count: 1}, "durable twice": {Durable: lineA, Pending: lineA, Count: 2},
		"one record more": longLog(0, 61), "one durable record more": longLog(61, 61), "one more pending": longLog(60, 61), "counts the most": {Pending: longLog(0, 61).Pending, Count: 60},
		"00": {Pending: sealedOf("00 total@?") + "\n", Count: 1}, "+0": {Pending: sealedOf("+0 total@?") + "\n", Count: 1}, "-0": {Pending: sealedOf("-0 total@?") + "\n", Count: 1},
		"no space": {Pending: sealedOf("0total@?") + "\n", Count: 1}, "no mark": {Pending: sealedOf("0 total") + "\n", Count: 1}, "no command": {Pending: sealedOf("0 @?") + "\n", Count: 1}, "a number alone": {Pending: sealedOf("0") + "\n", Count: 1},
		"wrong sum": {Pending: "0 total@?#401685\n", Count: 1}, "zero before the sum": {Pending: "0 total@?#0401684\n", Count: 1}, "two sums": {Pending: sealedOf("0 total@?#401684") + "\n", Count: 1}, "no sum": {Pending: "0 total@?\n", Count: 1},
		"31": {Pending: sealedOf("0 to\x1ftal@?") + "\n", Count: 1}, "127": {Pending: sealedOf("0 total@\x7f") + "\n", Count: 1}, "carriage return": {Pending: "0 total@?#401684\r\n", Count: 1},
		"161 bytes": {Pending: sealedOf("0 "+strings.Repeat("c", 161)+"@") + "\n", Count: 1}, "201 bytes": {Pending: sealedOf("0 c@"+strings.Repeat("r", 201)) + "\n", Count: 1},
	} {
		checkLog(t, name, l, false)
	}
}

// A log with the longest records has less than 30000 bytes; so a text with more
// of them is no log, and neither is one with just as many.
func TestP12LogsOfManyBytes(t *testing.T) {
	full := longLog(60, 60)
	if size := len(full.Durable); !isIn(size, 60*366, 60*372) { // a checksum has up to six digits
		t.Errorf("the log with the longest records has %d bytes", size)
	}
	for _, size := range []int{29999, 30000, 30001, 100000} {
		checkLog(t, strconv.Itoa(size), impl.Log{Durable: full.Durable, Pending: strings.Repeat("a", size-len(full.Durable)), Count: 60}, false)
		checkLog(t, strconv.Itoa(size), impl.Log{Pending: strings.Repeat("\n", size)}, false)
		checkLog(t, strconv.Itoa(size), impl.Log{Durable: strings.Repeat("a", size)}, false)
		checkLog(t, strconv.Itoa(size), impl.Log{Durable: lineA, Pending: strings.Repeat(lineA, size/len(lineA)), Count: 1 + size/len(lineA)}, false)
	}
}

// severalLogs gives logs of several sizes, with records that a log may confuse.
func severalLogs() []impl.Log {
	list := []impl.Log{
		{}, logOf(0, "a", ""), logOf(1, "a", ""), logOf(0, "total", "?", "gap", "1"), logOf(1, "total", "?", "gap", "1"), logOf(2, "total", "?", "gap", "1"),
		logOf(1, "0 total", "0 total", "1 gap", "@1 gap@", " ", "@", "1", "0 total@?"), logOf(2, "open 0", "0", "open 0", "?", "close 0", "none", "open 0", "0"),
		longLog(1, 3), longLog(30, 60), longLog(59, 60), longLog(0, 60), longLog(60, 60), logOf(7, slices.Repeat([]string{"a", "b"}, 13)...),
	}
	n := &numbers{state: 198}
	for _, bytes := range []string{"ab ", "0123456789 ", " @?", "!\"$%&'()*+,-./:;<=>?[]^_`{|}~"} {
		words := texts(40, strings.ReplaceAll(bytes, "@", ""), 9)
		replies := texts(40, bytes+"@", 12)
		pairs := []string{}
		for range 6 {
			pairs = append(pairs, "c"+words[n.below(40)], replies[n.below(40)])
		}
		list = append(list, logOf(n.below(7), pairs...))
	}
	return list
}

// placesAround gives the places in a text, but in a long one only those around the ends of its encodings.
func placesAround(text string, ends []int) []int {
	places := []int{}
	for place := range len(text) + 1 {
		isNear := func(end int) bool { return isIn(place, end-2, end+3) }
		if len(text) <= 600 || slices.ContainsFunc(ends, isNear) {
			places = append(places, place)
		}
	}
	return places
}

// The durable part of a log may end behind each record, and nowhere else.
func TestP12LogsWithAllDurableParts(t *testing.T) {
	seen := map[string]bool{}
	for _, l := range severalLogs() {
		text := l.Durable + l.Pending
		if seen[text] {
			continue
		}
		seen[text] = true
		records, ends := recordsModel(text)
		for _, end := range placesAround(text, ends) {
			checkLog(t, "durable to "+strconv.Itoa(end), impl.Log{Durable: text[:end], Pending: text[end:], Count: l.Count}, slices.Contains(ends, end))
		}
		for _, end := range ends {
			if got, ok := impl.LogRecords(impl.Log{Durable: text[:end], Pending: text[end:], Count: l.Count}); !ok || !slices.Equal(got, records) {
				t.Errorf("LogRecords of %q, durable to %d = %q, %v", text, end, got, ok)
			}
		}
	}
}

// One changed byte makes a log no log; what is before its line can be recovered.
func TestP12LogsWithAChangedByte(t *testing.T) {
	for _, l := range []impl.Log{logOf(0, "a", ""), logOf(1, "total", "?", "gap", "1"), logOf(2, "0 total", "0 total", "1 gap", "@1 gap@", " ", "@")} {
		text := l.Durable + l.Pending
		_, ends := recordsModel(text)
		for place := range len(text) {
			before := 0
			for ends[before+1] <= place {
				before++
			}
			for step := 1; step < 256; step++ {
				b := []byte(text)
				b[place] += byte(step)
				changed := impl.Log{Durable: string(b[:len(l.Durable)]), Pending: string(b[len(l.Durable):]), Count: l.Count}
				if impl.IsValidLog(changed) {
					t.Errorf("IsValidLog of %s is true", logText(changed))
				}
				checkRecovered(t, string(b), text[:ends[before]], before)
			}
		}
	}
}

func checkAppend(t *testing.T, l impl.Log, e impl.LogRecord, code int) {
	t.Helper()
	want := l
	if code == impl.LogOK {
		want.Pending += encodingModel(l.Count, e)
		want.Count++
	}
	if got, gotCode := impl.AppendRecord(l, e); gotCode != code || got != want {
		t.Errorf("AppendRecord of %.40q, %.40q to a log of %d = %s, %d; want %d", e.Command, e.Reply, l.Count, logText(got), gotCode, code)
	}
}

func TestP12AppendedRecords(t *testing.T) {
	checkAppend(t, impl.Log{}, impl.LogRecord{Command: "total", Reply: "?"}, impl.LogOK)
	for _, l := range severalLogs() {
		code := impl.LogOK
		if l.Count == 60 {
			code = impl.LogFull
		}
		for _, e := range []impl.LogRecord{{Command: "a"}, {Command: "total", Reply: "?"}, recordOf(9), {Command: " ", Reply: "@"}} {
			checkAppend(t, l, e, code)
		}
		for _, e := range []impl.LogRecord{{}, {Reply: "a"}, {Command: "a@"}, {Command: "a#"}, {Command: "a", Reply: "#"}, {Command: strings.Repeat("a", 161)}, {Command: "a", Reply: strings.Repeat("a", 201)}, {Command: "a\n"}, {Command: "a", Reply: "\x7f"}} {
			checkAppend(t, l, e, impl.LogInvalid)
		}
		for _, bad := range []impl.Log{{Durable: l.Durable + "a", Pending: l.Pending, Count: l.Count}, {Durable: l.Durable, Pending: l.Pending + "\n", Count: l.Count}, {Durable: l.Durable, Pending: l.Pending, Count: l.Count + 1}, {Durable: l.Durable, Pending: l.Pending, Count: -1}} {
			checkAppend(t, bad, impl.LogRecord{Command: "a"}, impl.LogInvalid)
			checkAppend(t, bad, impl.LogRecord{}, impl.LogInvalid)
		}
	}
	checkAppend(t, longLog(0, 61), impl.LogRecord{Command: "a"}, impl.LogInvalid)
}

// From the empty log on, there is room for just MaxRecords records.
func TestP12LogsAreFilled(t *testing.T) {
	l := impl.Log{}
	for k := range 60 {
		checkAppend(t, l, recordOf(k), impl.LogOK)
		l, _ = impl.AppendRecord(l, recordOf(k))
		if k%7 == 3 {
			l, _ = impl.SyncLog(l)
		}
		checkLog(t, "with "+strconv.Itoa(k), l, true)
	}
	checkAppend(t, l, recordOf(60), impl.LogFull)
	checkAppend(t, l, impl.LogRecord{Command: "a"}, impl.LogFull)
	records, ok := impl.LogRecords(l)
	for k, e := range records {
		if e != recordOf(k) {
			t.Errorf("the record %d is %q", k, e)
		}
	}
	if !ok || len(records) != 60 {
		t.Errorf("LogRecords gives %d records, %v", len(records), ok)
	}
}

func TestP12SyncedLogs(t *testing.T) {
	for _, l := range severalLogs() {
		want := impl.Log{Durable: l.Durable + l.Pending, Count: l.Count}
		got, ok := impl.SyncLog(l)
		again, fine := impl.SyncLog(got)
		if !ok || !fine || got != want || again != want {
			t.Errorf("SyncLog of %s = %s, %v, and then %s, %v", logText(l), logText(got), ok, logText(again), fine)
		}
		for _, bad := range []impl.Log{{Durable: l.Durable, Pending: l.Pending + "a", Count: l.Count}, {Durable: l.Durable, Pending: l.Pending, Count: l.Count + 1}} {
			if got, ok := impl.SyncLog(bad); ok || got != (impl.Log{}) {
				t.Errorf("SyncLog of %s = %s, %v", logText(bad), logText(got), ok)
			}
		}
	}
}

func checkCrash(t *testing.T, l impl.Log, keep int, torn bool, want string, fine bool) {
	t.Helper()
	if got, ok := impl.CrashLog(l, keep, torn); got != want || ok != fine {
		t.Errorf("CrashLog of %s for %d, %v = %q, %v; want %q", logText(l), keep, torn, got, ok, want)
	}
}

func checkRecovered(t *testing.T, s, durable string, count int) {
	t.Helper()
	l, size, ok := impl.RecoverLog(s)
	if !ok || size != len(durable) || l != (impl.Log{Durable: durable, Count: count}) {
		t.Errorf("RecoverLog of %q = %s, %d, %v; want %q", s, logText(l), size, ok, durable)
	}
	if !impl.IsValidLog(l) {
		t.Errorf("RecoverLog of %q = %s, which is not valid", s, logText(l))
	}
}

func TestP12CrashesByHand(t *testing.T) {
	l := impl.Log{Durable: lineA, Pending: lineB, Count: 2}
	size := len(lineB)
	checkCrash(t, l, 0, false, lineA, true)
	checkCrash(t, l, 0, true, lineA, true)
	checkCrash(t, l, 1, false, lineA+"1", true)
	checkCrash(t, l, 1, true, lineA+"\xce", true)
	checkCrash(t, l, size, false, lineA+lineB, true)
	checkCrash(t, l, size, true, lineA+lineB[:size-1]+"\xf5", true)
	checkCrash(t, l, size-1, true, lineA+lineB[:size-2]+"\xcd", true)
	for _, keep := range []int{-1, size + 1, len(lineA) + size, math.MinInt, math.MaxInt, -1 << 32, 1 << 32, 1<<32 + 1} {
		checkCrash(t, l, keep, false, "", false)
		checkCrash(t, l, keep, true, "", false)
	}
	for _, torn := range []bool{false, true} {
		checkCrash(t, impl.Log{}, 0, torn, "", true)
		checkCrash(t, impl.Log{}, 1, torn, "", false)
		checkCrash(t, impl.Log{Durable: lineA, Count: 1}, 0, torn, lineA, true)
		checkCrash(t, impl.Log{Durable: lineA, Count: 1}, 1, torn, "", false)
		checkCrash(t, impl.Log{Durable: lineA, Count: 1}, -1, torn, "", false)
		checkCrash(t, impl.Log{Durable: lineA, Count: 2}, 0, torn, "", false)
		checkCrash(t, impl.Log{Durable: lineA, Pending: lineA, Count: 2}, 0, torn, "", false)
		checkCrash(t, impl.Log{Pending: "a"}, 0, torn, "", false)
		checkCrash(t, impl.Log{Pending: "a"}, 1, torn, "", false)
	}
}

// Whatever a crash leaves, all records that it leaves whole are recovered.
func TestP12LogsAreRecoveredBehindCrashes(t *testing.T) {
	for _, l := range severalLogs() {
		text := l.Durable + l.Pending
		_, ends := recordsModel(text)
		for _, place := range placesAround(text, ends) {
			keep := place - len(l.Durable)
			if keep < 0 {
				continue
			}
			left := text[:place]
			count := 0
			for count < l.Count && ends[count+1] <= len(left) {
				count++
			}
			checkCrash(t, l, keep, false, left, true)
			checkRecovered(t, left, text[:ends[count]], count)
			if keep == 0 {
				checkCrash(t, l, keep, true, left, true)
				continue
			}
			torn := left[:len(left)-1] + string([]byte{255 - left[len(left)-1]})
			if ends[count] == len(left) { // the last byte of the last line is torn
				count--
			}
			checkCrash(t, l, keep, true, torn, true)
			checkRecovered(t, torn, text[:ends[count]], count)
		}
	}
}

func TestP12RecoveryByHand(t *testing.T) {
	third := encodingModel(2, impl.LogRecord{Command: "best", Reply: "0"})
	for _, c := range []struct {
		s, durable string
		count      int
	}{
		{"", "", 0}, {"\n", "", 0}, {"a", "", 0}, {"a\n", "", 0}, {"\n" + lineA, "", 0}, {lineA, lineA, 1}, {lineA + lineB, lineA + lineB, 2}, {lineA + lineB + third, lineA + lineB + third, 3},
		{lineA[:len(lineA)-1], "", 0}, {lineA[:len(lineA)-1] + lineB, "", 0}, {lineA + lineB[:len(lineB)-1], lineA, 1}, {lineA + lineB[:3], lineA, 1}, {lineA + "\n" + lineB, lineA, 1}, {lineA + "\n", lineA, 1},
		{lineB, "", 0}, {lineB + lineA, "", 0}, {lineA + lineA, lineA, 1}, {lineA + lineA + lineB, lineA, 1}, {lineA + third + lineB, lineA, 1}, {lineA + "1 gap@1#913703\n" + third, lineA, 1}, {lineA + lineB + lineB + third, lineA + lineB, 2},
		{" " + lineA, "", 0}, {lineA + " " + lineB, lineA, 1}, {lineA + lineB + "a\n" + third, lineA + lineB, 2}, {lineA + lineB + "2 best", lineA + lineB, 2}, {sealedOf("00 total@?") + "\n", "", 0}, {sealedOf("0 to\x1ftal@?") + "\n", "", 0},
		{sealedOf("0 "+strings.Repeat("c", 161)+"@") + "\n", "", 0}, {sealedOf("0 c@"+strings.Repeat("r", 201)) + "\n", "", 0}, {sealedOf("0 c@"+strings.Repeat("r", 200)) + "\n", sealedOf("0 c@"+strings.Repeat("r", 200)) + "\n", 1},
		{"0 total@?#401684\r\n", "", 0}, {lineA + "\x00", lineA, 1}, {sealedOf("0 @?") + "\n", "", 0}, {sealedOf("0 total") + "\n", "", 0},
	} {
		checkRecovered(t, c.s, c.durable, c.count)
	}
}

func TestP12RecoveryOfManyRecordsAndBytes(t *testing.T) {
	full := longLog(60, 60).Durable
	checkRecovered(t, full, full, 60)
	checkRecovered(t, longLog(61, 61).Durable, full, 60)
	checkRecovered(t, longLog(70, 70).Durable, full, 60)
	for _, rest := range []string{"a", "\n", lineA} {
		many := strings.Repeat(rest, 30000)
		checkRecovered(t, full+many[:29999-len(full)], full, 60)
		checkRecovered(t, full+many[:30000-len(full)], full, 60)
		for _, size := range []int{30001, 30002, 30000} {
			if l, at, ok := impl.RecoverLog((full + many)[:size]); ok != (size == 30000) || !ok && (at != 0 || l != (impl.Log{})) {
				t.Errorf("RecoverLog of %d bytes = %s, %d, %v", size, logText(l), at, ok)
			}
		}
		if l, at, ok := impl.RecoverLog(lineA + many); ok || at != 0 || l != (impl.Log{}) {
			t.Errorf("RecoverLog of %d bytes = %s, %d, %v", len(lineA+many), logText(l), at, ok)
		}
	}
	checkRecovered(t, strings.Repeat("a", 30000), "", 0)
	checkRecovered(t, strings.Repeat("\n", 30000), "", 0)
	checkRecovered(t, lineA+strings.Repeat("\n", 30000-len(lineA)), lineA, 1)
}

// Texts of parts of encodings, in any order, are recovered as far as the model reads them.
func TestP12RecoveryOfMixedTexts(t *testing.T) {
	n := &numbers{state: 199}
	parts := []string{lineA, lineB, encodingModel(1, impl.LogRecord{Command: "total", Reply: "?"}), encodingModel(2, impl.LogRecord{Command: "x"}), encodingModel(0, recordOf(0)), "\n", "0 total@", "#401684\n", "1 gap@1", "#913702", "0", " ", "@", "#"}
	for range 3000 {
		s := ""
		for range n.below(7) {
			s += parts[n.below(len(parts))]
		}
		records, ends := recordsModel(s)
		checkRecovered(t, s, s[:ends[len(records)]], len(records))
		split := n.below(len(s) + 1)
		l := impl.Log{Durable: s[:split], Pending: s[split:], Count: n.below(4)}
		checkLog(t, s, l, isLogModel(l))
		l = impl.Log{Durable: s, Count: len(records)}
		checkLog(t, s, l, isLogModel(l))
	}
}
