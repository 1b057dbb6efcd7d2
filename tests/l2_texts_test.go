package tests

import (
	"regexp"
	"strings"
	"testing"

	"loop.example/g01110/impl"
)

func checkFieldText(t *testing.T, f impl.Field, want string) {
	t.Helper()
	if text, ok := impl.FieldText(f); !ok || text != want {
		t.Errorf("FieldText of %q = %q, %v", want, text, ok)
	}
	back, ok := impl.ParseField(want)
	checkFieldResult(t, "ParseField of the text", f, back, ok, f)
}

func checkNoParse(t *testing.T, text string) {
	t.Helper()
	if f, ok := impl.ParseField(text); ok || len(f.Open) != 0 || len(f.Dist) != 0 {
		t.Errorf("ParseField(%.80q) = %q, %v; want none, false", text, textOf(f), ok)
	}
}

var fieldShape = regexp.MustCompile(`^(0|[1-9][0-9]?)( (0|[1-9][0-9]?))*( / (0|[1-9][0-9]?)( (0|[1-9][0-9]?))*)*$`)

// isFieldText tells whether FieldText can write a text.
func isFieldText(text string) bool {
	if !fieldShape.MatchString(text) {
		return false
	}
	rows := strings.Split(text, " / ")
	sites := strings.Count(rows[0], " ")
	for _, row := range rows {
		if strings.Count(row, " ") != sites {
			return false
		}
	}
	return sites < impl.MaxSites && len(rows) <= impl.MaxClients+1
}

func checkParseField(t *testing.T, text string) {
	t.Helper()
	if !isFieldText(text) {
		checkNoParse(t, text)
		return
	}
	f, ok := impl.ParseField(text)
	checkFieldResult(t, "ParseField of the text", f, f, ok, fieldOf(text))
	if back, ok := impl.FieldText(f); !ok || back != text {
		t.Errorf("%q is read and written as %q, %v", text, back, ok)
	}
}

func TestP2FieldTextByHand(t *testing.T) {
	checkFieldText(t, impl.Field{Open: []int{3, 1}, Dist: [][]int{{0, 4}, {5, 1}, {2, 2}}}, "3 1 / 0 4 / 5 1 / 2 2")
	checkFieldText(t, impl.Field{Open: []int{0}}, "0")
	checkFieldText(t, impl.Field{Open: []int{99}}, "99")
	checkFieldText(t, impl.Field{Open: []int{10, 0, 5}}, "10 0 5")
	checkFieldText(t, impl.Field{Open: []int{5}, Dist: [][]int{{0}}}, "5 / 0")
	checkFieldText(t, impl.Field{Open: []int{5}, Dist: [][]int{{12}, {99}, {1}}}, "5 / 12 / 99 / 1")
	checkFieldText(t, impl.Field{Open: []int{1, 2, 3, 4, 5, 6, 7}, Dist: [][]int{{10, 20, 30, 40, 50, 60, 70}}}, "1 2 3 4 5 6 7 / 10 20 30 40 50 60 70")
	row := "99 99 99 99 99 99 99"
	checkFieldText(t, fieldOf(row+strings.Repeat(" / "+row, 7)), row+strings.Repeat(" / "+row, 7))
}

func TestP2FieldTextOfManyFields(t *testing.T) {
	for _, f := range append(manyFields(3), smallFields(2, 1, 10)...) {
		checkFieldText(t, f, textOf(f))
	}
}

func TestP2ParseFieldRefuses(t *testing.T) {
	for _, text := range []string{
		"", " ", "/", " / ", " /", "/ ", "  ", "\n", "x", "-", "-1", "100", "1 100", "1 / 100", "1 / -1", "01", "00", "1 / 01", "1 / 00", "+1", "-0", "1 / -0", "1 / +1",
		" 1", "1 ", "1  2", "1\t2", "1,2", "1\n", "1\n2", "1 / ", "1 /", " / 1", "/ 1", "1/2", "1 /2", "1/ 2", "1  / 2", "1 /  2", "1 / 2 ", "1 / 2 /", "1 / 2 / ",
		"1 // 2", "1 / / 2", "1 /  / 2", "1 / 2 / / 3", "1 2 / 3", "1 / 2 3", "1 2 / 3 4 / 5", "1 2 / 3 4 / 5 6 7", "1 2 / 3 4 5", "1 2 / 3", "1 2 / ",
		"1 2 3 4 5 6 7 8", "1 2 3 4 5 6 7 8 / 1 2 3 4 5 6 7 8", "1 / 1 / 2 / 3 / 4 / 5 / 6 / 7 / 8", "1 | 2", "1 \\ 2", "1 \x00/ 2", "1\x00", "\xff", "1 / 2\xff",
		"1.0", "1e1", "0x1", "1_0", "\u0661", "1\u00a02", "1 / 2#3", "999999", "1000000", "1 / 9223372036854775808", "1 / 18446744073709551617", "18446744073709551617",
		strings.Repeat("0", 99), strings.Repeat("1 ", 2000) + "1", strings.Repeat("1 ", 3000) + "1", strings.Repeat("1 / ", 1000) + "1",
		strings.Repeat("1 / ", 100000) + "1", strings.Repeat(" / ", 100000), strings.Repeat("9", 100000), "1 / " + strings.Repeat("1 ", 100000) + "1",
	} {
		checkNoParse(t, text)
	}
}

// Each text with one byte that is changed, missing or added is judged by its shape.
func TestP2ParseFieldByteByByte(t *testing.T) {
	row := "99 10 0 9 50 1 99"
	for _, text := range []string{
		"0", "7", "10", "99", "3 1", "3 1 / 0 4 / 5 1 / 2 2", "5 / 12 / 0 / 1", "0 / 0", "10 0 5 / 99 9 0", "1 2 3 4 5 6 7", "0 / 1 / 2 / 3 / 4 / 5 / 6 / 7",
		row + strings.Repeat(" / "+row, 7),
	} {
		checkParseField(t, text)
		for at := range len(text) {
			checkParseField(t, text[:at]+text[at+1:])
			checkParseField(t, text[:at])
			checkParseField(t, text[at:])
			for c := range 256 {
				checkParseField(t, text[:at]+string([]byte{byte(c)})+text[at+1:])
				checkParseField(t, text[:at]+string([]byte{byte(c)})+text[at:])
			}
		}
		for c := range 256 {
			checkParseField(t, text+string([]byte{byte(c)}))
		}
	}
}

func TestP2ParseFieldOfAllShortTexts(t *testing.T) {
	const bytes = "019 /-"
	list := []string{""}
	for from, size := 0, 0; size < 7; size++ {
		end := len(list)
		for ; from < end; from++ {
			for i := range len(bytes) {
				list = append(list, list[from]+bytes[i:i+1])
			}
		}
	}
	for _, text := range list {
		checkParseField(t, text)
	}
}

func TestP2ParseFieldOfMixedTexts(t *testing.T) {
	words := []string{"0", "1", "9", "10", "99", "100", "00", "-1", "", "x", "/"}
	n := &numbers{state: 8}
	for range 20000 {
		parts := make([]string, 1+n.below(9))
		for i := range parts {
			parts[i] = words[n.below(5)]
			if i%2 == 1 && n.below(3) == 0 {
				parts[i] = "/"
			}
			if n.below(20) == 0 {
				parts[i] = words[n.below(len(words))]
			}
		}
		checkParseField(t, strings.Join(parts, " "))
	}
}
