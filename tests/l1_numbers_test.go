package tests

import (
	"math"
	"strconv"
	"strings"
	"testing"

	"loop.example/g01110/impl"
)

func checkFormat(t *testing.T, n int, want string, fine bool) {
	t.Helper()
	if s, ok := impl.FormatInt(n); s != want || ok != fine {
		t.Errorf("FormatInt(%d) = %q, %v; want %q, %v", n, s, ok, want, fine)
	}
}

func checkParse(t *testing.T, s string, want int, fine bool) {
	t.Helper()
	if n, ok := impl.ParseInt(s); n != want || ok != fine {
		t.Errorf("ParseInt(%q) = %d, %v; want %d, %v", s, n, ok, want, fine)
	}
}

func TestP1FormatInt(t *testing.T) {
	for n, want := range map[int]string{
		0: "0", 1: "1", -1: "-1", 9: "9", 10: "10", -12: "-12", 100: "100", -10: "-10",
		42: "42", 12345: "12345", -70809: "-70809", 100000: "100000",
		999998: "999998", -999998: "-999998", 999999: "999999", -999999: "-999999",
	} {
		checkFormat(t, n, want, true)
		checkParse(t, want, n, true)
	}
}

func TestP1FormatIntOutside(t *testing.T) {
	for _, n := range []int{
		1000000, -1000000, 1000001, -1000001, 9999999, -9999999, 1 << 32, -1 << 32, 1<<32 + 5,
		math.MaxInt, math.MaxInt - 1, math.MinInt, math.MinInt + 1,
	} {
		checkFormat(t, n, "", false)
		checkParse(t, strconv.Itoa(n), 0, false)
	}
}

func TestP1ParseIntRefuses(t *testing.T) {
	for _, s := range []string{
		"", "-", "+", "--1", "+-1", "-+1", "1-", "-0", "+0", "00", "-00", "01", "-01", "0012", "+1", "+12", "007",
		" 1", "1 ", " ", "1\n", "\t1", "1 2", "1x", "x1", "x", "0x1", "0b1", "0o7", "1_000", "1e3", "1.0", ".5", "1,000",
		"#", "-x", "1-2", "\x00", "1\x00", "\xff", "1\xff", "\u0661", "\uff11", "\u22121",
		"1000000", "-1000000", "0999999", "0000001", "-0999999",
		"9223372036854775807", "-9223372036854775808", "9223372036854775808", "-9223372036854775809",
		"18446744073709551616", "18446744073709551617", "4294967297",
		strings.Repeat("0", 100), strings.Repeat("9", 100), strings.Repeat("0", 100) + "1",
		strings.Repeat("1", 100000), strings.Repeat("-", 100000),
	} {
		checkParse(t, s, 0, false)
	}
}

func TestP1DecimalRoundTrip(t *testing.T) {
	for n := -impl.MaxDecimal; n <= impl.MaxDecimal; n++ {
		s, ok := impl.FormatInt(n)
		m, fine := impl.ParseInt(s)
		if !ok || !fine || m != n || s != strconv.Itoa(n) {
			t.Fatalf("%d is written as %q, %v and read as %d, %v", n, s, ok, m, fine)
		}
	}
}

// Every short text over these bytes that is read must be written again just so.
func TestP1ParseIntOfAllShortTexts(t *testing.T) {
	const bytes = "-+0159 _x"
	texts := []string{""}
	for from, size := 0, 0; size < 5; size++ {
		end := len(texts)
		for ; from < end; from++ {
			for i := range len(bytes) {
				texts = append(texts, texts[from]+bytes[i:i+1])
			}
		}
	}
	for _, s := range texts {
		n, ok := impl.ParseInt(s)
		m, err := strconv.Atoi(s)
		want := err == nil && strconv.Itoa(m) == s
		if ok != want || ok && n != m || !ok && n != 0 {
			t.Fatalf("ParseInt(%q) = %d, %v", s, n, ok)
		}
	}
}

func TestP1LessString(t *testing.T) {
	ascending := []string{
		"", "\x00", "\x00\x00", "\x01", " ", "#", "-1", "10", "9", "A", "a", "a\x00", "aa", "ab", "ab ", "aba", "abb", "b",
		"z", "\x7f", "\x80", "\x80\x00", "\u00e9", "\u20ac", "\U0001f600", "\xfe\xff", "\xff", "\xff\x00", "\xff\xff",
		"\xff\xff" + strings.Repeat("a", 5000), "\xff\xff" + strings.Repeat("a", 5000) + "a",
	}
	for i, a := range ascending {
		for j, b := range ascending {
			if got := impl.LessString(a, b); got != (i < j) {
				t.Errorf("LessString(%.20q, %.20q) = %v", a, b, got)
			}
		}
	}
}
