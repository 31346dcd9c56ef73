package tests

import (
	"encoding/hex"
	"fmt"
	"math"
	"slices"
	"strconv"
	"strings"
	"testing"

	"loop.example/g00984/impl"
)

// allBytes contains each byte once.
func allBytes() string {
	b := make([]byte, 256)
	for i := range b {
		b[i] = byte(i)
	}
	return string(b)
}

// texts returns all strings over an alphabet with at most the given length.
func texts(alphabet string, most int) []string {
	all := []string{""}
	last := all
	for range most {
		var next []string
		for _, s := range last {
			for i := range len(alphabet) {
				next = append(next, s+alphabet[i:i+1])
			}
		}
		all = append(all, next...)
		last = next
	}
	return all
}

func wantDecodeHex(t *testing.T, s string, want string, wantOk bool) {
	t.Helper()
	got, ok := impl.DecodeHex(s)
	if got != want || ok != wantOk {
		t.Errorf("DecodeHex(%.40q of %d bytes) = %.40q of %d bytes, %v; want %.40q of %d bytes, %v", s, len(s), got, len(got), ok, want, len(want), wantOk)
	}
}

func wantEncodeHex(t *testing.T, s string, want string, wantOk bool) {
	t.Helper()
	got, ok := impl.EncodeHex(s)
	if got != want || ok != wantOk {
		t.Errorf("EncodeHex(%.40q of %d bytes) = %.40q of %d bytes, %v; want %.40q of %d bytes, %v", s, len(s), got, len(got), ok, want, len(want), wantOk)
	}
}

func wantParseUint(t *testing.T, s string, want int, wantOk bool) {
	t.Helper()
	got, ok := impl.ParseUint(s)
	if got != want || ok != wantOk {
		t.Errorf("ParseUint(%.40q) = %d, %v; want %d, %v", s, got, ok, want, wantOk)
	}
}

func wantFields(t *testing.T, line string, want ...string) {
	t.Helper()
	got, ok := impl.SplitFields(line)
	if !ok || !slices.Equal(got, want) {
		t.Errorf("SplitFields(%.40q of %d bytes) = %.40q, %v; want %.40q, true", line, len(line), got, ok, want)
	}
}

func wantNoFields(t *testing.T, line string) {
	t.Helper()
	got, ok := impl.SplitFields(line)
	if ok || len(got) != 0 {
		t.Errorf("SplitFields(%.40q of %d bytes) = %.40q, %v; want no fields, false", line, len(line), got, ok)
	}
}

func TestTextLimits(t *testing.T) {
	if impl.MaxInputLen != 20000 || impl.MaxUint != 1000000000 || impl.MaxLineLen != 600 || impl.MaxFieldsPerLine != 24 {
		t.Error("limits", impl.MaxInputLen, impl.MaxUint, impl.MaxLineLen, impl.MaxFieldsPerLine)
	}
}

func TestEncodeHexExamples(t *testing.T) {
	wantEncodeHex(t, "", "", true)
	wantEncodeHex(t, "az", "617a", true)
	wantEncodeHex(t, "\x00", "00", true)
	wantEncodeHex(t, "\x0f\xf0", "0ff0", true)
	wantEncodeHex(t, "\xab\xcd\xef", "abcdef", true)
	wantEncodeHex(t, "\u00e9", "c3a9", true)
	wantEncodeHex(t, allBytes(), hex.EncodeToString([]byte(allBytes())), true)
}

func TestEncodeHexAtTheLimit(t *testing.T) {
	for _, n := range []int{19999, 20000} {
		wantEncodeHex(t, strings.Repeat("k", n), strings.Repeat("6b", n), true)
	}
	for _, n := range []int{20001, 40000} {
		wantEncodeHex(t, strings.Repeat("k", n), "", false)
	}
}

func TestDecodeHexExamples(t *testing.T) {
	wantDecodeHex(t, "", "", true)
	wantDecodeHex(t, "617a", "az", true)
	wantDecodeHex(t, "00", "\x00", true)
	wantDecodeHex(t, "0ff0", "\x0f\xf0", true)
	wantDecodeHex(t, "abcdef", "\xab\xcd\xef", true)
}

func TestDecodeHexRejects(t *testing.T) {
	for _, s := range []string{
		"6", "617", "617a6", // odd length
		"6A", "A6", "617A", "FF", "AB", // uppercase digits
		"6g", "g6", "`0", "0`", "/0", "0/", ":0", "0:", "@0", "0G", // neighbors of the digits
		" 61", "61 ", "6 ", " 6", "0x", "0x61", "-1", "+1",
		"\x006", "6\x00", "\xff\xff", "\u0661", "617ag0", "g0617a",
	} {
		wantDecodeHex(t, s, "", false)
	}
}

func TestDecodeHexAcceptsOnlyLowercaseDigits(t *testing.T) {
	for b := range 256 {
		digit := strings.IndexByte("0123456789abcdef", byte(b))
		if digit < 0 {
			wantDecodeHex(t, string([]byte{byte(b), '0'}), "", false)
			wantDecodeHex(t, string([]byte{'0', byte(b)}), "", false)
			continue
		}
		wantDecodeHex(t, string([]byte{byte(b), '0'}), string([]byte{byte(16 * digit)}), true)
		wantDecodeHex(t, string([]byte{'0', byte(b)}), string([]byte{byte(digit)}), true)
	}
}

func TestDecodeHexAtTheLimit(t *testing.T) {
	for _, n := range []int{19999, 20000} {
		wantDecodeHex(t, strings.Repeat("6b", n), strings.Repeat("k", n), true)
	}
	wantDecodeHex(t, strings.Repeat("6b", 20000)+"6", "", false)
	wantDecodeHex(t, strings.Repeat("6b", 19999)+"6B", "", false)
	wantDecodeHex(t, strings.Repeat("6b", 20001), "", false)
	wantDecodeHex(t, strings.Repeat("6b", 40000), "", false)
}

func TestStringsComeBackFromTheirHex(t *testing.T) {
	all := append(texts("\x00 Az\x7f\x80\xff", 3), allBytes(), strings.Repeat("\xff", 20000))
	for _, s := range all {
		text, ok := impl.EncodeHex(s)
		if !ok || text != hex.EncodeToString([]byte(s)) {
			t.Errorf("EncodeHex(%.40q) = %.40q, %v", s, text, ok)
		}
		wantDecodeHex(t, text, s, true)
	}
}

func TestFormatInt(t *testing.T) {
	for n, want := range map[int]string{
		0:               "0",
		1:               "1",
		-1:              "-1",
		9:               "9",
		10:              "10",
		-10:             "-10",
		-5:              "-5",
		100:             "100",
		1000000000:      "1000000000",
		1000000001:      "1000000001",
		-1000000000:     "-1000000000",
		math.MaxInt32:   "2147483647",
		math.MinInt32:   "-2147483648",
		1 << 62:         "4611686018427387904",
		math.MaxInt:     "9223372036854775807",
		-math.MaxInt:    "-9223372036854775807",
		math.MinInt:     "-9223372036854775808",
		math.MinInt + 8: "-9223372036854775800",
	} {
		if got := impl.FormatInt(n); got != want {
			t.Errorf("FormatInt(%s) = %q", want, got)
		}
	}
	for n := -1200; n <= 1200; n++ {
		if got := impl.FormatInt(n); got != fmt.Sprint(n) {
			t.Errorf("FormatInt(%d) = %q", n, got)
		}
	}
}

func TestParseUintExamples(t *testing.T) {
	wantParseUint(t, "0", 0, true)
	wantParseUint(t, "1", 1, true)
	wantParseUint(t, "9", 9, true)
	wantParseUint(t, "10", 10, true)
	wantParseUint(t, "100", 100, true)
	wantParseUint(t, "1234567890"[:9], 123456789, true)
	wantParseUint(t, "999999999", 999999999, true)
	wantParseUint(t, "1000000000", 1000000000, true)
}

func TestParseUintRejects(t *testing.T) {
	for _, s := range []string{
		"", "01", "00", "000", "007", "0000000001", "01000000000", "0" + strings.Repeat("0", 50), // leading zeros
		"-", "+", "-0", "+0", "-1", "+1", "-01", "+1000000000", "--1", // signs
		"1000000001", "1000000010", "1999999999", "2000000000", "9999999999", "10000000000", // past the limit
		"2147483648", "4294967296", "4294967297", "9223372036854775807", "9223372036854775808", // machine words
		"18446744073709551615", "18446744073709551616", "18446744073709551617", "36893488147419103233", strings.Repeat("9", 30000),
		" 1", "1 ", "1 0", "1_000", "1,000", "1.0", "1e3", "0x1", "0b1", "0o1", "a", "1a", "a1", "1/", "1:", "\n", "1\n",
		"\x00", "1\x00", "\x001", "\u0661", "\xff", "1-", "1+",
	} {
		wantParseUint(t, s, 0, false)
	}
}

func TestNumbersComeBackFromTheirDecimal(t *testing.T) {
	for n := 0; n <= 12345; n++ {
		wantParseUint(t, impl.FormatInt(n), n, true)
	}
	for n := 1; n <= 1000000000; n *= 10 {
		wantParseUint(t, impl.FormatInt(n), n, true)
		wantParseUint(t, impl.FormatInt(n-1), n-1, true)
		wantParseUint(t, impl.FormatInt(n/3), n/3, true)
	}
	for _, n := range []int{-1, -10, -1000000000, math.MinInt, math.MaxInt, 1000000001} {
		wantParseUint(t, impl.FormatInt(n), 0, false)
	}
}

// A text is accepted exactly if it is the decimal text of a number in the range.
func TestParseUintAcceptsOnlyDecimalTexts(t *testing.T) {
	for _, s := range texts("019-+ _x", 4) {
		n, err := strconv.Atoi(s)
		if err == nil && n >= 0 && fmt.Sprint(n) == s {
			wantParseUint(t, s, n, true)
		} else {
			wantParseUint(t, s, 0, false)
		}
	}
}

func TestSplitFieldsExamples(t *testing.T) {
	wantFields(t, "a", "a")
	wantFields(t, "a b", "a", "b")
	wantFields(t, "send 1 2 0 5", "send", "1", "2", "0", "5")
	wantFields(t, " step  1 ", "step", "1")
	wantFields(t, "   a", "a")
	wantFields(t, "a   ", "a")
	wantFields(t, "a a  a", "a", "a", "a")
	wantFields(t, "01 -2 ~!", "01", "-2", "~!")
}

func TestSplitFieldsOfALineWithoutFields(t *testing.T) {
	wantFields(t, "")
	wantFields(t, " ")
	wantFields(t, "     ")
	wantFields(t, strings.Repeat(" ", 600))
	wantNoFields(t, strings.Repeat(" ", 601))
}

func TestSplitFieldsRejectsBytesOutsideTheRange(t *testing.T) {
	for b := range 256 {
		c := string([]byte{byte(b)})
		switch {
		case b == 32:
			wantFields(t, "ab"+c+"cd", "ab", "cd")
		case b > 32 && b <= 126:
			wantFields(t, c, c)
			wantFields(t, c+"a", c+"a")
			wantFields(t, "ab"+c+"cd", "ab"+c+"cd")
			wantFields(t, "a "+c, "a", c)
		default:
			for _, line := range []string{c, c + "a", "ab" + c + "cd", "a" + c, "a b" + c, "a " + c, c + " a", " " + c, c + " ", "a " + c + " b", c + c} {
				wantNoFields(t, line)
			}
		}
	}
	wantNoFields(t, "caf\u00e9")
	wantNoFields(t, strings.Repeat("a", 599)+"\n")
}

func TestSplitFieldsAtTheLimitOfTheLine(t *testing.T) {
	for _, n := range []int{599, 600} {
		wantFields(t, strings.Repeat("a", n), strings.Repeat("a", n))
		wantFields(t, strings.Repeat(" ", n-1)+"a", "a")
		wantFields(t, "a"+strings.Repeat(" ", n-2)+"b", "a", "b")
	}
	for _, n := range []int{601, 1200} {
		wantNoFields(t, strings.Repeat("a", n))
		wantNoFields(t, strings.Repeat(" ", n-1)+"a")
		wantNoFields(t, "a"+strings.Repeat(" ", n-1))
	}
}

func TestSplitFieldsAtTheLimitOfTheFields(t *testing.T) {
	for n := 1; n <= 24; n++ {
		var want []string
		for i := range n {
			want = append(want, "f"+strconv.Itoa(i))
		}
		wantFields(t, strings.Join(want, " "), want...)
		wantFields(t, "  "+strings.Join(want, "   ")+" ", want...)
	}
	for _, n := range []int{25, 26, 300} {
		wantNoFields(t, strings.TrimSuffix(strings.Repeat("f ", n), " "))
		wantNoFields(t, strings.Repeat("f ", n))
	}
	wantFields(t, strings.Repeat(strings.Repeat("g", 24)+" ", 24), slices.Repeat([]string{strings.Repeat("g", 24)}, 24)...)
}

// For lines of spaces and visible bytes within the limits, strings.Fields is the same rule.
func TestSplitFieldsOfAllShortLines(t *testing.T) {
	for _, line := range texts(" a~", 6) {
		wantFields(t, line, strings.Fields(line)...)
	}
}

func TestSplitFieldsReturnsNewFields(t *testing.T) {
	first, _ := impl.SplitFields("a b c")
	second, _ := impl.SplitFields("a b c")
	first[1] = "changed"
	if !slices.Equal(second, []string{"a", "b", "c"}) {
		t.Error("two results share memory", second)
	}
}

func TestClampExamples(t *testing.T) {
	for _, c := range []struct{ n, low, high, want int }{
		{9, 1, 5, 5},
		{3, 1, 5, 3},
		{0, 1, 5, 1},
		{1, 1, 5, 1},
		{5, 1, 5, 5},
		{6, 1, 5, 5},
		{-7, -5, -1, -5},
		{0, -5, -1, -1},
		{4, 2, 2, 2},
		{0, 2, 2, 2},
		{7, 5, 1, 5}, // high is less than low
		{3, 5, 1, 5},
		{0, 5, 1, 5},
		{1, 5, 1, 5},
		{math.MaxInt, 0, 10, 10},
		{math.MinInt, 0, 10, 0},
		{math.MinInt, math.MinInt, math.MaxInt, math.MinInt},
		{math.MaxInt, math.MinInt, math.MaxInt, math.MaxInt},
		{0, math.MaxInt, math.MinInt, math.MaxInt},
	} {
		if got := impl.Clamp(c.n, c.low, c.high); got != c.want {
			t.Errorf("Clamp(%d, %d, %d) = %d; want %d", c.n, c.low, c.high, got, c.want)
		}
	}
}

func TestClampedValuesAreInTheRange(t *testing.T) {
	for low := -4; low <= 4; low++ {
		for high := -4; high <= 4; high++ {
			for n := -6; n <= 6; n++ {
				got := impl.Clamp(n, low, high)
				switch {
				case high < low:
					if got != low {
						t.Errorf("Clamp(%d, %d, %d) = %d", n, low, high, got)
					}
				case got < low || got > high:
					t.Errorf("Clamp(%d, %d, %d) = %d is outside", n, low, high, got)
				case n >= low && n <= high && got != n:
					t.Errorf("Clamp(%d, %d, %d) = %d changes a value inside", n, low, high, got)
				case n < low && got != low || n > high && got != high:
					t.Errorf("Clamp(%d, %d, %d) = %d is not the nearest end", n, low, high, got)
				}
			}
		}
	}
}
