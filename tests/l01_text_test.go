package tests

import (
	"math"
	"slices"
	"strconv"
	"strings"
	"testing"

	"loop.example/g03309/impl"
)

// Promise 1: Strings can be decoded from their hexadecimal text and numbers
// from their decimal text, within the limits; clamped values are in the range.

func TestTextLimits(t *testing.T) {
	got := []int{impl.MaxInputLen, impl.MaxUint, impl.MaxLineLen, impl.MaxFieldsPerLine}
	if want := []int{20000, 1000000000, 600, 24}; !slices.Equal(got, want) {
		t.Errorf("limits %v, want %v", got, want)
	}
}

func TestEncodeHexExamples(t *testing.T) {
	for s, want := range map[string]string{
		"":                 "",
		"az":               "617a",
		"\x00":             "00",
		"\x0f\xf0":         "0ff0",
		"\x01\x23\x45\x67": "01234567",
		"\x89\xab\xcd\xef": "89abcdef",
		"é":                "c3a9",
		"\xff\xfe":         "fffe",
	} {
		if got, ok := impl.EncodeHex(s); got != want || !ok {
			t.Errorf("EncodeHex(%q) = %q, %v, want %q, true", s, got, ok, want)
		}
	}
}

func TestHexOfEachByte(t *testing.T) {
	for b := range 256 {
		s := string([]byte{byte(b)})
		want := strconv.FormatInt(int64(b), 16)
		if len(want) == 1 {
			want = "0" + want
		}
		checkHex(t, s, want)
		checkHex(t, "ab"+s, "6162"+want)
	}
}

func checkHex(t *testing.T, s string, text string) {
	t.Helper()
	if got, ok := impl.EncodeHex(s); got != text || !ok {
		t.Errorf("EncodeHex(%q) = %q, %v, want %q, true", s, got, ok, text)
	}
	if got, ok := impl.DecodeHex(text); got != s || !ok {
		t.Errorf("DecodeHex(%q) = %q, %v, want %q, true", text, got, ok, s)
	}
}

func TestHexLimit(t *testing.T) {
	checkHex(t, strings.Repeat("z", 20000), strings.Repeat("7a", 20000))
	if got, ok := impl.EncodeHex(strings.Repeat("z", 20001)); got != "" || ok {
		t.Errorf("EncodeHex of 20001 bytes = %d bytes, %v, want none, false", len(got), ok)
	}
	for _, text := range []string{strings.Repeat("7a", 20001), strings.Repeat("7a", 20000) + "7"} {
		if got, ok := impl.DecodeHex(text); got != "" || ok {
			t.Errorf("DecodeHex of %d bytes = %d bytes, %v, want none, false", len(text), len(got), ok)
		}
	}
}

func TestDecodeHexRejects(t *testing.T) {
	for _, text := range []string{
		"6", "617", "617a6",
		"7A", "Ff", "fF", "617A",
		"g0", "0g", "0x", "x0", " 6", "6 ", "61 7a", "617a\n", "-1", "+1", "é",
	} {
		if got, ok := impl.DecodeHex(text); got != "" || ok {
			t.Errorf("DecodeHex(%q) = %q, %v, want \"\", false", text, got, ok)
		}
	}
}

func TestDecodeHexDigits(t *testing.T) {
	for b := range 256 {
		digit := string([]byte{byte(b)})
		want := strings.Contains("0123456789abcdef", digit)
		for _, text := range []string{digit + "0", "0" + digit} {
			got, ok := impl.DecodeHex(text)
			if ok != want || !ok && got != "" {
				t.Errorf("DecodeHex(%q) = %q, %v, want %v", text, got, ok, want)
			}
			if again, _ := impl.EncodeHex(got); ok && again != text {
				t.Errorf("EncodeHex(DecodeHex(%q)) = %q", text, again)
			}
		}
	}
}

func TestFormatInt(t *testing.T) {
	for n, want := range map[int]string{
		0:              "0",
		1:              "1",
		-1:             "-1",
		-5:             "-5",
		9:              "9",
		10:             "10",
		-10:            "-10",
		100200:         "100200",
		1000000000:     "1000000000",
		1000000001:     "1000000001",
		math.MaxInt64:  "9223372036854775807",
		-math.MaxInt64: "-9223372036854775807",
		math.MinInt64:  "-9223372036854775808",
	} {
		if got := impl.FormatInt(n); got != want {
			t.Errorf("FormatInt = %q, want %q", got, want)
		}
	}
}

func TestParseUintReadsFormatInt(t *testing.T) {
	for n := range 1200 {
		checkParseUint(t, n)
		checkParseUint(t, 1000000000-n)
		checkParseUint(t, n*833333)
	}
	for n := 1; n <= 1000000000; n *= 10 {
		checkParseUint(t, n)
		checkParseUint(t, n-1)
	}
}

func checkParseUint(t *testing.T, n int) {
	t.Helper()
	if got, ok := impl.ParseUint(impl.FormatInt(n)); got != n || !ok {
		t.Errorf("ParseUint(FormatInt(%d)) = %d, %v", n, got, ok)
	}
}

func TestParseUintRejects(t *testing.T) {
	for _, s := range []string{
		"", " ", "-", "+", "a", "1a", "a1", "1 ", " 1", "1 2", "1\n", "\x001",
		"00", "01", "000", "007", "0000000001", "01000000000",
		"-1", "-0", "+0", "+1", "--1", "-1000000000",
		"1000000001", "1000000010", "2000000000", "9999999999", "10000000000",
		"9223372036854775807", "9223372036854775808", "18446744073709551616",
		"18446744073709551617", "1" + strings.Repeat("0", 40000),
		"1.0", "1.", ".1", "1e3", "0x1", "0b1", "0o1", "1_000", "1,000", "١", "１",
	} {
		if n, ok := impl.ParseUint(s); n != 0 || ok {
			t.Errorf("ParseUint(%.30q) = %d, %v, want 0, false", s, n, ok)
		}
	}
}

func TestSplitFields(t *testing.T) {
	for line, want := range map[string][]string{
		"":                     nil,
		" ":                    nil,
		"     ":                nil,
		"a":                    {"a"},
		" a":                   {"a"},
		"a ":                   {"a"},
		"a b":                  {"a", "b"},
		" add  1 ":             {"add", "1"},
		"   pin   3    4   ":   {"pin", "3", "4"},
		"b a b":                {"b", "a", "b"},
		"01 -5 +":              {"01", "-5", "+"},
		"a,b;c d=\"e\" !x ~y":  {"a,b;c", "d=\"e\"", "!x", "~y"},
		"longer short longest": {"longer", "short", "longest"},
	} {
		checkFields(t, line, want)
	}
}

func checkFields(t *testing.T, line string, want []string) {
	t.Helper()
	if got, ok := impl.SplitFields(line); !slices.Equal(got, want) || !ok {
		t.Errorf("SplitFields(%q) = %q, %v, want %q, true", line, got, ok, want)
	}
}

func checkNoFields(t *testing.T, line string) {
	t.Helper()
	if got, ok := impl.SplitFields(line); len(got) != 0 || ok {
		t.Errorf("SplitFields(%q) = %q, %v, want nil, false", line, got, ok)
	}
}

func TestSplitFieldsLength(t *testing.T) {
	checkFields(t, strings.Repeat("x", 600), []string{strings.Repeat("x", 600)})
	checkNoFields(t, strings.Repeat("x", 601))
	checkFields(t, strings.Repeat(" ", 600), nil)
	checkNoFields(t, strings.Repeat(" ", 601))
	checkFields(t, "a"+strings.Repeat(" ", 598)+"b", []string{"a", "b"})
	checkNoFields(t, "a"+strings.Repeat(" ", 599)+"b")
}

func TestSplitFieldsCount(t *testing.T) {
	for n := range 24 {
		checkFields(t, strings.Repeat("f ", n)+"g", append(slices.Repeat([]string{"f"}, n), "g"))
	}
	full := slices.Repeat([]string{"f"}, 24)
	checkFields(t, strings.Repeat("f ", 24), full)
	checkFields(t, strings.Repeat("  f", 24)+"   ", full)
	checkNoFields(t, strings.Repeat("f ", 24)+"g")
	checkNoFields(t, strings.Repeat("f ", 25))
	checkNoFields(t, strings.Repeat("f ", 300))
}

func TestSplitFieldsBytes(t *testing.T) {
	for b := range 256 {
		s := string([]byte{byte(b)})
		lines := []string{s, s + "a", "a" + s, "a " + s + " b", " " + s, s + " "}
		for _, line := range lines {
			switch {
			case b < 32 || b > 126:
				checkNoFields(t, line)
			case b > 32:
				checkFields(t, line, strings.Split(strings.Trim(line, " "), " "))
			}
		}
	}
	checkNoFields(t, "tune é")
	checkNoFields(t, "a\tb")
	checkNoFields(t, strings.Repeat("x", 599)+"\n")
}

func TestSplitFieldsIsNew(t *testing.T) {
	first, _ := impl.SplitFields("a b c")
	second, _ := impl.SplitFields("a b c")
	first[0], first[1] = "x", "y"
	if want := []string{"a", "b", "c"}; !slices.Equal(second, want) {
		t.Errorf("a later result changed to %q", second)
	}
	checkFields(t, "a b c", []string{"a", "b", "c"})
}

func TestClamp(t *testing.T) {
	for _, c := range []struct{ n, low, high, want int }{
		{9, 1, 5, 5}, {0, 1, 5, 1}, {3, 1, 5, 3},
		{1, 1, 5, 1}, {5, 1, 5, 5}, {6, 1, 5, 5}, {-1, 0, 5, 0},
		{-9, -5, -1, -5}, {-3, -5, -1, -3}, {0, -5, -1, -1},
		{7, 4, 4, 4}, {1, 4, 4, 4}, {4, 4, 4, 4},
		{1, 5, 2, 5}, {2, 5, 2, 5}, {3, 5, 2, 5}, {5, 5, 2, 5}, {9, 5, 2, 5},
		{math.MaxInt64, 0, 10, 10}, {math.MinInt64, 0, 10, 0},
		{0, math.MaxInt64, math.MinInt64, math.MaxInt64},
		{7, math.MinInt64, math.MaxInt64, 7},
		{math.MinInt64, math.MinInt64, math.MaxInt64, math.MinInt64},
		{math.MaxInt64, math.MinInt64, math.MaxInt64, math.MaxInt64},
	} {
		if got := impl.Clamp(c.n, c.low, c.high); got != c.want {
			t.Errorf("Clamp(%d, %d, %d) = %d, want %d", c.n, c.low, c.high, got, c.want)
		}
	}
}

func TestClampStaysInRange(t *testing.T) {
	for low := -4; low <= 4; low++ {
		for high := -4; high <= 4; high++ {
			for n := -6; n <= 6; n++ {
				checkClamped(t, n, low, high)
			}
		}
	}
}

func checkClamped(t *testing.T, n int, low int, high int) {
	t.Helper()
	got := impl.Clamp(n, low, high)
	inside := low <= n && n <= high
	switch {
	case high < low && got != low:
		t.Errorf("Clamp(%d, %d, %d) = %d, want low", n, low, high, got)
	case high >= low && (got < low || got > high):
		t.Errorf("Clamp(%d, %d, %d) = %d is outside", n, low, high, got)
	case inside && got != n:
		t.Errorf("Clamp(%d, %d, %d) = %d, want n", n, low, high, got)
	}
}
