package tests

import (
	"math"
	"strconv"
	"strings"
	"testing"

	"loop.example/g03316/impl"
)

func checkParseUint(t *testing.T, s string, want int, wantOk bool) {
	t.Helper()
	if got, ok := impl.ParseUint(s); got != want || ok != wantOk {
		t.Errorf("ParseUint(%.40q) = %d, %v, want %d, %v", s, got, ok, want, wantOk)
	}
}

func checkFormatInt(t *testing.T, n int, want string) {
	t.Helper()
	if got := impl.FormatInt(n); got != want {
		t.Errorf("FormatInt(%d) = %q, want %q", n, got, want)
	}
}

func TestConstantsOfText(t *testing.T) {
	if impl.MaxInputLen != 20000 || impl.MaxUint != 1000000000 || impl.MaxLineLen != 600 || impl.MaxFieldsPerLine != 24 || impl.MaxWord != 4294967295 {
		t.Error("a constant of chapter 1 has another value than in the document")
	}
}

func TestFormatIntOfKnownNumbers(t *testing.T) {
	for n, want := range map[int]string{
		0: "0", 1: "1", -1: "-1", 9: "9", 10: "10", -10: "-10", -30: "-30", 100: "100", 120: "120",
		impl.MaxUint:       "1000000000",
		impl.MaxWord:       "4294967295",
		impl.MaxWord + 1:   "4294967296",
		-impl.MaxWord - 1:  "-4294967296",
		math.MaxInt64:      "9223372036854775807",
		math.MinInt64:      "-9223372036854775808",
		math.MinInt64 + 1:  "-9223372036854775807",
		1e18:               "1000000000000000000",
		-12345678901234567: "-12345678901234567",
	} {
		checkFormatInt(t, n, want)
	}
	for _, n := range farNumbers {
		checkFormatInt(t, n, strconv.FormatInt(int64(n), 10))
	}
}

func TestParseUintGoesBack(t *testing.T) {
	for n := range 20000 {
		checkParseUint(t, impl.FormatInt(n), n, true)
	}
	for p := 10; p <= impl.MaxUint; p *= 10 {
		checkParseUint(t, impl.FormatInt(p-1), p-1, true)
		checkParseUint(t, impl.FormatInt(p), p, true)
	}
	for n := 3; n <= impl.MaxUint; n = n*3 + 1 {
		checkParseUint(t, impl.FormatInt(n), n, true)
	}
}

func TestParseUintLimits(t *testing.T) {
	checkParseUint(t, "0", 0, true)
	checkParseUint(t, "999999999", 999999999, true)
	checkParseUint(t, "1000000000", impl.MaxUint, true)
	for _, s := range []string{
		"1000000001", "1000000009", "1000000010", "2000000000", "4294967295", "9999999999", "10000000000",
		"4294967296", "4294967297", "9223372036854775807", "9223372036854775808",
		"18446744073709551615", "18446744073709551616", "18446744073709551617", "18446744073709551626",
		"340282366920938463463374607431768211456", "340282366920938463463374607431768211457",
		strings.Repeat("9", 700), "1" + strings.Repeat("0", 64), "1" + strings.Repeat("0", 20000),
	} {
		checkParseUint(t, s, 0, false)
	}
}

func TestParseUintOfInvalidStrings(t *testing.T) {
	for _, s := range []string{
		"", " ", "00", "01", "007", "0120", "0000000001", "01000000000", strings.Repeat("0", 700), strings.Repeat("0", 700) + "5",
		"-", "+", "-0", "+0", "-1", "+1", "-120", "+120", "--1", "-1000000000", "-9223372036854775808",
		" 1", "1 ", "1 2", "1\n", "\t1", "1\x00", "\x001", "1,000", "1_000", "1.0", "1.", ".1", "1e3", "0x10", "0b1", "0o7", "1a", "a1", "a", "ff",
		"/", ":", "1/", "1:", "\xff", "1\xff", "\xb1", "\u00b2", "\u0663", "\uff11",
	} {
		checkParseUint(t, s, 0, false)
	}
}

// Of all strings of at most two bytes, those and only those that FormatInt writes can be parsed.
func TestParseUintOfAllShortStrings(t *testing.T) {
	of := map[string]int{}
	for n := range 100 {
		of[impl.FormatInt(n)] = n
	}
	for i := range 65536 {
		two := string([]byte{byte(i >> 8), byte(i)})
		n, is := of[two]
		checkParseUint(t, two, n, is)
		one := two[1:]
		n, is = of[one]
		checkParseUint(t, one, n, is)
	}
}

func checkClamp(t *testing.T, n, low, high, want int) {
	t.Helper()
	if got := impl.Clamp(n, low, high); got != want {
		t.Errorf("Clamp(%d, %d, %d) = %d, want %d", n, low, high, got, want)
	}
}

// clamped is the rule of the document, case by case.
func clamped(n, low, high int) int {
	switch {
	case high < low, n < low:
		return low
	case n > high:
		return high
	}
	return n
}

func TestClampOfSmallNumbers(t *testing.T) {
	for n := -5; n <= 5; n++ {
		for low := -5; low <= 5; low++ {
			for high := -5; high <= 5; high++ {
				checkClamp(t, n, low, high, clamped(n, low, high))
			}
		}
	}
}

func TestClampOfFarNumbers(t *testing.T) {
	list := append([]int{0, 1, 5}, farNumbers...)
	for _, n := range list {
		for _, low := range list {
			for _, high := range list {
				checkClamp(t, n, low, high, clamped(n, low, high))
			}
		}
	}
}

func TestClampWithHighLessThanLow(t *testing.T) {
	for _, n := range []int{math.MinInt64, -1, 0, 3, 4, 5, 6, 7, math.MaxInt64} {
		checkClamp(t, n, 6, 4, 6)
		checkClamp(t, n, math.MaxInt64, math.MinInt64, math.MaxInt64)
	}
}

func TestCountOnes(t *testing.T) {
	for n := range 70000 {
		if got, want := impl.CountOnes(n), strings.Count(strconv.FormatInt(int64(n), 2), "1"); got != want {
			t.Errorf("CountOnes(%d) = %d, want %d", n, got, want)
		}
	}
	for bit := range 32 {
		for n, want := range map[int]int{1 << bit: 1, impl.MaxWord - 1<<bit: 31, 1<<bit - 1: bit} {
			if got := impl.CountOnes(n); got != want {
				t.Errorf("CountOnes(%d) = %d, want %d", n, got, want)
			}
		}
	}
	if got := impl.CountOnes(impl.MaxWord); got != 32 {
		t.Errorf("CountOnes(MaxWord) = %d, want 32", got)
	}
}

func TestCountOnesOutOfRange(t *testing.T) {
	for _, n := range append([]int{impl.MaxWord + 1, -2, -3}, farNumbers...) {
		if got := impl.CountOnes(n); got != -1 {
			t.Errorf("CountOnes(%d) = %d, want -1", n, got)
		}
	}
}
