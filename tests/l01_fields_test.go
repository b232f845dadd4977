package tests

import (
	"slices"
	"strings"
	"testing"

	"loop.example/g03316/impl"
)

func checkFields(t *testing.T, line string, want ...string) {
	t.Helper()
	if got, ok := impl.SplitFields(line); !ok || !slices.Equal(got, want) {
		t.Errorf("SplitFields(%.80q of %d bytes) = %.80q, %v, want %.80q, true", line, len(line), got, ok, want)
	}
}

func checkNoFields(t *testing.T, line string) {
	t.Helper()
	if got, ok := impl.SplitFields(line); ok || got != nil {
		t.Errorf("SplitFields(%.80q of %d bytes) = %.80q, %v, want nil, false", line, len(line), got, ok)
	}
}

func TestFieldsOfKnownLines(t *testing.T) {
	checkFields(t, "")
	checkFields(t, " ")
	checkFields(t, "     ")
	checkFields(t, "a", "a")
	checkFields(t, " a", "a")
	checkFields(t, "a ", "a")
	checkFields(t, "send 12 x", "send", "12", "x")
	checkFields(t, "  send 12  x ", "send", "12", "x")
	checkFields(t, "a     b", "a", "b")
	checkFields(t, "same same same", "same", "same", "same")
	checkFields(t, "! ~ \"q\" a,b;c-d_e", "!", "~", "\"q\"", "a,b;c-d_e")
}

// A field is what lies between spaces: all lines of at most 8 bytes that are spaces or two others.
func TestFieldsOfAllShortLines(t *testing.T) {
	lines := []string{""}
	for from, length := 0, 0; length < 8; length++ {
		to := len(lines)
		for _, line := range lines[from:to] {
			lines = append(lines, line+" ", line+"!", line+"~")
		}
		from = to
	}
	for _, line := range lines {
		var want []string
		for _, part := range strings.Split(line, " ") {
			if part != "" {
				want = append(want, part)
			}
		}
		checkFields(t, line, want...)
	}
}

func TestEachByteInALine(t *testing.T) {
	for i := range 256 {
		s := string([]byte{byte(i)})
		lines := []string{s, s + "ab", "a" + s + "b", "ab" + s, "a " + s, s + " a", "  " + s + "  "}
		if i < 32 || i > 126 {
			for _, line := range lines {
				checkNoFields(t, line)
			}
			continue
		}
		if i == 32 {
			continue
		}
		checkFields(t, s, s)
		checkFields(t, s+"ab", s+"ab")
		checkFields(t, "a"+s+"b", "a"+s+"b")
		checkFields(t, "ab"+s, "ab"+s)
		checkFields(t, "a "+s, "a", s)
		checkFields(t, s+" a", s, "a")
		checkFields(t, "  "+s+"  ", s)
	}
}

func TestLinesWithInvalidBytes(t *testing.T) {
	for _, line := range []string{
		"a\tb", "a\n", "\r", "a\x00b", "\x1f", "\x7f", "\x80", "\xff", "a b \xff", "\xff a b",
		"\u00e9", "caf\u00e9 12", "a\u00a0b", "\u2003", "\u20ac", "\ufffd",
		strings.Repeat("a ", 24) + "\x01", strings.Repeat("a ", 24) + "\xff", strings.Repeat(" ", impl.MaxLineLen-1) + "\x7f",
		strings.Repeat("a ", 25) + "\x1f", "\x1f" + strings.Repeat("a", 700),
	} {
		checkNoFields(t, line)
	}
}

func TestLineLength(t *testing.T) {
	full := strings.Repeat("a", impl.MaxLineLen)
	checkFields(t, full, full)
	checkNoFields(t, full+"a")
	checkNoFields(t, full+" ")
	checkNoFields(t, " "+full)
	checkFields(t, full[1:]+" ", full[1:])
	checkFields(t, strings.Repeat(" ", impl.MaxLineLen))
	checkNoFields(t, strings.Repeat(" ", impl.MaxLineLen+1))
	checkNoFields(t, strings.Repeat(" ", 20*impl.MaxLineLen))
	wide := strings.Repeat("b", 24)
	checkFields(t, strings.Repeat(wide+" ", 24), slices.Repeat([]string{wide}, 24)...)
}

func TestNumberOfFields(t *testing.T) {
	for n := range 60 {
		fields := slices.Repeat([]string{"ab"}, n)
		line := strings.Join(fields, " ")
		for _, x := range []string{line, " " + line, line + "  ", strings.ReplaceAll(line, " ", "   ")} {
			if n <= impl.MaxFieldsPerLine {
				checkFields(t, x, fields...)
			} else {
				checkNoFields(t, x)
			}
		}
	}
	one := strings.Repeat("a ", 23)
	checkFields(t, one+"z", append(slices.Repeat([]string{"a"}, 23), "z")...)
	checkNoFields(t, one+"y z")
}

// What a caller does with one result changes no other one.
func TestFieldsAreNewMemory(t *testing.T) {
	line := "a b c"
	first, _ := impl.SplitFields(line)
	first[0] = "changed"
	_ = append(first[:1], "also changed")
	checkFields(t, line, "a", "b", "c")
	checkNoFields(t, "\x00")
	checkFields(t, line, "a", "b", "c")
}
