package tests

import (
	"strings"
	"testing"

	"loop.example/g03316/impl"
)

// spreadTexts returns strings of every length up to some dozens of bytes, and of the greatest
// length of a coded block, one byte around it, and far longer ones.
func spreadTexts() []string {
	list := append(sampleTexts(), "\x01\x00", "\x02\x00", "\x80\x01")
	for n := range 80 {
		list = append(list, mixedBytes(n), strings.Repeat("\xff", n), strings.Repeat("\x00", n))
	}
	for _, n := range []int{2*impl.MaxBlock - 1, 2 * impl.MaxBlock, 2*impl.MaxBlock + 1, 20001} {
		list = append(list, mixedBytes(n))
	}
	return list
}

// bitsMoved computes SpreadBits in another way: the bits are written as a list, place by place.
func bitsMoved(s string) string {
	n := len(s)
	line := make([]byte, 8*n)
	for m := range n {
		for k := range 8 {
			line[k*n+m] = s[m] >> k % 2
		}
	}
	spread := make([]byte, n)
	for p, bit := range line {
		spread[p/8] += bit << (p % 8)
	}
	return string(spread)
}

func TestSpreadBitsOfKnownStrings(t *testing.T) {
	for s, want := range map[string]string{
		"":                     "",
		"\x01":                 "\x01",
		"\xa7":                 "\xa7",
		"\x01\x00":             "\x01\x00",
		"\x02\x00":             "\x04\x00",
		"\x80\x01":             "\x02\x40",
		"\x02\x00\x00":         "\x08\x00\x00",
		"abc":                  "\x35\x80\x1f",
		"\xff\x00\x00\x00":     "\x11\x11\x11\x11",
		"\xf0\x0f\xaa\x55\x01": "\xda\x28\x93\x4a\x2a",
	} {
		if got := impl.SpreadBits(s); got != want {
			t.Errorf("SpreadBits(%q) = %q, want %q", s, got, want)
		}
		if got := impl.GatherBits(want); got != s {
			t.Errorf("GatherBits(%q) = %q, want %q", want, got, s)
		}
	}
}

func TestSpreadBitsOfAllLengths(t *testing.T) {
	for _, s := range spreadTexts() {
		spread := impl.SpreadBits(s)
		if want := bitsMoved(s); spread != want {
			t.Errorf("SpreadBits(%.40q of %d bytes) = %.40q, want %.40q", s, len(s), spread, want)
		}
		if got := impl.GatherBits(spread); got != s {
			t.Errorf("GatherBits(%.40q of %d bytes) = %.40q, want %.40q", spread, len(s), got, s)
		}
		if got := impl.SpreadBits(impl.GatherBits(s)); got != s {
			t.Errorf("SpreadBits of GatherBits(%.40q of %d bytes) = %.40q", s, len(s), got)
		}
	}
}

// Each single bit of a string comes to its own place.
func TestSpreadBitsOfEachSingleBit(t *testing.T) {
	for _, n := range []int{1, 2, 3, 7, 8, 9, 16, 31, 2 * impl.MaxBlock} {
		zeros := strings.Repeat("\x00", n)
		for m := range n {
			for k := range 8 {
				s := changed(zeros, m, 1<<k)
				p := k*n + m
				want := changed(zeros, p/8, 1<<(p%8))
				if got := impl.SpreadBits(s); got != want {
					t.Errorf("SpreadBits of bit %d of byte %d of %d bytes = %q", k, m, n, got)
				}
				if got := impl.GatherBits(want); got != s {
					t.Errorf("GatherBits of the place %d of %d bytes = %q", p, n, got)
				}
			}
		}
	}
}

// scrambleSequence returns n elements of the sequence, each computed bit by bit.
func scrambleSequence(n int) []byte {
	list := make([]byte, 0, n)
	x := 255
	for range n {
		list = append(list, byte(x))
		x = x*2%256 + (x>>7+x>>4+x>>2+x)%2
	}
	return list
}

func TestScrambleOfKnownStrings(t *testing.T) {
	for s, want := range map[string]string{
		"":                             "",
		"\x00":                         "\xff",
		"\xff":                         "\x00",
		"\x00\x00":                     "\xff\xfe",
		"\xff\xfe\xfd\xfa":             "\x00\x00\x00\x00",
		"az":                           "\x9e\x84",
		"\u00e9\u20ac":                 "\x3c\x57\x1f\x78\x58",
		strings.Repeat("\x00", 24):     "\xff\xfe\xfd\xfa\xf4\xe9\xd2\xa4\x48\x90\x20\x40\x80\x01\x03\x07\x0e\x1d\x3b\x76\xec\xd8\xb0\x60",
		strings.Repeat("\xff\x00", 10): "\x00\xfe\x02\xfa\x0b\xe9\x2d\xa4\xb7\x90\xdf\x40\x7f\x01\xfc\x07\xf1\x1d\xc4\x76",
	} {
		if got := impl.Scramble(s); got != want {
			t.Errorf("Scramble(%q) = %q, want %q", s, got, want)
		}
	}
}

func TestScrambleOfAllLengths(t *testing.T) {
	for _, s := range spreadTexts() {
		want := scrambleSequence(len(s))
		for i := range want {
			want[i] ^= s[i]
		}
		scrambled := impl.Scramble(s)
		if scrambled != string(want) {
			t.Errorf("Scramble(%.40q of %d bytes) = %.40q, want %.40q", s, len(s), scrambled, want)
		}
		if got := impl.Scramble(scrambled); got != s {
			t.Errorf("Scramble(%.40q of %d bytes) = %.40q, want %.40q", scrambled, len(s), got, s)
		}
	}
}
