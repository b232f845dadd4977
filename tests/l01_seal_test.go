package tests

import (
	"strings"
	"testing"

	"loop.example/g03316/impl"
)

func checkOpenText(t *testing.T, s, want string, wantOk bool) {
	t.Helper()
	if got, ok := impl.OpenText(s); got != want || ok != wantOk {
		t.Errorf("OpenText(%.40q of %d bytes) = %.40q, %v, want %.40q, %v", s, len(s), got, ok, want, wantOk)
	}
}

// remainder computes the check in another way: the bits of the string, its first 16 inverted
// and 16 zeros behind it, divided by the polynomial of the 17 bits 65536 + 4129.
func remainder(s string) int {
	list := append([]byte(s), 0, 0)
	list[0] ^= 255
	list[1] ^= 255
	rest := 0
	for _, b := range list {
		for bit := 7; bit >= 0; bit-- {
			rest = rest*2 + int(b)>>bit%2
			if rest >= 65536 {
				rest ^= 65536 + 4129
			}
		}
	}
	return rest
}

func TestCheckOfKnownStrings(t *testing.T) {
	for s, want := range map[string]int{
		"":                             65535,
		"\x00":                         57840,
		"\xff":                         65280,
		"a":                            40311,
		"az":                           64201,
		"123456789":                    10673,
		"\u00e9\u20ac\U0001f600\ufffd": 6487,
		"\xc3(\xe2\x82\xff":            54192,
		strings.Repeat("\x00", 40):     34265,
		allBytes():                     16317,
		strings.Repeat(allBytes(), 80): 135,
	} {
		if got := impl.CheckOf(s); got != want {
			t.Errorf("CheckOf(%.40q of %d bytes) = %d, want %d", s, len(s), got, want)
		}
	}
}

func TestCheckOfAllKindsOfStrings(t *testing.T) {
	list := append(sampleTexts(), mixedBytes(30000))
	for i := range 65536 {
		list = append(list, string([]byte{byte(i >> 8), byte(i)}))
	}
	for _, s := range list {
		if got, want := impl.CheckOf(s), remainder(s); got != want {
			t.Errorf("CheckOf(%.40q of %d bytes) = %d, want %d", s, len(s), got, want)
		}
	}
}

func TestSealTextOfKnownStrings(t *testing.T) {
	for s, want := range map[string]string{
		"":                             "\xff\xff",
		"\x00":                         "\x00\xe1\xf0",
		"\xff":                         "\xff\xff\x00",
		"az":                           "az\xfa\xc9",
		"123456789":                    "123456789\x29\xb1",
		strings.Repeat(allBytes(), 80): strings.Repeat(allBytes(), 80) + "\x00\x87",
	} {
		if got := impl.SealText(s); got != want {
			t.Errorf("SealText(%.40q of %d bytes) = %.40q, want %.40q", s, len(s), got, want)
		}
		checkOpenText(t, want, s, true)
	}
}

func TestSealedTextsCanBeOpened(t *testing.T) {
	long := mixedBytes(impl.MaxInputLen + 1)
	for _, s := range append(sampleTexts(), long, strings.Repeat("\u20ac", 30000)) {
		sealed := impl.SealText(s)
		if len(sealed) != len(s)+2 || !strings.HasPrefix(sealed, s) {
			t.Errorf("SealText(%.40q) = %.40q", s, sealed)
		}
		checkOpenText(t, sealed, s, true)
		checkOpenText(t, impl.SealText(sealed), sealed, true)
	}
}

func TestTooShortTextsCannotBeOpened(t *testing.T) {
	checkOpenText(t, "", "", false)
	for i := range 256 {
		checkOpenText(t, string([]byte{byte(i)}), "", false)
	}
}

// Of all strings of two bytes, only the sealed empty string can be opened.
func TestOpenTextOfAllStringsOfTwoBytes(t *testing.T) {
	for i := range 65536 {
		checkOpenText(t, string([]byte{byte(i >> 8), byte(i)}), "", i == 65535)
	}
}

// changed returns a string in which the byte at one index is another one.
func changed(s string, at, by int) string {
	list := []byte(s)
	list[at] ^= byte(by)
	return string(list)
}

func TestChangedByteIsFound(t *testing.T) {
	texts := append(sampleTexts(), "set 3 65535", impl.SealText("twice"))
	for _, s := range texts {
		if len(s) > 256 {
			continue
		}
		sealed := impl.SealText(s)
		for at := range len(sealed) {
			for by := 1; by < 256; by++ {
				checkOpenText(t, changed(sealed, at, by), "", false)
			}
		}
	}
}

func TestChangedByteOfALongTextIsFound(t *testing.T) {
	sealed := impl.SealText(mixedBytes(8000))
	for at := 0; at < len(sealed); at += 61 {
		for by := 1; by < 256; by += 14 {
			checkOpenText(t, changed(sealed, at, by), "", false)
		}
	}
	for _, at := range []int{0, len(sealed) - 3, len(sealed) - 2, len(sealed) - 1} {
		checkOpenText(t, changed(sealed, at, 128), "", false)
		checkOpenText(t, changed(sealed, at, 1), "", false)
	}
}

func TestSwappedOrMissingCheckIsFound(t *testing.T) {
	checkOpenText(t, "az\xc9\xfa", "", false)
	checkOpenText(t, "az", "", false)
	checkOpenText(t, "az\xfa", "", false)
	checkOpenText(t, "\xfa\xc9az", "", false)
	checkOpenText(t, "az\xfa\xc9\xff", "", false)
	checkOpenText(t, "az\x00\xfa\xc9", "", false)
}
