package tests

import (
	"strings"
	"testing"

	"loop.example/g03316/impl"
)

func checkEncodeHex(t *testing.T, s, want string, wantOk bool) {
	t.Helper()
	if got, ok := impl.EncodeHex(s); got != want || ok != wantOk {
		t.Errorf("EncodeHex(%.40q of %d bytes) = %.40q, %v, want %.40q, %v", s, len(s), got, ok, want, wantOk)
	}
}

func checkDecodeHex(t *testing.T, s, want string, wantOk bool) {
	t.Helper()
	if got, ok := impl.DecodeHex(s); got != want || ok != wantOk {
		t.Errorf("DecodeHex(%.40q of %d bytes) = %.40q, %v, want %.40q, %v", s, len(s), got, ok, want, wantOk)
	}
}

func TestHexOfKnownStrings(t *testing.T) {
	for _, c := range [][2]string{
		{"", ""},
		{"az", "617a"},
		{"\x00", "00"},
		{"\x01\x23\x45\x67\x89\xab\xcd\xef", "0123456789abcdef"},
		{"\x0f\xf0", "0ff0"},
		{"\u00e9\xff", "c3a9ff"},
		{"\u20ac\ufffd", "e282acefbfbd"},
	} {
		checkEncodeHex(t, c[0], c[1], true)
		checkDecodeHex(t, c[1], c[0], true)
	}
}

func TestHexGoesBackForAllKindsOfStrings(t *testing.T) {
	for _, s := range sampleTexts() {
		h, ok := impl.EncodeHex(s)
		if !ok || len(h) != 2*len(s) {
			t.Errorf("EncodeHex(%.40q) = %.40q, %v", s, h, ok)
		}
		checkDecodeHex(t, h, s, true)
	}
}

func TestHexLimits(t *testing.T) {
	long := mixedBytes(impl.MaxInputLen)
	h, ok := impl.EncodeHex(long)
	if !ok || len(h) != 2*impl.MaxInputLen {
		t.Fatalf("EncodeHex of %d bytes gives %d digits, %v", len(long), len(h), ok)
	}
	checkDecodeHex(t, h, long, true)
	checkEncodeHex(t, long+"\x00", "", false)
	checkEncodeHex(t, strings.Repeat("a", 2*impl.MaxInputLen), "", false)
	checkDecodeHex(t, h+"0", "", false)
	checkDecodeHex(t, h+"00", "", false)
	checkDecodeHex(t, h+h, "", false)
	checkDecodeHex(t, h[1:], "", false)
	checkDecodeHex(t, h[:len(h)-2]+"0g", "", false)
}

// Of all strings of two bytes, those and only those that EncodeHex writes can be decoded.
func TestDecodeHexOfAllStringsOfTwoBytes(t *testing.T) {
	of := map[string]string{}
	for i := range 256 {
		s := string([]byte{byte(i)})
		h, _ := impl.EncodeHex(s)
		of[h] = s
	}
	if len(of) != 256 {
		t.Errorf("the 256 bytes have %d encodings", len(of))
	}
	for i := range 65536 {
		h := string([]byte{byte(i >> 8), byte(i)})
		s, is := of[h]
		checkDecodeHex(t, h, s, is)
	}
}

func TestDecodeHexOfInvalidStrings(t *testing.T) {
	for _, s := range []string{
		"6", "617", "617a6", "g", " ", "\xff",
		"6A", "A6", "617A", "AZ", "6g", "g6", "617g", "g17a", "61g761",
		"0x61", " 617a", "617a ", "61 7a", "61\n7a", "61-1", "+617", "\x00\x00", "\xff\xff", "\u00e9", "61\u00e9",
		"\uff16\uff11",
	} {
		checkDecodeHex(t, s, "", false)
	}
}
