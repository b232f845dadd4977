package tests

import (
	"strings"
	"testing"

	"loop.example/g03316/impl"
)

func TestConstantsOfFiles(t *testing.T) {
	if impl.SegmentData != 24 || impl.MaxFile != 600 || impl.MaxNaks != 20 || impl.PartSegment != 0 || impl.PartEnd != 1 {
		t.Error("unexpected constants")
	}
}

// fileSizes are the sizes of files at and around those at which something changes.
var fileSizes = []int{0, 1, 23, 24, 25, 47, 48, 49, 576, 577, 599, 600}

// segmentsByCutting cuts a file in another way: byte by byte.
func segmentsByCutting(data string) []string {
	list := []string{}
	for i := range len(data) {
		if i%24 == 0 {
			list = append(list, "")
		}
		list[i/24] += data[i : i+1]
	}
	return list
}

func TestCountSegmentsOfKnownSizes(t *testing.T) {
	for size, want := range map[int]int{
		-1: 0, 0: 0, 1: 1, 23: 1, 24: 1, 25: 2, 47: 2, 48: 2, 49: 3, 576: 24, 577: 25, 599: 25, 600: 25, 601: 0, 602: 0, 623: 0, 624: 0, -24: 0, -600: 0,
	} {
		if got := impl.CountSegments(size); got != want {
			t.Errorf("CountSegments(%d) = %d, want %d", size, got, want)
		}
	}
}

func TestCountSegmentsOfAllSizes(t *testing.T) {
	for size := range 601 {
		if got, want := impl.CountSegments(size), len(segmentsByCutting(mixedBytes(size))); got != want {
			t.Errorf("CountSegments(%d) = %d, want %d", size, got, want)
		}
	}
	for size := 601; size < 1300; size++ {
		if got := impl.CountSegments(size) + impl.CountSegments(-size); got != 0 {
			t.Errorf("CountSegments out of range, of %d, = %d", size, got)
		}
	}
	for _, size := range farNumbers {
		if got := impl.CountSegments(size); got != 0 {
			t.Errorf("CountSegments(%d) = %d", size, got)
		}
	}
}

func checkSegmentOf(t *testing.T, data string, k int, want string) {
	t.Helper()
	if got := impl.SegmentOf(data, k); got != want {
		t.Errorf("SegmentOf of %d bytes and %d = %q, want %q", len(data), k, got, want)
	}
}

func TestSegmentOfKnownFiles(t *testing.T) {
	data := "0123456789abcdefghijklmnopqrst"
	checkSegmentOf(t, data, 0, "0123456789abcdefghijklmn")
	checkSegmentOf(t, data, 1, "opqrst")
	checkSegmentOf(t, data, 2, "")
	checkSegmentOf(t, data, -1, "")
	checkSegmentOf(t, "a", 0, "a")
	checkSegmentOf(t, "a", 1, "")
	checkSegmentOf(t, "", 0, "")
	checkSegmentOf(t, "", -1, "")
	// Bytes are counted, not characters: this segment ends within one.
	checkSegmentOf(t, "z"+strings.Repeat("\u00e9", 12), 0, "z"+strings.Repeat("\u00e9", 11)+"\xc3")
	checkSegmentOf(t, "z"+strings.Repeat("\u00e9", 12), 1, "\xa9")
	checkSegmentOf(t, allBytes(), 10, allBytes()[240:])
}

func TestSegmentOfFilesOfAllSizes(t *testing.T) {
	for size := range 601 {
		data := mixedBytes(size)
		segments := segmentsByCutting(data)
		for k, want := range segments {
			checkSegmentOf(t, data, k, want)
		}
		for _, k := range append([]int{-2, -1, len(segments), len(segments) + 1, 24 + len(segments), 25, 26}, farNumbers...) {
			if k < 0 || k >= len(segments) {
				checkSegmentOf(t, data, k, "")
			}
		}
	}
}

func TestSegmentOfTooLongFiles(t *testing.T) {
	for _, size := range []int{601, 602, 623, 624, 625, 1200, 20000, 65536 + 24} {
		for _, k := range append([]int{-1, 0, 1, 24, 25, 26, 50}, farNumbers...) {
			checkSegmentOf(t, mixedBytes(size), k, "")
		}
	}
}

// segmentText encodes a segment in another way; "" if it is not valid.
func segmentText(file, k int, data string) string {
	if !within(file, 0, 7) || !within(k, 0, 24) || !within(len(data), 1, 24) {
		return ""
	}
	return string([]byte{0, byte(file), byte(k)}) + data
}

// segmentIn reads a segment in another way.
func segmentIn(s string) (int, int, string, bool) {
	if len(s) < 4 || len(s) > 27 || s[0] != 0 || s[1] >= 8 || s[2] >= 25 {
		return 0, 0, "", false
	}
	return int(s[1]), int(s[2]), s[3:], true
}

func checkSegment(t *testing.T, file, k int, data string) {
	t.Helper()
	want := segmentText(file, k, data)
	if got := impl.EncodeSegment(file, k, data); got != want {
		t.Errorf("EncodeSegment(%d, %d, %.60q) = %.60q, want %.60q", file, k, data, got, want)
	}
	if want == "" {
		return
	}
	if f, n, d, ok := impl.DecodeSegment(want); f != file || n != k || d != data || !ok {
		t.Errorf("the segment %d, %d, %q comes back as %s", file, k, data, shown(f, n, d, ok))
	}
}

func TestEncodeKnownSegments(t *testing.T) {
	for want, got := range map[string]string{
		"\x00\x00\x00a":                    impl.EncodeSegment(0, 0, "a"),
		"\x00\x03\x01opqrst":               impl.EncodeSegment(3, 1, "opqrst"),
		"\x00\x07\x18\x00\xff":             impl.EncodeSegment(7, 24, "\x00\xff"),
		"\x00\x01\x02\x00\x00\x00":         impl.EncodeSegment(1, 2, "\x00\x00\x00"),
		"\x00\x05\x0a" + mixedBytes(24):    impl.EncodeSegment(5, 10, mixedBytes(24)),
		"\x00\x05\x0b" + allBytes()[232:]:  impl.EncodeSegment(5, 11, allBytes()[232:]),
		"\x00\x05\x0c\xc3\xa9\xe2\x82\xac": impl.EncodeSegment(5, 12, "\u00e9\u20ac"),
	} {
		if got != want {
			t.Errorf("EncodeSegment = %q, want %q", got, want)
		}
	}
}

func TestSegmentsGoBack(t *testing.T) {
	for file := range 8 {
		for k := range 25 {
			for n := 1; n <= 24; n++ {
				checkSegment(t, file, k, mixedBytes(n))
				checkSegment(t, file, k, strings.Repeat("\x00", n))
			}
		}
	}
	for at := range 256 {
		checkSegment(t, at%8, at%25, allBytes()[at:min(at+24, 256)])
	}
}

func TestSegmentsWithEachNumberOutOfRange(t *testing.T) {
	for _, n := range append(numbersAround(0, 7), 6, 255, 256, 263) {
		checkSegment(t, n, 0, "a")
		checkSegment(t, n, 24, mixedBytes(24))
	}
	for _, n := range append(numbersAround(0, 24), 23, 255, 256, 280) {
		checkSegment(t, 0, n, "a")
		checkSegment(t, 7, n, mixedBytes(24))
	}
	for _, n := range append(dataLengths(), 600, 601, 65535, 65537) {
		checkSegment(t, 0, 0, mixedBytes(n))
		checkSegment(t, 7, 24, mixedBytes(n))
		checkSegment(t, 3, 11, strings.Repeat("\x00", n))
	}
	// Bytes are counted, not characters.
	checkSegment(t, 1, 1, strings.Repeat("\u20ac", 8))
	checkSegment(t, 1, 1, strings.Repeat("\u20ac", 8)+"z")
	checkSegment(t, 1, 1, strings.Repeat("\u20ac", 9))
}

// checkPartText checks what each function that reads a part or a list makes of a text.
func checkPartText(t *testing.T, s string) {
	t.Helper()
	file, k, data, ok := segmentIn(s)
	if f, n, d, read := impl.DecodeSegment(s); f != file || n != k || d != data || read != ok {
		t.Errorf("DecodeSegment(%.60q) = %s, want %s", s, shown(f, n, d, read), shown(file, k, data, ok))
	}
	file, size, check, ok := endIn(s)
	if f, n, c, read := impl.DecodeEnd(s); f != file || n != size || c != check || read != ok {
		t.Errorf("DecodeEnd(%.60q) = %s, want %s", s, shown(f, n, c, read), shown(file, size, check, ok))
	}
	checkListText(t, s)
}

func TestTextsOfParts(t *testing.T) {
	for _, s := range []string{
		"\x00\x00\x00a", "\x00\x07\x18" + mixedBytes(24), "\x00\x03\x05abc", "\x00\x01\x01\x00\x00\x00", "\x00\x07\x00" + mixedBytes(23),
		"\x01\x00\x00\x00\xff\xff", "\x01\x07\x02\x58\x12\x34", "\x01\x03\x01\xff\x00\x00", "\x01\x07\x02\x00\xff\xff",
		"\x00", "\x07", "\x03\x00", "\x05\x18\x17\x00", "\x07" + strings.Repeat("\x18", 20), "\x00" + strings.Repeat("\x00", 20), "\x01\x05\x05\x05\x05\x05",
	} {
		checkPartText(t, s)
		for at := range len(s) {
			checkPartText(t, s[:at])
			checkPartText(t, s[at:])
			checkPartText(t, s[:at]+s[at+1:])
			checkPartText(t, s[:at]+"\x00"+s[at:])
			checkPartText(t, s[:at]+"\xff"+s[at:])
			for by := range 256 {
				checkPartText(t, changed(s, at, by))
			}
		}
		for b := range 256 {
			checkPartText(t, s+string([]byte{byte(b)}))
		}
	}
}

func TestShortAndLongTextsOfParts(t *testing.T) {
	for _, s := range sampleTexts() {
		checkPartText(t, s)
	}
	for a := range 256 {
		checkPartText(t, string([]byte{byte(a)}))
		for b := range 256 {
			checkPartText(t, string([]byte{byte(a), byte(b)}))
			checkPartText(t, string([]byte{byte(a), byte(b), 24}))
			checkPartText(t, string([]byte{0, byte(a), byte(b), 25}))
			checkPartText(t, string([]byte{1, byte(a), byte(b), 0, 0, 0}))
			checkPartText(t, string([]byte{1, 7, byte(a), byte(b), 255, 255}))
		}
	}
	for _, n := range append(dataLengths(), 600, 20000) {
		for _, head := range []string{"", "\x00\x00\x00", "\x00\x07\x18", "\x01\x07\x02", "\x01\x00\x00\x18"} {
			checkPartText(t, head+mixedBytes(n))
			checkPartText(t, head+strings.Repeat("\x00", n))
			checkPartText(t, head+strings.Repeat("\x18", n))
		}
	}
}
