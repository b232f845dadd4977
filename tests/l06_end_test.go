package tests

import (
	"slices"
	"strings"
	"testing"

	"loop.example/g03316/impl"
)

// endText encodes the end of a file in another way; "" if it is not valid.
func endText(file int, data string) string {
	if !within(file, 0, 7) || len(data) > 600 {
		return ""
	}
	check := remainder(data)
	return string([]byte{1, byte(file), byte(len(data) / 256), byte(len(data) % 256), byte(check / 256), byte(check % 256)})
}

// endIn reads the end of a file in another way.
func endIn(s string) (int, int, int, bool) {
	if len(s) != 6 || s[0] != 1 || s[1] >= 8 || int(s[2])*256+int(s[3]) >= 601 {
		return 0, 0, 0, false
	}
	return int(s[1]), int(s[2])*256 + int(s[3]), int(s[4])*256 + int(s[5]), true
}

func checkEnd(t *testing.T, file int, data string) {
	t.Helper()
	want := endText(file, data)
	if got := impl.EncodeEnd(file, data); got != want {
		t.Errorf("EncodeEnd(%d, %.60q) = %q, want %q", file, data, got, want)
	}
	if want == "" {
		return
	}
	if f, size, check, ok := impl.DecodeEnd(want); f != file || size != len(data) || check != remainder(data) || !ok {
		t.Errorf("the end of %d, %.60q comes back as %s", file, data, shown(f, size, check, ok))
	}
}

func TestEncodeKnownEnds(t *testing.T) {
	for want, got := range map[string]string{
		"\x01\x00\x00\x00\xff\xff": impl.EncodeEnd(0, ""),
		"\x01\x07\x00\x00\xff\xff": impl.EncodeEnd(7, ""),
		"\x01\x03\x00\x09\x29\xb1": impl.EncodeEnd(3, "123456789"),
	} {
		if got != want {
			t.Errorf("EncodeEnd = %q, want %q", got, want)
		}
	}
}

func TestEndsOfFilesOfAllSizes(t *testing.T) {
	for size := range 604 {
		checkEnd(t, size%8, mixedBytes(size))
		checkEnd(t, 7-size%8, strings.Repeat("\x00", size))
	}
	for _, size := range []int{605, 65535, 65536, 65537, 65536 + 600} {
		checkEnd(t, 0, mixedBytes(size))
	}
	for _, s := range sampleTexts() {
		checkEnd(t, 5, s)
	}
	// Bytes are counted, not characters.
	checkEnd(t, 1, strings.Repeat("\u20ac", 200))
	checkEnd(t, 1, strings.Repeat("\u20ac", 201))
}

func TestEndsOfFilesOutOfRange(t *testing.T) {
	for _, n := range append(numbersAround(0, 7), 6, 255, 256, 263) {
		for _, size := range []int{0, 1, 24, 25, 600, 601} {
			checkEnd(t, n, mixedBytes(size))
		}
	}
}

// An end with a length and a check that no file has is read like any other one.
func TestDecodeEndsOfAllLengths(t *testing.T) {
	for size := range 65536 {
		s := string([]byte{1, byte(size % 8), byte(size / 256), byte(size % 256), byte(size % 251), byte(size % 7)})
		checkPartText(t, s)
	}
	for check := range 65536 {
		s := string([]byte{1, 4, 0, 0, byte(check / 256), byte(check % 256)})
		if f, n, c, ok := impl.DecodeEnd(s); f != 4 || n != 0 || c != check || !ok {
			t.Fatalf("DecodeEnd(%q) = %s", s, shown(f, n, c, ok))
		}
	}
}

// listText encodes a list of missing segments in another way; "" if it is not valid.
func listText(file int, list []int) string {
	if !within(file, 0, 7) || len(list) >= 21 {
		return ""
	}
	s := []byte{byte(file)}
	for _, k := range list {
		if !within(k, 0, 24) {
			return ""
		}
		s = append(s, byte(k))
	}
	return string(s)
}

// listIn reads a list of missing segments in another way.
func listIn(s string) (int, []int, bool) {
	if len(s) < 1 || len(s) > 21 || s[0] >= 8 {
		return 0, nil, false
	}
	list := []int{}
	for at := 1; at < len(s); at++ {
		if s[at] >= 25 {
			return 0, nil, false
		}
		list = append(list, int(s[at]))
	}
	return int(s[0]), list, true
}

func checkListText(t *testing.T, s string) {
	t.Helper()
	file, list, ok := listIn(s)
	if f, got, read := impl.DecodeMissing(s); f != file || !slices.Equal(got, list) || read != ok {
		t.Errorf("DecodeMissing(%.60q) = %s, want %s", s, shown(f, got, read), shown(file, list, ok))
	}
}

func checkList(t *testing.T, file int, list ...int) {
	t.Helper()
	want := listText(file, list)
	if got := impl.EncodeMissing(file, list); got != want {
		t.Errorf("EncodeMissing(%d, %v) = %q, want %q", file, list, got, want)
	}
	if want == "" {
		return
	}
	if f, got, ok := impl.DecodeMissing(want); f != file || !slices.Equal(got, list) || !ok {
		t.Errorf("the list %d, %v comes back as %s", file, list, shown(f, got, ok))
	}
}

// drawnList returns a list of n random numbers of segments.
func drawnList(state, n int) []int {
	list := make([]int, n)
	for i := range list {
		state, list[i] = draw(state, 25)
	}
	return list
}

func TestEncodeKnownLists(t *testing.T) {
	for want, got := range map[string]string{
		"\x00":                         impl.EncodeMissing(0, nil),
		"\x07":                         impl.EncodeMissing(7, []int{}),
		"\x03\x00":                     impl.EncodeMissing(3, []int{0}),
		"\x03\x18\x00\x18\x05\x05\x04": impl.EncodeMissing(3, []int{24, 0, 24, 5, 5, 4}),
	} {
		if got != want {
			t.Errorf("EncodeMissing = %q, want %q", got, want)
		}
	}
}

func TestListsOfAllLengths(t *testing.T) {
	for n := range 24 {
		for file := range 8 {
			checkList(t, file, drawnList(99*n+file, n)...)
			checkList(t, file, slices.Repeat([]int{file * 3}, n)...)
			checkList(t, file, upTo(n)...)
		}
	}
	for _, n := range []int{25, 26, 255, 256, 257, 276, 20000} {
		checkList(t, 0, drawnList(n, n)...)
		checkList(t, 7, make([]int, n)...)
	}
}

func TestListsWithEachNumberOutOfRange(t *testing.T) {
	for _, n := range append(numbersAround(0, 7), 6, 255, 256, 263) {
		checkList(t, n)
		checkList(t, n, 0)
		checkList(t, n, drawnList(5, 20)...)
		checkList(t, n, drawnList(5, 21)...)
	}
	for _, n := range append(numbersAround(0, 24), 23, 255, 256, 280) {
		checkList(t, 0, n)
		checkList(t, 7, 0, n)
		for at := range 20 {
			list := drawnList(at, 20)
			list[at] = n
			checkList(t, at%8, list...)
		}
	}
}

func TestListsShareNoMemory(t *testing.T) {
	for _, x := range [][]int{nil, {3}, {3, 3, 24}, drawnList(4, 20), drawnList(4, 21), {-1}, {0, 25}} {
		list, asBefore := guarded(x, 71, 72, 73)
		s := impl.EncodeMissing(6, list)
		_, got, _ := impl.DecodeMissing(s)
		_, again, _ := impl.DecodeMissing(s)
		overwrite(got, -9)
		if s != "" && !slices.Equal(again, x) || !asBefore() {
			t.Errorf("the list %v shares its memory", x)
		}
	}
}
