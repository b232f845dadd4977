package tests

import (
	"math"
	"testing"

	"loop.example/g03316/impl"
)

func checkPutWord(t *testing.T, n, size int, want string) {
	t.Helper()
	if got := impl.PutWord(n, size); got != want {
		t.Errorf("PutWord(%d, %d) = %q, want %q", n, size, got, want)
	}
}

func checkGetWord(t *testing.T, s string, at, size, want int, wantOk bool) {
	t.Helper()
	if got, ok := impl.GetWord(s, at, size); got != want || ok != wantOk {
		t.Errorf("GetWord(%.40q of %d bytes, %d, %d) = %d, %v, want %d, %v", s, len(s), at, size, got, ok, want, wantOk)
	}
}

func TestPutWordOfKnownNumbers(t *testing.T) {
	checkPutWord(t, 0, 1, "\x00")
	checkPutWord(t, 0, 2, "\x00\x00")
	checkPutWord(t, 0, 3, "\x00\x00\x00")
	checkPutWord(t, 0, 4, "\x00\x00\x00\x00")
	checkPutWord(t, 1, 4, "\x00\x00\x00\x01")
	checkPutWord(t, 128, 1, "\x80")
	checkPutWord(t, 258, 2, "\x01\x02")
	checkPutWord(t, 258, 3, "\x00\x01\x02")
	checkPutWord(t, 0x010203, 3, "\x01\x02\x03")
	checkPutWord(t, 0x01020304, 4, "\x01\x02\x03\x04")
	checkPutWord(t, 0xfedcba98, 4, "\xfe\xdc\xba\x98")
	checkPutWord(t, 0x80000000, 4, "\x80\x00\x00\x00")
	checkPutWord(t, 0xc3a9, 2, "\u00e9")
}

func TestGreatestWordOfEachSize(t *testing.T) {
	all := "\xff\xff\xff\xff"
	zero := "\x00\x00\x00\x00"
	for size := 1; size <= 4; size++ {
		greatest := 1<<(8*size) - 1
		checkPutWord(t, greatest, size, all[:size])
		checkPutWord(t, greatest-1, size, all[:size-1]+"\xfe")
		checkPutWord(t, greatest+1, size, "")
		checkPutWord(t, greatest+2, size, "")
		checkPutWord(t, 2*greatest, size, "")
		checkPutWord(t, 1<<(8*size+8), size, "")
		checkGetWord(t, all, 0, size, greatest, true)
		checkGetWord(t, all, 4-size, size, greatest, true)
		checkGetWord(t, zero, 0, size, 0, true)
		if size < 4 {
			checkPutWord(t, greatest+1, size+1, "\x01"+zero[:size])
		}
	}
	checkPutWord(t, impl.MaxWord, 4, all)
	checkPutWord(t, impl.MaxWord, 3, "")
	checkPutWord(t, impl.MaxWord+1, 4, "")
}

func TestPutWordOutOfRange(t *testing.T) {
	for _, size := range append([]int{0, 5, 6, 7, 8, -2, -4}, farNumbers...) {
		for _, n := range []int{0, 1, 255, 256, impl.MaxWord, impl.MaxWord + 1, -1} {
			checkPutWord(t, n, size, "")
		}
	}
	for size := 1; size <= 4; size++ {
		for _, n := range append([]int{-2, -255, -256}, farNumbers...) {
			checkPutWord(t, n, size, "")
		}
	}
}

func TestGetWordOfKnownStrings(t *testing.T) {
	s := "\x00\x01\x02\xfd\xfe\xff"
	checkGetWord(t, s, 0, 1, 0, true)
	checkGetWord(t, s, 3, 1, 253, true)
	checkGetWord(t, s, 1, 2, 258, true)
	checkGetWord(t, s, 2, 3, 0x02fdfe, true)
	checkGetWord(t, s, 0, 4, 0x000102fd, true)
	checkGetWord(t, s, 2, 4, 0x02fdfeff, true)
	checkGetWord(t, "\x80\x00\x00\x00", 0, 4, 0x80000000, true)
	checkGetWord(t, "a\u00e9", 1, 2, 0xc3a9, true)
}

func TestWordsAtTheEndOfAString(t *testing.T) {
	for n := range 12 {
		s := allBytes()[:n]
		for size := 1; size <= 4; size++ {
			for at := -6; at < n+6; at++ {
				want := 0
				is := at >= 0 && at+size <= n
				if is {
					for _, b := range []byte(s[at : at+size]) {
						want = want*256 + int(b)
					}
				}
				checkGetWord(t, s, at, size, want, is)
			}
		}
	}
}

func TestGetWordOutOfRange(t *testing.T) {
	s := "\x01\x02\x03\x04\x05\x06\x07\x08\x09"
	for _, size := range append([]int{0, 5, 6, 8, 9, 10, -2, -4}, farNumbers...) {
		for _, at := range []int{0, 1, 4, 9, -1, math.MaxInt64, math.MinInt64} {
			checkGetWord(t, s, at, size, 0, false)
			checkGetWord(t, "", at, size, 0, false)
		}
	}
	for size := 1; size <= 4; size++ {
		for _, at := range append([]int{9, 10, -2, -4, math.MaxInt64 - 2, math.MaxInt64 - 3}, farNumbers...) {
			checkGetWord(t, s, at, size, 0, false)
			checkGetWord(t, "", at, size, 0, false)
		}
	}
}

func TestWordsGoBack(t *testing.T) {
	list := []int{0, 1, 127, 128, 255}
	for n := 256; n <= impl.MaxWord; n = n*3/2 + 1 {
		list = append(list, n)
	}
	for _, n := range append(list, impl.MaxWord) {
		for size := 1; size <= 4; size++ {
			w := impl.PutWord(n, size)
			if n >= 1<<(8*size) {
				checkPutWord(t, n, size, "")
				continue
			}
			if len(w) != size {
				t.Errorf("PutWord(%d, %d) has %d bytes", n, size, len(w))
			}
			checkGetWord(t, w, 0, size, n, true)
			checkGetWord(t, "\xff\u00e9"+w+"\xff", 3, size, n, true)
		}
	}
	for n := range 65536 {
		checkGetWord(t, impl.PutWord(n, 2), 0, 2, n, true)
	}
}
