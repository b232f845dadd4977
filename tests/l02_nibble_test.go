package tests

import (
	"math/bits"
	"testing"

	"loop.example/g03316/impl"
)

// knownWords are the code words of the numbers from 0 to 15.
var knownWords = [16]int{0, 135, 153, 30, 170, 45, 51, 180, 75, 204, 210, 85, 225, 102, 120, 255}

func checkDecodeNibble(t *testing.T, w, want, wantDiffering int) {
	t.Helper()
	if n, differing := impl.DecodeNibble(w); n != want || differing != wantDiffering {
		t.Errorf("DecodeNibble(%d) = %d, %d, want %d, %d", w, n, differing, want, wantDiffering)
	}
}

// sumsOfBits computes the bits of a code word one by one, as the document lists them.
func sumsOfBits(n int) int {
	d0, d1, d2, d3 := n%2, n/2%2, n/4%2, n/8
	list := []int{d0 + d1 + d3, d0 + d2 + d3, d0, d1 + d2 + d3, d1, d2, d3}
	word, sum := 0, 0
	for i, bit := range list {
		word += bit % 2 << i
		sum += bit % 2
	}
	return word + sum%2<<7
}

func TestEncodeNibbleOfAllNumbers(t *testing.T) {
	for n, want := range knownWords {
		if got := impl.EncodeNibble(n); got != want || want != sumsOfBits(n) {
			t.Errorf("EncodeNibble(%d) = %d, want %d", n, got, want)
		}
	}
}

func TestEncodeNibbleOutOfRange(t *testing.T) {
	list := append([]int{-2, -8, -15, -16, 256, 65536}, farNumbers...)
	for n := 16; n < 256; n++ {
		list = append(list, n)
	}
	for _, n := range list {
		if got := impl.EncodeNibble(n); got != -1 {
			t.Errorf("EncodeNibble(%d) = %d, want -1", n, got)
		}
	}
}

func TestDecodeNibbleOfWordsWithEveryOneOrTwoBitsChanged(t *testing.T) {
	for n := range 16 {
		word := impl.EncodeNibble(n)
		checkDecodeNibble(t, word, n, 0)
		for i := range 8 {
			checkDecodeNibble(t, word^1<<i, n, 1)
			for j := range i {
				checkDecodeNibble(t, word^1<<i^1<<j, -1, 2)
			}
		}
	}
}

// All numbers of 8 bits: 16 are code words, 128 are next to one, and 112 are next to none.
func TestDecodeNibbleOfAllNumbers(t *testing.T) {
	count := map[int]int{}
	for w := range 256 {
		want, wantDiffering := -1, 2
		for n, word := range knownWords {
			if ones := bits.OnesCount(uint(w ^ word)); ones < 2 {
				want, wantDiffering = n, ones
			}
		}
		checkDecodeNibble(t, w, want, wantDiffering)
		count[wantDiffering]++
	}
	if count[0] != 16 || count[1] != 128 || count[2] != 112 {
		t.Errorf("numbers by their differing bits: %v", count)
	}
}

func TestDecodeNibbleOutOfRange(t *testing.T) {
	list := append([]int{-2, -128, -135, -255, -256, 256, 257, 65536}, farNumbers...)
	for _, word := range knownWords {
		list = append(list, word+256, word-256, word+1<<32)
	}
	for _, w := range list {
		checkDecodeNibble(t, w, -1, 2)
	}
}
