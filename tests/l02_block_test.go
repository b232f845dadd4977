package tests

import (
	"strings"
	"testing"

	"loop.example/g03316/impl"
)

// blockTexts returns strings of the lengths that a block can hold, with bytes of all kinds.
func blockTexts() []string {
	list := []string{"\x00", "\xff", "A", "hi", "\u00e9z", "\xf0\x9f\x98", impl.SyncMark, strings.Repeat("\xff", impl.MaxBlock)}
	list = append(list, allBytes()[:impl.MaxBlock], allBytes()[256-impl.MaxBlock:], mixedBytes(impl.MaxBlock), mixedBytes(impl.MaxBlock-1))
	for n := 1; n <= 40; n++ {
		list = append(list, mixedBytes(n))
	}
	return list
}

func checkDecodeBlock(t *testing.T, s, want string, wantBits int, wantOk bool) {
	t.Helper()
	if got, bits, ok := impl.DecodeBlock(s); got != want || bits != wantBits || ok != wantOk {
		t.Errorf("DecodeBlock(%.40q of %d bytes) = %.40q, %d, %v, want %.40q, %d, %v", s, len(s), got, bits, ok, want, wantBits, wantOk)
	}
}

func checkReadBlock(t *testing.T, s, want string, wantBits int, wantOk bool) {
	t.Helper()
	if got, bits, ok := impl.ReadBlock(s); got != want || bits != wantBits || ok != wantOk {
		t.Errorf("ReadBlock(%.40q of %d bytes) = %.40q, %d, %v, want %.40q, %d, %v", s, len(s), got, bits, ok, want, wantBits, wantOk)
	}
}

// wordsOf returns the code words of the bytes of a string of any length.
func wordsOf(s string) string {
	list := []byte{}
	for i := range len(s) {
		list = append(list, byte(knownWords[s[i]/16]), byte(knownWords[s[i]%16]))
	}
	return string(list)
}

func TestEncodeBlockOfKnownStrings(t *testing.T) {
	for s, want := range map[string]string{
		"":         "",
		"A":        "\xaa\x87",
		"hi":       "\x33\x4b\x33\xcc",
		"\x00":     "\x00\x00",
		"\x0f":     "\x00\xff",
		"\xff\x00": "\xff\xff\x00\x00",
		"\u00e9z":  "\xe1\x1e\xd2\xcc\xb4\xd2",
	} {
		if got := impl.EncodeBlock(s); got != want {
			t.Errorf("EncodeBlock(%q) = %q, want %q", s, got, want)
		}
	}
}

func TestEncodedBlocksCanBeDecoded(t *testing.T) {
	for _, s := range append(blockTexts(), "") {
		words := impl.EncodeBlock(s)
		if words != wordsOf(s) {
			t.Errorf("EncodeBlock(%.40q of %d bytes) = %.40q", s, len(s), words)
		}
		checkDecodeBlock(t, words, s, 0, true)
	}
	for i := range 256 {
		s := string([]byte{byte(i)})
		checkDecodeBlock(t, impl.EncodeBlock(s), s, 0, true)
	}
}

func TestTooLongBlocks(t *testing.T) {
	for _, n := range []int{impl.MaxBlock + 1, impl.MaxBlock + 2, 2 * impl.MaxBlock, 20000} {
		s := mixedBytes(n)
		if got := impl.EncodeBlock(s); got != "" {
			t.Errorf("EncodeBlock of %d bytes has %d bytes", n, len(got))
		}
		if got := impl.MakeBlock(s); got != "" {
			t.Errorf("MakeBlock of %d bytes has %d bytes", n, len(got))
		}
		words := wordsOf(s)
		checkDecodeBlock(t, words, "", 0, false)
		checkReadBlock(t, impl.Scramble(impl.SpreadBits(words)), "", 0, false)
	}
}

func TestBlocksWithAnOddNumberOfBytes(t *testing.T) {
	for n := 1; n <= 2*impl.MaxBlock+1; n += 2 {
		words := strings.Repeat("\x00", n)
		checkDecodeBlock(t, words, "", 0, false)
		checkReadBlock(t, impl.Scramble(impl.SpreadBits(words)), "", 0, false)
	}
	words := impl.EncodeBlock("hi")
	checkDecodeBlock(t, words[:3], "", 0, false)
	checkDecodeBlock(t, words[1:], "", 0, false)
	checkDecodeBlock(t, words+"\x00", "", 0, false)
}

// Each code word bears one changed bit, whatever happens to the others; two changed bits in one
// of them make the whole block unreadable.
func TestDecodeBlockWithChangedBits(t *testing.T) {
	for _, s := range []string{"A", "\x00", "hi", "\u00e9z", allBytes()[:impl.MaxBlock], mixedBytes(17)} {
		words := impl.EncodeBlock(s)
		hurt := words
		for at := range len(words) {
			bit := (3*at + 1) % 8
			checkDecodeBlock(t, changed(words, at, 1<<bit), s, 1, true)
			hurt = changed(hurt, at, 1<<bit)
			checkDecodeBlock(t, hurt, s, at+1, true)
			checkDecodeBlock(t, changed(words, at, 1<<bit|1<<((bit+3)%8)), "", 0, false)
		}
		for at := range len(words) {
			checkDecodeBlock(t, changed(hurt, at, 1<<((3*at+2)%8)), "", 0, false)
		}
	}
}

func TestMakeBlockOfKnownStrings(t *testing.T) {
	for s, want := range map[string]string{
		"":         "",
		"A":        "\x1a\xcf\xfc\x1d\x91\x3a",
		"hi":       "\x1a\xcf\xfc\x1d\x88\x56\xa8\x70",
		"\x00":     "\x1a\xcf\xfc\x1d\xff\xfe",
		"\xff\x00": "\x1a\xcf\xfc\x1d\xcc\xcd\xce\xc9",
		"\u00e9z":  "\x1a\xcf\xfc\x1d\x7e\x57\xd4\x8c\x20\x1f",
	} {
		if got := impl.MakeBlock(s); got != want {
			t.Errorf("MakeBlock(%q) = %q, want %q", s, got, want)
		}
	}
}

func TestBlocksAreReadAsTheyWereMade(t *testing.T) {
	for _, s := range blockTexts() {
		b := impl.MakeBlock(s)
		if len(b) != len(impl.SyncMark)+2*len(s) || !strings.HasPrefix(b, impl.SyncMark) {
			t.Errorf("MakeBlock(%.40q of %d bytes) = %.40q of %d bytes", s, len(s), b, len(b))
			continue
		}
		if want := impl.Scramble(bitsMoved(wordsOf(s))); b[len(impl.SyncMark):] != want {
			t.Errorf("MakeBlock(%.40q of %d bytes) = %.40q, want %.40q behind the mark", s, len(s), b, want)
		}
		checkReadBlock(t, b[len(impl.SyncMark):], s, 0, true)
	}
	checkReadBlock(t, "", "", 0, false)
}

// hitBits changes a number of bits that follow one another, from a place on.
func hitBits(s string, place, number int) string {
	list := []byte(s)
	for p := place; p < place+number; p++ {
		list[p/8] ^= 1 << (p % 8)
	}
	return string(list)
}

// TestBlocksHitByEveryBurst changes bits at every place: up to as many as the block has code
// words, each code word has one changed bit at most and the block is read; with more, and fewer
// than three in each code word, the block is not taken for another one.
func TestBlocksHitByEveryBurst(t *testing.T) {
	for n := 1; n <= 10; n++ {
		s := mixedBytes(n)
		coded := impl.MakeBlock(s)[len(impl.SyncMark):]
		for number := 1; number < 6*n; number++ {
			for place := 0; place+number <= 16*n; place++ {
				hit := hitBits(coded, place, number)
				if number <= 2*n {
					checkReadBlock(t, hit, s, number, true)
				} else {
					checkReadBlock(t, hit, "", 0, false)
				}
			}
		}
	}
}

func TestLongBlocksHitByBursts(t *testing.T) {
	for _, n := range []int{11, 24, 31, 199, impl.MaxBlock} {
		s := mixedBytes(n)
		coded := impl.MakeBlock(s)[len(impl.SyncMark):]
		for place := 0; place <= 14*n; place++ {
			checkReadBlock(t, hitBits(coded, place, 2*n), s, 2*n, true)
			checkReadBlock(t, hitBits(coded, place, 1+place%(2*n)), s, 1+place%(2*n), true)
			if place < 14*n {
				checkReadBlock(t, hitBits(coded, place, 2*n+1), "", 0, false)
			}
			if place < 10*n {
				checkReadBlock(t, hitBits(coded, place, 6*n-1), "", 0, false)
			}
		}
	}
}

// A burst may also leave some of its bits as they were.
func TestBlocksHitByBurstsWithGaps(t *testing.T) {
	for n := 1; n <= 40; n++ {
		s := mixedBytes(n)
		coded := impl.MakeBlock(s)[len(impl.SyncMark):]
		noise := mixedBytes(16 * n)
		for place := 0; place <= 14*n; place++ {
			hit := coded
			number := 0
			for i := range 2 * n {
				if noise[(place+i)%len(noise)] > 127 {
					hit = hitBits(hit, place+i, 1)
					number++
				}
			}
			checkReadBlock(t, hit, s, number, true)
		}
	}
}

// With three changed bits in each code word, each one is next to another code word: the block is
// read as DecodeNibble says.
func TestBlocksHitByThreeBitsInEachWord(t *testing.T) {
	for _, s := range []string{"A", "hi", mixedBytes(20)} {
		coded := impl.MakeBlock(s)[len(impl.SyncMark):]
		for place := 0; place <= 10*len(s); place++ {
			hit := hitBits(coded, place, 6*len(s))
			got, bits, ok := impl.ReadBlock(hit)
			if got == s || len(got) != len(s) || bits != 2*len(s) || !ok {
				t.Errorf("ReadBlock of %q hit from %d on = %q, %d, %v", s, place, got, bits, ok)
			}
		}
	}
}
