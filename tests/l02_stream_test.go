package tests

import (
	"slices"
	"strings"
	"testing"

	"loop.example/g03316/impl"
)

func checkFindBlocks(t *testing.T, stream string, size int, want ...int) {
	t.Helper()
	if got := impl.FindBlocks(stream, size); !slices.Equal(got, want) {
		t.Errorf("FindBlocks(%.60q of %d bytes, %d) = %v, want %v", stream, len(stream), size, got, want)
	}
}

func checkBlocksOf(t *testing.T, stream string, size, wantUnread int, want ...string) {
	t.Helper()
	if got, unread := impl.BlocksOf(stream, size); !slices.Equal(got, want) || unread != wantUnread {
		t.Errorf("BlocksOf(%.60q of %d bytes, %d) = %.60q, %d, want %.60q, %d", stream, len(stream), size, got, unread, want, wantUnread)
	}
}

// placesByCutting finds the blocks of a stream in another way: it cuts off what was looked at.
func placesByCutting(stream string, size int) []int {
	list := []int{}
	rest := stream
	for {
		_, behind, found := strings.Cut(rest, impl.SyncMark)
		if !found || len(behind) < 2*size {
			return list
		}
		list = append(list, len(stream)-len(behind))
		rest = behind[2*size:]
	}
}

// textWithMark returns a text of n bytes, at least 16, in whose coded block the SyncMark stands at
// an index: of each code word that the bits of the mark reach, one bit is chosen.
func textWithMark(n, at int) string {
	words := 2 * n
	numbers := make([]int, words)
	for i, b := range []byte(mixedBytes(words)) {
		numbers[i] = int(b) % 16
	}
	sequence := scrambleSequence(at + 4)
	for i := range 32 {
		p := 8*at + i
		bit := int(impl.SyncMark[i/8]^sequence[p/8]) >> (i % 8) & 1
		for knownWords[numbers[p%words]]>>(p/words)&1 != bit {
			numbers[p%words] = (numbers[p%words] + 1) % 16
		}
	}
	text := make([]byte, n)
	for i := range text {
		text[i] = byte(16*numbers[2*i] + numbers[2*i+1])
	}
	return string(text)
}

func TestBlocksWithBytesBetweenThem(t *testing.T) {
	a, b, c := impl.MakeBlock("hi"), impl.MakeBlock("\x00\xff"), impl.MakeBlock("\u00e9")
	for _, noise := range []string{"", "z", "\x1a", "\x1a\xcf", "\x1a\xcf\xfc", "\x1d", "\xcf\xfc\x1d", "\x1a\xcf\xfc\x1a\xcf\xfc", "\x1a\x1a", allBytes(), mixedBytes(99)} {
		n := len(noise)
		stream := noise + a + noise + b + noise + c + noise
		checkFindBlocks(t, stream, 2, n+4, 2*n+12, 3*n+20)
		checkBlocksOf(t, stream, 2, 0, "hi", "\x00\xff", "\u00e9")
	}
	checkFindBlocks(t, "", 1)
	checkFindBlocks(t, "zz"+a, 2, 6)
	checkFindBlocks(t, "\x1a\xcf\xfc\x1a\xcf\xfc\x1d\x01\x02", 1, 7)
	checkFindBlocks(t, "\x1a\x1a\xcf\xfc\x1d\x01\x02", 1, 5)
	checkFindBlocks(t, "\x1a\xcf\xfc\x1c\x01\x02\x1b\xcf\xfc\x1d\x01\x02", 1)
	checkBlocksOf(t, "", 1, 0)
	checkBlocksOf(t, allBytes(), 1, 0)
}

func TestBlocksThatCannotBeReadAreCounted(t *testing.T) {
	a, b := impl.MakeBlock("hi"), impl.MakeBlock("go")
	hurt := a[:4] + hitBits(a[4:], 3, 5)
	mended := a[:4] + hitBits(a[4:], 3, 4)
	checkBlocksOf(t, hurt+b, 2, 1, "go")
	checkBlocksOf(t, mended+b, 2, 0, "hi", "go")
	checkBlocksOf(t, b+hurt+"z"+b+hurt+hurt, 2, 3, "go", "go")
	checkBlocksOf(t, hurt, 2, 1)
	checkFindBlocks(t, hurt+b, 2, 4, 12)
	// A SyncMark that was hit is none, so the block behind it is not found.
	checkBlocksOf(t, hitBits(a, 9, 1)+b, 2, 0, "go")
}

func TestMarkInsideABlock(t *testing.T) {
	inside := strings.Repeat(impl.SyncMark, 3)
	checkFindBlocks(t, inside, 2, 4)
	checkFindBlocks(t, inside, 4, 4)
	checkFindBlocks(t, inside, 1, 4)
	checkFindBlocks(t, inside+"zz", 1, 4, 12)
	checkFindBlocks(t, strings.Repeat(impl.SyncMark, 5), 2, 4, 12)
	checkFindBlocks(t, strings.Repeat(impl.SyncMark, 5), 4, 4)
	checkFindBlocks(t, strings.Repeat(impl.SyncMark, 6), 4, 4, 16)
	checkFindBlocks(t, impl.SyncMark+"\x01\x1a\xcf\xfc\x1d\x02\x03\x04", 1, 4)
	checkFindBlocks(t, impl.SyncMark+"\x01\x1a\xcf\xfc\x1d\x02\x03\x04", 2, 4)
	for at := range 29 {
		s := textWithMark(16, at)
		b := impl.MakeBlock(s)
		if strings.Index(b[4:], impl.SyncMark) != at {
			t.Fatalf("no mark at %d in %q", at, b)
		}
		checkReadBlock(t, b[4:], s, 0, true)
		checkFindBlocks(t, "z"+b+b+"z", 16, 5, 41)
		checkBlocksOf(t, "z"+b+b+"z", 16, 0, s, s)
		// Without the mark of the block, the one inside it is found.
		checkFindBlocks(t, b[4:]+b, 16, at+4)
	}
}

func TestMarkTooNearTheEnd(t *testing.T) {
	for _, size := range []int{1, 2, 17, impl.MaxBlock} {
		data := strings.Repeat("z", 2*size)
		for n := range 2 * size {
			checkFindBlocks(t, impl.SyncMark+data[:n], size)
			checkFindBlocks(t, "zz"+impl.SyncMark+data+impl.SyncMark+data[:n], size, 6)
			checkBlocksOf(t, impl.SyncMark+data[:n], size, 0)
		}
		checkFindBlocks(t, impl.SyncMark+data, size, 4)
		checkFindBlocks(t, "z"+impl.SyncMark+data+"z", size, 5)
	}
	for n := range 4 {
		checkFindBlocks(t, impl.SyncMark[:n], 1)
	}
}

func TestSizesOfBlocks(t *testing.T) {
	long := mixedBytes(impl.MaxBlock)
	stream := impl.MakeBlock("A") + impl.MakeBlock(long) + impl.MakeBlock("B")
	checkBlocksOf(t, impl.MakeBlock("A")+"z"+impl.MakeBlock("B"), 1, 0, "A", "B")
	checkBlocksOf(t, "z"+impl.MakeBlock(long)+impl.MakeBlock(long), impl.MaxBlock, 0, long, long)
	checkFindBlocks(t, stream, 1, 4, 10, 414)
	for _, size := range append([]int{0, -2, -200, impl.MaxBlock + 1, 2 * impl.MaxBlock, 65537}, farNumbers...) {
		for _, s := range []string{"", "z", impl.SyncMark, stream, strings.Repeat(impl.SyncMark, 500)} {
			checkFindBlocks(t, s, size)
			checkBlocksOf(t, s, size, 0)
		}
	}
}

func TestGreatestStream(t *testing.T) {
	a := impl.MakeBlock("A")
	full := strings.Repeat("z", impl.MaxStream-len(a)) + a
	checkFindBlocks(t, full, 1, impl.MaxStream-2)
	checkBlocksOf(t, full, 1, 0, "A")
	checkFindBlocks(t, full+"z", 1)
	checkBlocksOf(t, full+"z", 1, 0)
	checkFindBlocks(t, "z"+full, 1)
	checkFindBlocks(t, a+full[:impl.MaxStream-len(a)-1], 1, 4)
	checkFindBlocks(t, strings.Repeat(a, impl.MaxStream/len(a)+1), 1)
	long := mixedBytes(46)
	many := strings.Repeat(impl.MakeBlock(long), impl.MaxStream/96)
	list, unread := impl.BlocksOf(many+strings.Repeat("z", impl.MaxStream-len(many)), 46)
	if len(list) != impl.MaxStream/96 || unread != 0 || list[0] != long || list[len(list)-1] != long {
		t.Errorf("%d blocks, %d unread", len(list), unread)
	}
}

// Streams in which marks and parts of marks are thick, with every size up to some dozens.
func TestStreamsFullOfMarks(t *testing.T) {
	parts := []string{impl.SyncMark, "\x1a", "\x1a\xcf", "\x1a\xcf\xfc", "\x1d", "\xfc\x1d", "z", impl.MakeBlock("A"), impl.MakeBlock("hi"), "\u00e9"}
	for k := range 150 {
		stream := ""
		for _, b := range []byte(mixedBytes(k)) {
			stream += parts[int(b)%len(parts)]
		}
		for size := 1; size < 40; size++ {
			want := placesByCutting(stream, size)
			checkFindBlocks(t, stream, size, want...)
			texts := []string{}
			for _, at := range want {
				if s, _, ok := impl.ReadBlock(stream[at : at+2*size]); ok {
					texts = append(texts, s)
				}
			}
			checkBlocksOf(t, stream, size, len(want)-len(texts), texts...)
		}
	}
}
