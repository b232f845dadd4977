package tests

import (
	"strings"
	"testing"

	"loop.example/g03316/impl"
)

func checkChannelOk(t *testing.T, c impl.Channel, want bool) {
	t.Helper()
	if got := impl.ChannelOk(c); got != want {
		t.Errorf("ChannelOk(%v) = %v", c, got)
	}
}

func checkBurstText(t *testing.T, seed int, s string, wantSeed int, want string) {
	t.Helper()
	if next, got := impl.BurstText(seed, s); next != wantSeed || got != want {
		t.Errorf("BurstText(%d, %.40q of %d bytes) = %d, %.40q, want %d, %.40q", seed, s, len(s), next, got, wantSeed, want)
	}
}

func checkSendBlock(t *testing.T, c impl.Channel, s string, wantSeed int, want string) {
	t.Helper()
	wantChannel := impl.Channel{Seed: wantSeed, Burst: c.Burst, Loss: c.Loss}
	if next, got := impl.SendBlock(c, s); next != wantChannel || got != want {
		t.Errorf("SendBlock(%v, %.40q of %d bytes) = %v, %.40q, want %v, %.40q", c, s, len(s), next, got, wantChannel, want)
	}
}

// draw computes the next state of the random numbers and a number below n.
func draw(state, n int) (int, int) {
	state = (state*25173 + 13849) % 65536
	return state, state / 16 % n
}

// burstOf computes a burst in another way: it looks at each place whether the burst hits it.
func burstOf(seed int, s string) (int, string) {
	list := []byte(s)
	state, first := draw(seed, 7*len(s)+1)
	state, further := draw(state, len(s))
	for p := range 8 * len(s) {
		if p >= first && p-first <= further {
			list[p/8] ^= 1 << (p % 8)
		}
	}
	return state, string(list)
}

func TestChannelOk(t *testing.T) {
	good := impl.Channel{Seed: 7, Burst: 20, Loss: 30}
	checkChannelOk(t, impl.Channel{}, true)
	checkChannelOk(t, good, true)
	checkChannelOk(t, impl.Channel{Seed: 65535, Burst: 100, Loss: 100}, true)
	seeds := append([]int{0, 65535, 65536, 65537, -2}, farNumbers...)
	for _, n := range seeds {
		checkChannelOk(t, impl.Channel{Seed: n, Burst: 20, Loss: 30}, n == 0 || n == 65535)
	}
	for _, n := range append([]int{0, 1, 99, 100, 101, 102, 200, 256, 65535, -2, -100}, farNumbers...) {
		is := n >= 0 && n <= 100
		checkChannelOk(t, impl.Channel{Seed: 7, Burst: n, Loss: 30}, is)
		checkChannelOk(t, impl.Channel{Seed: 7, Burst: 20, Loss: n}, is)
	}
}

func TestBurstTextOfKnownStrings(t *testing.T) {
	checkBurstText(t, 7, "abc", 4085, "arc")
	checkBurstText(t, 0, "\x00", 48742, "\x02")
	checkBurstText(t, 65535, "\x00\x00", 36397, "\x00\x20")
	checkBurstText(t, 12345, strings.Repeat("\x00", 8), 11031, "\x60\x00\x00\x00\x00\x00\x00\x00")
	checkBurstText(t, 1, strings.Repeat("\x00", 10), 61087, "\x00\x00\x00\xff\x00\x00\x00\x00\x00\x00")
	checkBurstText(t, 54321, "\x88\x56\xa8\x70", 11599, "\x88\x56\xe8\x70")
}

func TestBurstTextOfAllSeeds(t *testing.T) {
	for _, s := range []string{"z", "\u00e9", mixedBytes(7), strings.Repeat("\x00", 40), strings.Repeat("\xff", 2*impl.MaxBlock)} {
		step := 1 + len(s)/20
		for seed := 0; seed < 65536; seed += step {
			wantSeed, want := burstOf(seed, s)
			checkBurstText(t, seed, s, wantSeed, want)
		}
		wantSeed, want := burstOf(65535, s)
		checkBurstText(t, 65535, s, wantSeed, want)
	}
}

// A burst of one bit is the shortest one, and one of as many bits as the string has bytes the
// longest; both of them come, at the first and at the last place.
func TestGreatestAndLeastBursts(t *testing.T) {
	zeros := "\x00\x00\x00"
	seen := map[string]bool{}
	for seed := range 65536 {
		_, hit := impl.BurstText(seed, zeros)
		seen[hit] = true
	}
	want := 0
	for first := range 22 {
		for number := 1; number <= 3; number++ {
			if !seen[hitBits(zeros, first, number)] {
				t.Errorf("no burst of %d bits from %d on", number, first)
			}
			want++
		}
	}
	if len(seen) != want {
		t.Errorf("%d bursts, want %d", len(seen), want)
	}
}

func TestBurstTextOutOfRange(t *testing.T) {
	for _, seed := range append([]int{65536, 65537, -2}, farNumbers...) {
		for _, s := range []string{"", "abc", mixedBytes(2 * impl.MaxBlock), mixedBytes(2*impl.MaxBlock + 1)} {
			checkBurstText(t, seed, s, seed, s)
		}
	}
	for _, seed := range []int{0, 1, 7, 65535} {
		for _, s := range []string{"", mixedBytes(2*impl.MaxBlock + 1), mixedBytes(20000)} {
			checkBurstText(t, seed, s, seed, s)
		}
		s := mixedBytes(2 * impl.MaxBlock)
		if _, hit := impl.BurstText(seed, s); hit == s {
			t.Errorf("no burst in %d bytes with the seed %d", len(s), seed)
		}
	}
}

func TestSendBlockOfAKnownBlock(t *testing.T) {
	b := impl.MakeBlock("hi")
	checkSendBlock(t, impl.Channel{}, b, 48742, b)
	checkSendBlock(t, impl.Channel{Burst: 100}, b, 17180, impl.SyncMark+"\x88\x55\xa8\x70")
	checkSendBlock(t, impl.Channel{Loss: 100}, b, 13849, "")
	checkSendBlock(t, impl.Channel{Seed: 7, Burst: 100, Loss: 100}, b, 58988, "")
	checkSendBlock(t, impl.Channel{Seed: 65535, Burst: 100}, b, 54891, impl.SyncMark+"\x86\x56\xa8\x70")
	checkSendBlock(t, impl.Channel{Seed: 1, Burst: 50, Loss: 30}, b, 45005, impl.SyncMark+"\x88\xd6\xa8\x70")
	checkSendBlock(t, impl.Channel{Seed: 2, Burst: 50, Loss: 30}, b, 64195, "")
	checkSendBlock(t, impl.Channel{Seed: 3, Burst: 50, Loss: 30}, b, 20241, b)
	checkSendBlock(t, impl.Channel{Seed: 4, Burst: 50, Loss: 30}, b, 62944, impl.SyncMark+"\x88\xb6\xa8\x70")
}

// The numbers of the seed 0 are 65 and 46, so these are the limits at which a block is lost or hit.
func TestChancesOfAChannel(t *testing.T) {
	b := impl.MakeBlock("hi")
	hit := impl.SyncMark + "\x88\x55\xa8\x70"
	checkSendBlock(t, impl.Channel{Loss: 65}, b, 48742, b)
	checkSendBlock(t, impl.Channel{Loss: 66}, b, 13849, "")
	checkSendBlock(t, impl.Channel{Burst: 46}, b, 48742, b)
	checkSendBlock(t, impl.Channel{Burst: 47}, b, 17180, hit)
	checkSendBlock(t, impl.Channel{Loss: 65, Burst: 47}, b, 17180, hit)
}

func TestSendBlockOfStringsThatAreNoBlocks(t *testing.T) {
	channels := []impl.Channel{{}, {Burst: 100}, {Loss: 100}, {Seed: 65535, Burst: 50, Loss: 50}}
	for _, c := range channels {
		for _, s := range []string{"", "z", "\xff\x00", "\u20ac", impl.SyncMark[:3]} {
			checkSendBlock(t, c, s, c.Seed, s)
		}
	}
	// Behind 4 bytes there is nothing to hit, and too much for a burst behind 405.
	for _, s := range []string{"abcd", impl.SyncMark, mixedBytes(2*impl.MaxBlock + 5), mixedBytes(20000)} {
		checkSendBlock(t, impl.Channel{}, s, 48742, s)
		checkSendBlock(t, impl.Channel{Burst: 100}, s, 48742, s)
		checkSendBlock(t, impl.Channel{Loss: 100}, s, 13849, "")
	}
	s := mixedBytes(2*impl.MaxBlock + 4)
	wantSeed, want := burstOf(48742, s[4:])
	checkSendBlock(t, impl.Channel{Burst: 100}, s, wantSeed, s[:4]+want)
	wantSeed, want = burstOf(48742, "z")
	checkSendBlock(t, impl.Channel{Burst: 100}, "abcdz", wantSeed, "abcd"+want)
}

func TestSendBlockOnChannelsOutOfRange(t *testing.T) {
	list := []impl.Channel{{Burst: 101}, {Loss: 101}, {Seed: 65536}, {Burst: 101, Loss: 100}, {Seed: 65536, Burst: 100}}
	for _, n := range farNumbers {
		list = append(list, impl.Channel{Seed: n}, impl.Channel{Burst: n}, impl.Channel{Loss: n}, impl.Channel{Seed: n, Burst: n, Loss: n})
	}
	for _, c := range list {
		for _, s := range []string{"", "abc", "abcd", impl.MakeBlock("hi"), mixedBytes(1000)} {
			checkSendBlock(t, c, s, c.Seed, s)
		}
	}
}

// sentBy computes what a channel does with a block of more than 4 bytes.
func sentBy(c impl.Channel, s string) (int, string) {
	state, number := draw(c.Seed, 100)
	if number < c.Loss {
		return state, ""
	}
	state, number = draw(state, 100)
	if number >= c.Burst {
		return state, s
	}
	state, hit := burstOf(state, s[4:])
	return state, s[:4] + hit
}

func TestWhatComesThroughAChannelIsWhatWasSent(t *testing.T) {
	for _, text := range []string{"A", "hi", "\u20ac", mixedBytes(31), mixedBytes(impl.MaxBlock)} {
		b := impl.MakeBlock(text)
		step := 1 + len(text)
		for _, c := range []impl.Channel{{}, {Burst: 100}, {Loss: 100}, {Burst: 100, Loss: 1}, {Burst: 50, Loss: 30}, {Burst: 1, Loss: 99}} {
			for seed := 0; seed < 65536; seed += step {
				c.Seed = seed
				wantSeed, want := sentBy(c, b)
				checkSendBlock(t, c, b, wantSeed, want)
				if got, _, ok := impl.ReadBlock(strings.TrimPrefix(want, impl.SyncMark)); want != "" && (got != text || !ok) {
					t.Errorf("%v: ReadBlock = %.40q, %v, want %.40q", c, got, ok, text)
				}
				checkBurstedStream(t, want, text)
			}
		}
	}
}

// checkBurstedStream checks that a block that came is found in a stream.
func checkBurstedStream(t *testing.T, came, text string) {
	t.Helper()
	if came != "" {
		checkBlocksOf(t, "zz"+came+"z", len(text), 0, text)
	}
}

// A channel is used again and again: each block that comes is one of those that were sent, in
// their order, and about as many are lost as the channel says.
func TestManyBlocksThroughOneChannel(t *testing.T) {
	c := impl.Channel{Seed: 4711, Burst: 60, Loss: 25}
	stream := ""
	want := []string{}
	for i := range 1000 {
		text := mixedBytes(8 + i)[i:]
		var came string
		c, came = impl.SendBlock(c, impl.MakeBlock(text))
		stream += came
		if came != "" {
			want = append(want, text)
		}
	}
	checkBlocksOf(t, stream[:min(len(stream), impl.MaxStream)], 8, 0, want...)
	if len(want) < 700 || len(want) > 800 || c.Burst != 60 || c.Loss != 25 {
		t.Errorf("%d of 1000 blocks came through %v", len(want), c)
	}
}
