package tests

import (
	"slices"
	"strings"
	"testing"

	"loop.example/g03316/impl"
)

func samePackers(a, b impl.Packer) bool {
	return a.Channel == b.Channel && a.Count == b.Count && a.Rest == b.Rest && slices.Equal(a.Starts, b.Starts)
}

// upTo returns the numbers from 0 to n-1.
func upTo(n int) []int {
	list := []int{}
	for i := range n {
		list = append(list, i)
	}
	return list
}

func checkPackerOk(t *testing.T, p impl.Packer, want bool) {
	t.Helper()
	if got := impl.PackerOk(p); got != want {
		t.Errorf("PackerOk(%s) = %v", shown(p), got)
	}
	if !want {
		checkPackerRejected(t, p)
	}
}

// checkPackerRejected checks that nothing is done with a packer that is not valid.
func checkPackerRejected(t *testing.T, p impl.Packer) {
	t.Helper()
	if got, ok := impl.PackPacket(p, impl.Packet{Apid: 1, Data: "az"}); ok || !samePackers(got, p) {
		t.Errorf("PackPacket(%s) = %s", shown(p), shown(got, ok))
	}
	if got := impl.FillPacker(p); !samePackers(got, p) {
		t.Errorf("FillPacker(%s) = %s", shown(p), shown(got))
	}
	checkNoFrameTaken(t, p)
}

// checkNoFrameTaken checks that no frame is taken from a packer.
func checkNoFrameTaken(t *testing.T, p impl.Packer) {
	t.Helper()
	if got, f, ok := impl.TakeFrame(p); ok || f != (impl.Frame{}) || !samePackers(got, p) {
		t.Errorf("TakeFrame(%s) = %s", shown(p), shown(got, f, ok))
	}
	if got, list := impl.TakeFrames(p); len(list) != 0 || !samePackers(got, p) {
		t.Errorf("TakeFrames(%s) = %s", shown(p), shown(got, list))
	}
}

func checkPackPacket(t *testing.T, p impl.Packer, x impl.Packet, want impl.Packer) {
	t.Helper()
	if got, ok := impl.PackPacket(p, x); !ok || !samePackers(got, want) {
		t.Errorf("PackPacket(%s) = %s, want %s", shown(p, x), shown(got, ok), shown(want))
	}
}

func checkNotPacked(t *testing.T, p impl.Packer, x impl.Packet) {
	t.Helper()
	if got, ok := impl.PackPacket(p, x); ok || !samePackers(got, p) {
		t.Errorf("PackPacket(%s) = %s", shown(p, x), shown(got, ok))
	}
}

func checkFillPacker(t *testing.T, p, want impl.Packer) {
	t.Helper()
	if got := impl.FillPacker(p); !samePackers(got, want) {
		t.Errorf("FillPacker(%s) = %s, want %s", shown(p), shown(got), shown(want))
	}
}

func checkTakeFrame(t *testing.T, p, want impl.Packer, frame impl.Frame) {
	t.Helper()
	if got, f, ok := impl.TakeFrame(p); !ok || f != frame || !samePackers(got, want) {
		t.Errorf("TakeFrame(%s) = %s, want %s", shown(p), shown(got, f, ok), shown(want, frame))
	}
}

func TestPackerOk(t *testing.T) {
	checkPackerOk(t, impl.Packer{}, true)
	for _, n := range append(numbersAround(0, impl.MaxChannels-1), 255) {
		checkPackerOk(t, impl.Packer{Channel: n, Rest: mixedBytes(30), Starts: []int{3}}, within(n, 0, 2))
	}
	for _, n := range numbersAround(0, 255) {
		checkPackerOk(t, impl.Packer{Count: n, Rest: mixedBytes(30), Starts: []int{3}}, within(n, 0, 255))
	}
	for _, n := range []int{0, 1, 23, 24, 25, 4999, 5000, 5001, 5002, 20000, 65536} {
		checkPackerOk(t, impl.Packer{Rest: mixedBytes(n)}, n <= 5000)
		checkPackerOk(t, impl.Packer{Rest: mixedBytes(n), Starts: upTo(n)}, n <= 5000)
		checkPackerOk(t, impl.Packer{Rest: mixedBytes(n), Starts: upTo(n + 1)}, false)
	}
}

func TestStartsOfPackers(t *testing.T) {
	rest := mixedBytes(50)
	for _, starts := range [][]int{nil, {}, {0}, {49}, {0, 1}, {0, 49}, {48, 49}, {3, 9, 20, 24, 31}} {
		checkPackerOk(t, impl.Packer{Rest: rest, Starts: starts}, true)
	}
	for _, starts := range [][]int{
		{-1}, {50}, {51}, {0, 0}, {49, 49}, {1, 0}, {0, 50}, {-1, 0}, {-5, 3}, {3, 9, 9, 20}, {3, 9, 8, 20},
		{3, 2, 9}, {20, 3}, {3, -1}, {3, 9, 50}, {60, 61}, {0, 5, 4}, {5, 6, 5, 7},
	} {
		checkPackerOk(t, impl.Packer{Rest: rest, Starts: starts}, false)
	}
	for _, n := range farNumbers {
		checkPackerOk(t, impl.Packer{Rest: rest, Starts: []int{n}}, false)
		checkPackerOk(t, impl.Packer{Rest: rest, Starts: []int{0, n}}, false)
		checkPackerOk(t, impl.Packer{Rest: rest, Starts: []int{n, 3}}, false)
	}
	checkPackerOk(t, impl.Packer{Starts: []int{0}}, false)
	checkPackerOk(t, impl.Packer{Rest: "\xff", Starts: []int{0}}, true)
	checkPackerOk(t, impl.Packer{Rest: "\u00e9", Starts: []int{1}}, true)
}

func TestPackPacketOfKnownPackets(t *testing.T) {
	p := impl.Packer{}
	q := impl.Packer{Rest: "\x02\x01\x2c\x03abc", Starts: []int{0}}
	checkPackPacket(t, p, impl.Packet{Apid: 2, Seq: 300, Data: "abc"}, q)
	r := impl.Packer{Rest: "\x02\x01\x2c\x03abc\x0f\xff\xff\x00", Starts: []int{0, 7}}
	checkPackPacket(t, q, impl.Packet{Apid: 15, Seq: 65535}, r)
	checkPackPacket(t, impl.Packer{Channel: 2, Count: 255, Rest: "\xff"}, impl.Packet{}, impl.Packer{Channel: 2, Count: 255, Rest: "\xff\x00\x00\x00\x00", Starts: []int{1}})
}

func TestPackPacketOfAllKinds(t *testing.T) {
	for _, n := range []int{0, 23, 24, 25, 1000} {
		for _, starts := range [][]int{nil, {n / 2}, upTo(n)} {
			if n == 0 {
				starts = nil
			}
			p := impl.Packer{Channel: 1, Count: n % 256, Rest: mixedBytes(n), Starts: starts}
			for _, x := range samplePackets() {
				want := impl.Packer{Channel: 1, Count: n % 256, Rest: p.Rest + packetBytes(x), Starts: append(slices.Clone(starts), n)}
				checkPackPacket(t, p, x, want)
			}
		}
	}
}

func TestPackPacketOfPacketsOutOfRange(t *testing.T) {
	p := impl.Packer{Channel: 1, Count: 8, Rest: mixedBytes(30), Starts: []int{0, 12}}
	for _, n := range append([]int{-1, 16, 256}, farNumbers...) {
		checkNotPacked(t, p, impl.Packet{Apid: n, Data: "az"})
	}
	for _, n := range append([]int{-1, 65536}, farNumbers...) {
		checkNotPacked(t, p, impl.Packet{Seq: n, Data: "az"})
	}
	for _, n := range []int{41, 42, 256, 257, 6000} {
		checkNotPacked(t, p, impl.Packet{Data: mixedBytes(n)})
		checkNotPacked(t, impl.Packer{}, impl.Packet{Data: mixedBytes(n)})
	}
}

func TestPackPacketAtTheGreatestRest(t *testing.T) {
	for n := 4950; n <= 5000; n++ {
		p := impl.Packer{Count: 3, Rest: mixedBytes(n), Starts: []int{0, 4000}}
		for _, length := range []int{0, 1, 2, 39, 40} {
			x := impl.Packet{Apid: 1, Seq: n, Data: mixedBytes(length)}
			if n+4+length > 5000 {
				checkNotPacked(t, p, x)
				continue
			}
			checkPackPacket(t, p, x, impl.Packer{Count: 3, Rest: p.Rest + packetBytes(x), Starts: []int{0, 4000, n}})
		}
	}
}

// Each number of bytes from 0 to 23 fills some rest, and only these.
func TestFillPackerWithEachNumberOfBytes(t *testing.T) {
	fills := map[int]bool{}
	for n := range 500 {
		p := impl.Packer{Channel: 2, Count: n % 256, Rest: mixedBytes(n)}
		if n > 0 {
			p.Starts = []int{n / 2}
		}
		if n%24 == 0 {
			checkFillPacker(t, p, p)
			continue
		}
		fill := 0
		for (n+4+fill)%24 != 0 {
			fill++
		}
		fills[fill] = true
		want := p
		want.Rest += "\x0f\x00\x00" + string([]byte{byte(fill)}) + strings.Repeat("\x00", fill)
		want.Starts = []int{n / 2, n}
		checkFillPacker(t, p, want)
		checkFillPacker(t, want, want)
	}
	// A rest of 20 bytes is filled by a head alone, and one of 21 needs a further frame.
	if len(fills) != 23 || !fills[0] || !fills[23] || fills[20] {
		t.Errorf("numbers of fill bytes: %v", fills)
	}
}

// Up to 4992 bytes a rest can be filled, because a further frame would go beyond 5000.
func TestFillPackerAtTheGreatestRest(t *testing.T) {
	for n := 4969; n <= 5000; n++ {
		p := impl.Packer{Count: 3, Rest: mixedBytes(n), Starts: []int{0, 4000}}
		want := p
		if n+4 <= 4992 {
			want.Rest += "\x0f\x00\x00" + string([]byte{byte(4988 - n)}) + strings.Repeat("\x00", 4988-n)
			want.Starts = []int{0, 4000, n}
		}
		checkFillPacker(t, p, want)
	}
	checkFillPacker(t, impl.Packer{}, impl.Packer{})
	checkFillPacker(t, impl.Packer{Rest: mixedBytes(4992)}, impl.Packer{Rest: mixedBytes(4992)})
}

func TestTakeFrameOfKnownPackers(t *testing.T) {
	rest := "abcdefghijklmnopqrstuvwxyz0123456789"
	data := rest[:24]
	checkTakeFrame(t, impl.Packer{Rest: rest},
		impl.Packer{Count: 1, Rest: rest[24:]}, impl.Frame{First: 255, Data: data})
	checkTakeFrame(t, impl.Packer{Channel: 2, Count: 255, Rest: rest, Starts: []int{0}},
		impl.Packer{Channel: 2, Rest: rest[24:]}, impl.Frame{Channel: 2, Count: 255, Data: data})
	checkTakeFrame(t, impl.Packer{Count: 254, Rest: rest, Starts: []int{23}},
		impl.Packer{Count: 255, Rest: rest[24:]}, impl.Frame{Count: 254, First: 23, Data: data})
	checkTakeFrame(t, impl.Packer{Channel: 1, Rest: rest, Starts: []int{24}},
		impl.Packer{Channel: 1, Count: 1, Rest: rest[24:], Starts: []int{0}}, impl.Frame{Channel: 1, First: 255, Data: data})
	checkTakeFrame(t, impl.Packer{Rest: rest, Starts: []int{25, 30}},
		impl.Packer{Count: 1, Rest: rest[24:], Starts: []int{1, 6}}, impl.Frame{First: 255, Data: data})
	checkTakeFrame(t, impl.Packer{Rest: rest, Starts: []int{5, 9, 23, 24, 35}},
		impl.Packer{Count: 1, Rest: rest[24:], Starts: []int{0, 11}}, impl.Frame{First: 5, Data: data})
	checkTakeFrame(t, impl.Packer{Rest: data, Starts: []int{0, 7, 20}},
		impl.Packer{Count: 1}, impl.Frame{Data: data})
}

func TestTakeFrameOfEachRest(t *testing.T) {
	for _, n := range []int{0, 1, 22, 23} {
		checkNoFrameTaken(t, impl.Packer{Channel: 2, Count: 255, Rest: mixedBytes(n)})
		if n > 0 {
			checkNoFrameTaken(t, impl.Packer{Rest: mixedBytes(n), Starts: []int{n - 1}})
		}
	}
	for _, n := range []int{24, 25, 47, 48, 49, 4999, 5000} {
		rest := mixedBytes(n)
		for first := range n {
			p := impl.Packer{Channel: 1, Count: first % 256, Rest: rest, Starts: []int{first}}
			want := impl.Packer{Channel: 1, Count: (first + 1) % 256, Rest: rest[24:]}
			f := impl.Frame{Channel: 1, Count: first % 256, First: first, Data: rest[:24]}
			if first >= 24 {
				want.Starts = []int{first - 24}
				f.First = 255
			}
			checkTakeFrame(t, p, want, f)
		}
	}
}

// framesByCutting takes all frames of a packer in another way: it looks for the first start of
// each of them in the packer as it was.
func framesByCutting(p impl.Packer) (impl.Packer, []impl.Frame) {
	list := []impl.Frame{}
	at := 0
	for ; at+24 <= len(p.Rest); at += 24 {
		f := impl.Frame{Channel: p.Channel, Count: (p.Count + at/24) % 256, First: 255, Data: p.Rest[at : at+24]}
		for _, start := range slices.Backward(p.Starts) {
			if start >= at && start < at+24 {
				f.First = start - at
			}
		}
		list = append(list, f)
	}
	rest := impl.Packer{Channel: p.Channel, Count: (p.Count + at/24) % 256, Rest: p.Rest[at:]}
	for _, start := range p.Starts {
		if start >= at {
			rest.Starts = append(rest.Starts, start-at)
		}
	}
	return rest, list
}

func TestTakeFrames(t *testing.T) {
	for _, n := range []int{0, 1, 23, 24, 25, 47, 48, 49, 71, 72, 73, 500, 4991, 4992, 4999, 5000} {
		for step := 1; step < 100; step += 7 {
			for _, count := range []int{0, 1, 100, 250, 254, 255} {
				p := impl.Packer{Channel: step % 3, Count: count, Rest: mixedBytes(n)}
				for at := step / 2; at < n; at += step {
					p.Starts = append(p.Starts, at)
				}
				want, frames := framesByCutting(p)
				if got, list := impl.TakeFrames(p); !samePackers(got, want) || !slices.Equal(list, frames) {
					t.Errorf("TakeFrames of %d bytes with a start each %d from the count %d: unexpected result", n, step, count)
				}
			}
		}
	}
}

// packersOf returns what each function that returns a packer does for p.
func packersOf(p impl.Packer) []impl.Packer {
	packed, _ := impl.PackPacket(p, impl.Packet{Apid: 1, Data: "az"})
	notPacked, _ := impl.PackPacket(p, impl.Packet{Apid: 16})
	taken, _, _ := impl.TakeFrame(p)
	rest, _ := impl.TakeFrames(p)
	return []impl.Packer{packed, notPacked, impl.FillPacker(p), taken, rest}
}

func TestPackersShareNoMemory(t *testing.T) {
	for _, x := range []impl.Packer{
		{}, {Rest: mixedBytes(23), Starts: []int{0, 9}}, {Rest: mixedBytes(24), Starts: []int{3, 23}},
		{Rest: mixedBytes(30), Starts: []int{3, 24, 26}}, {Rest: mixedBytes(60), Starts: []int{30, 50, 59}},
		{Rest: mixedBytes(48), Starts: []int{0, 24}}, {Rest: mixedBytes(4999), Starts: []int{0, 4990, 4998}},
		{Channel: 3, Rest: mixedBytes(30), Starts: []int{5}}, {Rest: mixedBytes(30), Starts: []int{5, 5}},
	} {
		p := x
		starts, asBefore := guarded(x.Starts, 71, 72, 73, 74)
		p.Starts = starts
		results := packersOf(p)
		again := packersOf(p)
		if !asBefore() {
			t.Errorf("the starts of %s were changed", shown(x))
		}
		for i, r := range results {
			for k := range r.Starts[:cap(r.Starts)] {
				r.Starts[:cap(r.Starts)][k] = -9
			}
			if !asBefore() {
				t.Errorf("the result %d of %s shares its starts", i, shown(x))
			}
		}
		for i, r := range packersOf(p) {
			if !samePackers(r, again[i]) {
				t.Errorf("the results %d of %s differ", i, shown(x))
			}
		}
	}
}
