package tests

import (
	"slices"
	"strings"
	"testing"

	"loop.example/g03316/impl"
)

func checkUnpackerOk(t *testing.T, u impl.Unpacker, want bool) {
	t.Helper()
	if got := impl.UnpackerOk(u); got != want {
		t.Errorf("UnpackerOk(%s) = %v", shown(u), got)
	}
	if !want {
		f := impl.Frame{Channel: u.Channel, Count: 5, Data: dataOf(impl.Packet{Apid: 1, Data: "az"})}
		checkNotPushed(t, u, f)
		f.Channel = 1
		checkNotPushed(t, u, f)
	}
}

// checkNotPushed checks that an unpacker does not take a frame.
func checkNotPushed(t *testing.T, u impl.Unpacker, f impl.Frame) {
	t.Helper()
	if got, list := impl.PushFrame(u, f); got != u || list != nil {
		t.Errorf("PushFrame(%s) = %s", shown(u, f), shown(got, list))
	}
	if got, list := impl.PushFrames(u, []impl.Frame{f, f}); got != u || len(list) != 0 {
		t.Errorf("PushFrames(%s) twice = %s", shown(u, f), shown(got, list))
	}
}

func checkPushFrame(t *testing.T, u impl.Unpacker, f impl.Frame, want impl.Unpacker, packets ...impl.Packet) {
	t.Helper()
	got, list := impl.PushFrame(u, f)
	if got != want || !slices.Equal(list, packets) {
		t.Errorf("PushFrame(%s) = %s, want %s", shown(u, f), shown(got, list), shown(want, packets))
	}
	if !impl.UnpackerOk(got) {
		t.Errorf("PushFrame(%s) = %s, which is not valid", shown(u, f), shown(got))
	}
}

// dataOf returns the data of a frame with these packets, filled with the bytes of further ones.
func dataOf(list ...impl.Packet) string {
	s := ""
	for _, p := range list {
		s += packetBytes(p)
	}
	for len(s) < impl.FrameData {
		s += "\x00\x00\x00\x00"
	}
	return s[:impl.FrameData]
}

func TestUnpackerOk(t *testing.T) {
	good := impl.Unpacker{Channel: 1, Next: 7, Synced: true, Rest: "\x01\x02", Lost: 3}
	checkUnpackerOk(t, good, true)
	checkUnpackerOk(t, impl.Unpacker{}, true)
	for _, n := range append(numbersAround(0, impl.MaxChannels-1), 255) {
		u := good
		u.Channel = n
		checkUnpackerOk(t, u, within(n, 0, 2))
	}
	for _, n := range numbersAround(-1, 255) {
		u := good
		u.Next = n
		checkUnpackerOk(t, u, within(n, -1, 255))
	}
	for _, n := range numbersAround(0, 1000000) {
		u := good
		u.Lost = n
		checkUnpackerOk(t, u, within(n, 0, 1000000))
	}
	for _, n := range []int{0, 1, 3, 4, 40, 42, 43, 44, 45, 299, 65536} {
		u := good
		u.Rest = mixedBytes(n)
		checkUnpackerOk(t, u, n <= 43)
		u.Rest = strings.Repeat("\u00e9", n/2)
		checkUnpackerOk(t, u, n/2*2 <= 43)
		u.Synced = false
		checkUnpackerOk(t, u, n/2 == 0)
	}
}

func TestNewUnpacker(t *testing.T) {
	for _, n := range append(numbersAround(0, impl.MaxChannels-1), 100) {
		u := impl.NewUnpacker(n)
		if u != (impl.Unpacker{Channel: n, Next: -1}) {
			t.Errorf("NewUnpacker(%d) = %s", n, shown(u))
		}
		checkUnpackerOk(t, u, within(n, 0, 2))
	}
}

func TestFramesThatAreNotPushed(t *testing.T) {
	good := impl.Frame{Channel: 1, Count: 7, Data: dataOf(impl.Packet{Apid: 1, Data: "az"})}
	for _, u := range []impl.Unpacker{
		impl.NewUnpacker(1), {Channel: 1, Next: 7, Synced: true, Rest: "\x01"}, {Channel: 1, Next: 9, Lost: 1000000},
	} {
		for _, n := range append([]int{0, 2, 3}, farNumbers...) {
			f := good
			f.Channel = n
			checkNotPushed(t, u, f)
		}
		for _, n := range append([]int{256}, farNumbers...) {
			f := good
			f.Count = n
			checkNotPushed(t, u, f)
		}
		for _, n := range append([]int{24, 254, 256}, farNumbers...) {
			f := good
			f.First = n
			checkNotPushed(t, u, f)
		}
		for _, n := range []int{0, 23, 25, 48} {
			f := good
			f.Data = mixedBytes(n)
			checkNotPushed(t, u, f)
		}
	}
}

// Each step of PushFrame alone, with a frame in which one packet begins at each index.
func TestFirstFrameOfAnUnpacker(t *testing.T) {
	data := strings.Repeat("\x01", impl.FrameData)
	for _, next := range []int{-1, 9} {
		u := impl.Unpacker{Channel: 2, Next: next, Lost: 5}
		for first := range impl.FrameData {
			f := impl.Frame{Channel: 2, Count: 9, First: first, Data: data}
			want := impl.Unpacker{Channel: 2, Next: 10, Synced: true, Rest: data[first:], Lost: 5}
			packets := []impl.Packet{}
			for len(want.Rest) >= 5 {
				want.Rest = want.Rest[5:]
				packets = append(packets, impl.Packet{Apid: 1, Seq: 257, Data: "\x01"})
			}
			checkPushFrame(t, u, f, want, packets...)
		}
		f := impl.Frame{Channel: 2, Count: 9, First: impl.NoPacket, Data: data}
		checkPushFrame(t, u, f, impl.Unpacker{Channel: 2, Next: 10, Lost: 5})
	}
}

// A frame that is expected is taken from its beginning, whatever its First is.
func TestFrameBehindARest(t *testing.T) {
	x := impl.Packet{Apid: 2, Seq: 300, Data: mixedBytes(30)}
	y := impl.Packet{Apid: 14, Seq: 65535, Data: "\xff\x00"}
	s := packetBytes(x) + packetBytes(y) + packetBytes(impl.Packet{Data: mixedBytes(40)})
	for n := range 34 {
		for _, first := range []int{0, 7, 23, impl.NoPacket} {
			u := impl.Unpacker{Next: 255, Synced: true, Rest: s[:n], Lost: 1}
			f := impl.Frame{Count: 255, First: first, Data: s[n : n+24]}
			want := impl.Unpacker{Next: 0, Synced: true, Rest: s[:n+24], Lost: 1}
			switch {
			case n+24 < 34:
				checkPushFrame(t, u, f, want)
			case n+24 < 40:
				want.Rest = s[34 : n+24]
				checkPushFrame(t, u, f, want, x)
			default:
				want.Rest = s[40 : n+24]
				checkPushFrame(t, u, f, want, x, y)
			}
		}
	}
}

// Behind a gap, the rest is given up, and the frame is taken from its First on.
func TestFrameBehindAGap(t *testing.T) {
	x := impl.Packet{Apid: 2, Seq: 300, Data: mixedBytes(7)}
	data := mixedBytes(9)[:9] + packetBytes(x) + "\x01\x02\x03\x04"
	for _, lost := range []int{0, 1, 999998, 999999, 1000000} {
		more := min(lost+1, 1000000)
		for count := range 256 {
			for _, next := range []int{(count + 1) % 256, (count + 255) % 256, (count + 128) % 256} {
				for _, u := range []impl.Unpacker{
					{Next: next, Lost: lost}, {Next: next, Synced: true, Lost: lost}, {Next: next, Synced: true, Rest: mixedBytes(43), Lost: lost},
				} {
					f := impl.Frame{Count: count, First: 9, Data: data}
					after := impl.Unpacker{Next: (count + 1) % 256, Synced: true, Rest: "\x01\x02\x03\x04", Lost: more}
					checkPushFrame(t, u, f, after, x)
					f.First = impl.NoPacket
					checkPushFrame(t, u, f, impl.Unpacker{Next: (count + 1) % 256, Lost: more})
				}
			}
		}
	}
}

func TestFillPacketsDoNotComeOut(t *testing.T) {
	x := impl.Packet{Apid: 14, Seq: 1, Data: "\x0f\x00"}
	y := impl.Packet{Seq: 2}
	fill := impl.Packet{Apid: impl.IdleApid, Seq: 3, Data: "\xff\xff\xff"}
	u := impl.Unpacker{Next: 4, Synced: true}
	want := impl.Unpacker{Next: 5, Synced: true}
	data := packetBytes(fill) + packetBytes(x) + packetBytes(fill) + packetBytes(y)
	checkPushFrame(t, u, impl.Frame{Count: 4, Data: data}, want, x, y)
	data = packetBytes(impl.Packet{Apid: impl.IdleApid, Data: strings.Repeat("\x00", 20)})
	checkPushFrame(t, u, impl.Frame{Count: 4, Data: data}, want)
}

// brokenHeads are four bytes each with which no packet begins.
var brokenHeads = []string{
	"\x10\x00\x00\x00", "\xff\x00\x00\x00", "\x00\x00\x00\x29", "\x0f\x00\x00\xff", "\x10\xff\xff\x29", "\xff\xff\xff\xff", "\x80\x01\x01\x28", "\x02\x01\x2c\x80",
}

func TestFramesWithABrokenHead(t *testing.T) {
	x := impl.Packet{Apid: 3, Seq: 9, Data: mixedBytes(16)}
	zeros := strings.Repeat("\x00", impl.FrameData)
	for _, head := range brokenHeads {
		for _, lost := range []int{0, 1, 999998, 999999, 1000000} {
			u := impl.Unpacker{Next: 4, Synced: true, Lost: lost}
			want := impl.Unpacker{Next: 5, Lost: min(lost+1, 1000000)}
			checkPushFrame(t, u, impl.Frame{Count: 4, Data: head + zeros[:20]}, want)
			checkPushFrame(t, u, impl.Frame{Count: 4, Data: packetBytes(x) + head}, want, x)
			for n := range 5 {
				u.Rest = head[:n]
				checkPushFrame(t, u, impl.Frame{Count: 4, Data: head[n:] + zeros[:20+n]}, want)
			}
			// A gap and the broken head behind it are two parts.
			u.Next = 3
			want.Lost = min(lost+2, 1000000)
			checkPushFrame(t, u, impl.Frame{Count: 4, Data: head + zeros[:20]}, want)
		}
	}
}

// Three bytes do not tell yet that no packet begins with them.
func TestBrokenHeadsThatHaveJustBegun(t *testing.T) {
	x := impl.Packet{Apid: 3, Seq: 9, Data: mixedBytes(17)}
	for _, head := range brokenHeads {
		u := impl.Unpacker{Next: 4, Synced: true, Lost: 1000000}
		want := impl.Unpacker{Next: 5, Synced: true, Rest: head[:3], Lost: 1000000}
		checkPushFrame(t, u, impl.Frame{Count: 4, Data: packetBytes(x) + head[:3]}, want, x)
	}
}

// The greatest Apid and the greatest length are no fault, even if the rest of the packet is missing.
func TestWholeHeadsOfPacketsThatHaveBegun(t *testing.T) {
	for _, head := range []string{"\x0f\xff\xff\x28", "\x00\xff\xff\x28", "\x0f\x00\x00\x15", "\x0e\x10\x29\x28"} {
		data := head + strings.Repeat("\xff", 20)
		u := impl.Unpacker{Next: 4, Synced: true}
		checkPushFrame(t, u, impl.Frame{Count: 4, Data: data}, impl.Unpacker{Next: 5, Synced: true, Rest: data})
	}
	u := impl.Unpacker{Next: 255, Synced: true, Rest: "\x01\x00\x00\x28" + mixedBytes(39)}
	x := impl.Packet{Apid: 1, Data: mixedBytes(39) + "z"}
	f := impl.Frame{Count: 255, Data: "z\x01\x00\x00\x28" + mixedBytes(19)}
	checkPushFrame(t, u, f, impl.Unpacker{Synced: true, Rest: f.Data[1:]}, x)
}

// Behind a broken head, packets are found again in the next frame in which one begins.
func TestFramesBehindABrokenHead(t *testing.T) {
	x := impl.Packet{Apid: 3, Seq: 9, Data: mixedBytes(16)}
	for _, head := range brokenHeads {
		list := []impl.Frame{
			{Count: 254, Data: packetBytes(x) + head},
			{Count: 255, First: impl.NoPacket, Data: packetBytes(x) + "abcd"},
			{Count: 0, First: 4, Data: "abcd" + packetBytes(x)},
			{Count: 1, First: 0, Data: packetBytes(x) + "\x01\x00\x00\x00"},
		}
		u, packets := impl.PushFrames(impl.NewUnpacker(0), list)
		if u != (impl.Unpacker{Next: 2, Synced: true, Lost: 1}) || !slices.Equal(packets, []impl.Packet{x, x, x, {Apid: 1}}) {
			t.Errorf("PushFrames with the head %q = %s", head, shown(u, packets))
		}
	}
}

// Each frame is taken or not on its own, also behind one that is not taken.
func TestPushFramesWithFramesThatAreNotTaken(t *testing.T) {
	x := impl.Packet{Apid: 3, Seq: 9, Data: mixedBytes(30)}
	y := impl.Packet{Apid: 4, Seq: 10, Data: mixedBytes(10)}
	s := packetBytes(x) + packetBytes(y)
	a := impl.Frame{Channel: 1, Count: 20, Data: s[:24]}
	b := impl.Frame{Channel: 1, Count: 21, First: 10, Data: s[24:]}
	other, none := b, b
	other.Channel = 2
	none.First = 24
	want := impl.Unpacker{Channel: 1, Next: 22, Synced: true}
	for _, list := range [][]impl.Frame{{a, b}, {other, a, b}, {a, other, b}, {none, a, none, other, b, other}} {
		u, packets := impl.PushFrames(impl.NewUnpacker(1), list)
		if u != want || !slices.Equal(packets, []impl.Packet{x, y}) {
			t.Errorf("PushFrames(%s) = %s", shown(list), shown(u, packets))
		}
	}
	for _, u := range []impl.Unpacker{impl.NewUnpacker(0), impl.NewUnpacker(3), want} {
		if got, packets := impl.PushFrames(u, nil); got != u || len(packets) != 0 {
			t.Errorf("PushFrames(%s) without frames = %s", shown(u), shown(got, packets))
		}
	}
}

func TestPushFramesChangesNoArgument(t *testing.T) {
	whole := slices.Concat(sampleFrames(), sampleFrames())
	was := slices.Clone(whole)
	list := whole[:len(sampleFrames())]
	for channel := range impl.MaxChannels {
		u, packets := impl.PushFrames(impl.NewUnpacker(channel), list)
		v, again := impl.PushFrames(impl.NewUnpacker(channel), list)
		for i := range packets {
			packets[i] = impl.Packet{Apid: -1}
		}
		w, third := impl.PushFrames(impl.NewUnpacker(channel), list)
		if u != v || u != w || !slices.Equal(again, third) || !slices.Equal(whole, was) {
			t.Errorf("PushFrames on the channel %d changes what it is given", channel)
		}
	}
}
