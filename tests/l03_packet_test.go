package tests

import (
	"strings"
	"testing"

	"loop.example/g03316/impl"
)

// numbersAround returns the ends of a range, the numbers next to them, and numbers far from it.
func numbersAround(low, high int) []int {
	return append([]int{low - 2, low - 1, low, low + 1, high - 1, high, high + 1, high + 2, low + 256, high + 65536}, farNumbers...)
}

func within(n, low, high int) bool { return low <= n && n <= high }

// dataLengths are the lengths of the data of packets, up to MaxPacketData, and some that are too
// long, among them those of which one byte would tell another length.
func dataLengths() []int {
	list := []int{}
	for n := range impl.MaxPacketData + 2 {
		list = append(list, n)
	}
	return append(list, 42, 255, 256, 257, 296, 65536)
}

func checkPacketOk(t *testing.T, p impl.Packet, want bool) {
	t.Helper()
	if got := impl.PacketOk(p); got != want {
		t.Errorf("PacketOk of %d, %d and %d bytes = %v", p.Apid, p.Seq, len(p.Data), got)
	}
	if s := impl.EncodePacket(p); (s != "") != want {
		t.Errorf("EncodePacket of %d, %d and %d bytes = %.60q", p.Apid, p.Seq, len(p.Data), s)
	}
}

func checkDecodePacket(t *testing.T, s string, at int, want impl.Packet, wantSize int) {
	t.Helper()
	p, size, ok := impl.DecodePacket(s, at)
	if p != want || size != wantSize || !ok {
		t.Errorf("DecodePacket(%.60q, %d) = %s, want %s", s, at, shown(p, size, ok), shown(want, wantSize))
	}
}

func checkNoPacket(t *testing.T, s string, at int) {
	t.Helper()
	p, size, ok := impl.DecodePacket(s, at)
	if p != (impl.Packet{}) || size != 0 || ok {
		t.Errorf("DecodePacket(%.60q, %d) = %s, want none", s, at, shown(p, size, ok))
	}
}

// packetBytes encodes a packet in another way.
func packetBytes(p impl.Packet) string {
	return string([]byte{byte(p.Apid), byte(p.Seq / 256), byte(p.Seq % 256), byte(len(p.Data))}) + p.Data
}

// samplePackets returns packets with numbers of all kinds and data of all lengths and bytes.
func samplePackets() []impl.Packet {
	list := []impl.Packet{
		{}, {Apid: 15}, {Apid: 15, Seq: 65535, Data: strings.Repeat("\x00", impl.MaxPacketData)},
		{Apid: 14, Seq: 255, Data: "\xff"}, {Seq: 256, Data: "\u00e9\xf0\x9f"}, {Apid: 1, Seq: 65535, Data: impl.SyncMark},
	}
	for n := range impl.MaxPacketData + 1 {
		list = append(list, impl.Packet{Apid: n % 16, Seq: 1597 * n, Data: mixedBytes(n)})
	}
	for i := 0; i+impl.MaxPacketData <= 256; i += 12 {
		list = append(list, impl.Packet{Apid: i % 15, Seq: 256 * i, Data: allBytes()[i : i+impl.MaxPacketData]})
	}
	return list
}

func TestConstantsOfFrames(t *testing.T) {
	if impl.FrameData != 24 || impl.FrameBytes != 29 || impl.MaxPacketData != 40 || impl.MaxChannels != 3 || impl.IdleApid != 15 || impl.NoPacket != 255 {
		t.Error("unexpected constants")
	}
}

func TestPacketOk(t *testing.T) {
	for _, n := range append(numbersAround(0, 15), 14) {
		checkPacketOk(t, impl.Packet{Apid: n, Seq: 300, Data: "az"}, within(n, 0, 15))
	}
	for _, n := range append(numbersAround(0, 65535), 255, 256) {
		checkPacketOk(t, impl.Packet{Apid: 2, Seq: n, Data: "az"}, within(n, 0, 65535))
	}
	for _, n := range dataLengths() {
		checkPacketOk(t, impl.Packet{Apid: 2, Seq: 300, Data: mixedBytes(n)}, n <= 40)
		checkPacketOk(t, impl.Packet{Apid: 15, Data: strings.Repeat("\x00", n)}, n <= 40)
	}
}

func TestEncodePacketOfKnownPackets(t *testing.T) {
	for p, want := range map[impl.Packet]string{
		{}:                                   "\x00\x00\x00\x00",
		{Apid: 2, Seq: 300, Data: "abc"}:     "\x02\x01\x2c\x03abc",
		{Apid: 14, Seq: 255, Data: "\x00"}:   "\x0e\x00\xff\x01\x00",
		{Apid: 15, Seq: 65535, Data: "\xff"}: "\x0f\xff\xff\x01\xff",
		{Apid: 1, Seq: 256, Data: "\u00e9"}:  "\x01\x01\x00\x02\xc3\xa9",
		{Apid: 3, Data: allBytes()[128:168]}: "\x03\x00\x00\x28" + allBytes()[128:168],
	} {
		if got := impl.EncodePacket(p); got != want {
			t.Errorf("EncodePacket(%s) = %q, want %q", shown(p), got, want)
		}
	}
}

func TestPacketsGoBack(t *testing.T) {
	for _, p := range samplePackets() {
		s := impl.EncodePacket(p)
		if s != packetBytes(p) {
			t.Errorf("EncodePacket(%s) = %q", shown(p), s)
		}
		checkDecodePacket(t, s, 0, p, len(s))
	}
	for n := range 65536 {
		p := impl.Packet{Apid: n % 16, Seq: n, Data: "z"}
		checkDecodePacket(t, impl.EncodePacket(p), 0, p, 5)
	}
}

func TestPacketsInTheMiddleOfAString(t *testing.T) {
	for _, before := range []string{"\x00", "\xff", "\u20ac", "\x0f\xff\xff\x28", mixedBytes(50)} {
		for _, behind := range []string{"", "\x00", "\xff\xff", mixedBytes(70)} {
			for _, p := range samplePackets() {
				s := packetBytes(p)
				checkDecodePacket(t, before+s+behind, len(before), p, len(s))
			}
		}
	}
}

func TestPacketsThatFollowOneAnother(t *testing.T) {
	stream := ""
	for _, p := range samplePackets() {
		stream += packetBytes(p)
	}
	at := 0
	for _, p := range samplePackets() {
		checkDecodePacket(t, stream, at, p, 4+len(p.Data))
		at += 4 + len(p.Data)
	}
	checkNoPacket(t, stream, at)
}

func TestPacketsWithBytesMissing(t *testing.T) {
	for _, p := range samplePackets() {
		s := packetBytes(p)
		for n := range len(s) {
			checkNoPacket(t, s[:n], 0)
			checkNoPacket(t, "\xff"+s[:n], 1)
		}
	}
}

func TestDecodePacketOutsideTheString(t *testing.T) {
	zeros := strings.Repeat("\x00", 100)
	for _, at := range append([]int{-2, -3, -4, -5, 97, 98, 99, 100, 101, 104}, farNumbers...) {
		checkNoPacket(t, zeros, at)
		checkNoPacket(t, "", at)
		checkNoPacket(t, "\x00\x00\x00", at)
	}
	checkDecodePacket(t, zeros, 96, impl.Packet{}, 4)
	checkNoPacket(t, "", 0)
}

func TestDecodePacketWithEachHead(t *testing.T) {
	data := mixedBytes(300)
	for i := range 256 {
		apid := string([]byte{byte(i), 1, 44, 2}) + data
		length := string([]byte{2, 1, 44, byte(i)}) + data
		if i <= 15 {
			checkDecodePacket(t, apid, 0, impl.Packet{Apid: i, Seq: 300, Data: data[:2]}, 6)
		} else {
			checkNoPacket(t, apid, 0)
		}
		if i <= 40 {
			checkDecodePacket(t, length, 0, impl.Packet{Apid: 2, Seq: 300, Data: data[:i]}, 4+i)
		} else {
			checkNoPacket(t, length, 0)
		}
	}
}
