package tests

import (
	"strings"
	"testing"

	"loop.example/g03316/impl"
)

func checkFrameOk(t *testing.T, f impl.Frame, want bool) {
	t.Helper()
	if got := impl.FrameOk(f); got != want {
		t.Errorf("FrameOk(%s) = %v", shown(f), got)
	}
	if s := impl.EncodeFrame(f); (s != "") != want {
		t.Errorf("EncodeFrame(%s) = %q", shown(f), s)
	}
}

func checkDecodeFrame(t *testing.T, s string, want impl.Frame) {
	t.Helper()
	if f, ok := impl.DecodeFrame(s); f != want || !ok {
		t.Errorf("DecodeFrame(%q) = %s, want %s", s, shown(f, ok), shown(want))
	}
}

func checkNoFrame(t *testing.T, s string) {
	t.Helper()
	if f, ok := impl.DecodeFrame(s); f != (impl.Frame{}) || ok {
		t.Errorf("DecodeFrame(%.60q of %d bytes) = %s, want none", s, len(s), shown(f, ok))
	}
}

// frameData returns the data of a frame, with bytes of all kinds.
func frameData(k int) string {
	return mixedBytes(impl.FrameData + k)[k:]
}

// sampleFrames returns frames with each field at both ends of its range and in between.
func sampleFrames() []impl.Frame {
	list := []impl.Frame{
		{Data: strings.Repeat("\x00", impl.FrameData)},
		{Channel: 2, Count: 255, First: 255, Data: strings.Repeat("\xff", impl.FrameData)},
		{Channel: 1, Count: 26, First: 23, Data: strings.Repeat("\u00e9", impl.FrameData/2)},
	}
	for channel := range impl.MaxChannels {
		for _, count := range []int{0, 1, 127, 128, 254, 255} {
			for _, first := range []int{0, 1, 22, 23, impl.NoPacket} {
				list = append(list, impl.Frame{Channel: channel, Count: count, First: first, Data: frameData(len(list))})
			}
		}
	}
	return list
}

func TestFrameOk(t *testing.T) {
	good := impl.Frame{Channel: 1, Count: 7, First: 5, Data: frameData(0)}
	checkFrameOk(t, good, true)
	checkFrameOk(t, impl.Frame{}, false)
	for _, n := range append(numbersAround(0, impl.MaxChannels-1), 255) {
		f := good
		f.Channel = n
		checkFrameOk(t, f, within(n, 0, 2))
	}
	for _, n := range numbersAround(0, 255) {
		f := good
		f.Count = n
		checkFrameOk(t, f, within(n, 0, 255))
	}
	for _, n := range append(numbersAround(0, impl.FrameData-1), 253, 254, 255, 256, 257) {
		f := good
		f.First = n
		checkFrameOk(t, f, within(n, 0, 23) || n == 255)
	}
	for _, n := range []int{0, 1, 22, 23, 24, 25, 26, 48, 280, 65560} {
		f := good
		f.Data = mixedBytes(n)
		checkFrameOk(t, f, n == 24)
	}
}

func TestEncodeFrameOfKnownFrames(t *testing.T) {
	f := impl.Frame{Channel: 2, Count: 200, First: 4, Data: "abcdefghijklmnopqrstuvwx"}
	if got := impl.EncodeFrame(f); got != "\x02\xc8\x04abcdefghijklmnopqrstuvwx\xf9\x01" {
		t.Errorf("EncodeFrame(%s) = %q", shown(f), got)
	}
	f = impl.Frame{Count: 255, First: impl.NoPacket, Data: strings.Repeat("\x00", 24)}
	if got := impl.EncodeFrame(f); got != "\x00\xff\xff"+strings.Repeat("\x00", 24)+"\x48\x1d" {
		t.Errorf("EncodeFrame(%s) = %q", shown(f), got)
	}
}

func TestFramesGoBack(t *testing.T) {
	for _, f := range sampleFrames() {
		s := impl.EncodeFrame(f)
		want := string([]byte{byte(f.Channel), byte(f.Count), byte(f.First)}) + f.Data
		if len(s) != impl.FrameBytes || s != impl.SealText(want) {
			t.Errorf("EncodeFrame(%s) = %q", shown(f), s)
		}
		checkDecodeFrame(t, s, f)
	}
	for n := range 256 {
		f := impl.Frame{Channel: n % 3, Count: n, First: n % 24, Data: frameData(n)}
		checkDecodeFrame(t, impl.EncodeFrame(f), f)
	}
}

func TestFramesWithOneByteChanged(t *testing.T) {
	for i, f := range sampleFrames() {
		s := impl.EncodeFrame(f)
		for at := range len(s) {
			for by := 1 + i%5; by < 256; by += 5 {
				checkNoFrame(t, changed(s, at, by))
			}
		}
	}
	s := impl.EncodeFrame(impl.Frame{Count: 9, Data: frameData(3)})
	for at := range len(s) {
		for by := 1; by < 256; by++ {
			checkNoFrame(t, changed(s, at, by))
		}
	}
}

// The fields alone decide here, because the check of each text is right.
func TestSealedTextsThatAreNoFrames(t *testing.T) {
	for i := range 256 {
		for at := range 3 {
			head := []byte{1, 7, 5}
			head[at] = byte(i)
			s := impl.SealText(string(head) + frameData(i))
			f := impl.Frame{Channel: int(head[0]), Count: int(head[1]), First: int(head[2]), Data: frameData(i)}
			if f.Channel <= 2 && (f.First <= 23 || f.First == 255) {
				checkDecodeFrame(t, s, f)
			} else {
				checkNoFrame(t, s)
			}
		}
	}
	for n := range 60 {
		if n != impl.FrameData {
			checkNoFrame(t, impl.SealText("\x00\x00\x00"+strings.Repeat("\x00", n)))
			checkNoFrame(t, impl.SealText("\x01\x07\x05"+mixedBytes(n)))
		}
	}
	for n := range 3 {
		checkNoFrame(t, impl.SealText(mixedBytes(n)))
	}
}

func TestStringsThatAreNoFrames(t *testing.T) {
	s := impl.EncodeFrame(impl.Frame{Count: 9, Data: frameData(3)})
	for n := range len(s) {
		checkNoFrame(t, s[:n])
		checkNoFrame(t, s[n+1:])
	}
	for _, x := range append(sampleTexts(), "\x00"+s, s+"\x00", s+s, s[1:]+s[:1]) {
		checkNoFrame(t, x)
	}
}
