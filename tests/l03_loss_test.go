package tests

import (
	"slices"
	"testing"

	"loop.example/g03316/impl"
)

// A sentPacket lies in the frames first to last of a journey.
type sentPacket struct {
	packet      impl.Packet
	first, last int
}

// A journey has all frames of a channel, in order, and the packets that lie in them.
type journey struct {
	packer  impl.Packer
	frames  []impl.Frame
	packets []sentPacket
}

func newJourney(channel, count int) *journey {
	return &journey{packer: impl.Packer{Channel: channel, Count: count}}
}

// send packs a packet, and notes in which frames it will lie.
func (j *journey) send(t *testing.T, x impl.Packet) {
	t.Helper()
	start := impl.FrameData*len(j.frames) + len(j.packer.Rest)
	p, ok := impl.PackPacket(j.packer, x)
	if !ok {
		t.Fatalf("PackPacket(%s) = false with %d bytes", shown(x), len(j.packer.Rest))
	}
	j.packer = p
	j.packets = append(j.packets, sentPacket{x, start / impl.FrameData, (start + 3 + len(x.Data)) / impl.FrameData})
}

func (j *journey) take() {
	p, list := impl.TakeFrames(j.packer)
	j.packer = p
	j.frames = append(j.frames, list...)
}

// end fills the last frame and takes all that are left.
func (j *journey) end(t *testing.T) {
	t.Helper()
	j.packer = impl.FillPacker(j.packer)
	j.take()
	if j.packer.Rest != "" || len(j.packer.Starts) != 0 {
		t.Errorf("%d bytes and the starts %v are left in the packer", len(j.packer.Rest), j.packer.Starts)
	}
}

// arrivals tells of each frame whether it arrives.
type arrivals []bool

// arrivalsBut returns the arrivals of n frames of which those with a number from a to b are lost.
func arrivalsBut(n, a, b int) arrivals {
	list := make(arrivals, n)
	for i := range list {
		list[i] = i < a || i > b
	}
	return list
}

// whole reports whether all frames from first to last arrive.
func (a arrivals) whole(first, last int) bool {
	return !slices.Contains(a[first:last+1], false)
}

// gaps returns how often frames are missing between two that arrive.
func (a arrivals) gaps() int {
	number := 0
	last := -1
	for i, is := range a {
		if is && last >= 0 && last < i-1 {
			number++
		}
		if is {
			last = i
		}
	}
	return number
}

// check pushes the frames that arrive: exactly the packets all of whose bytes lie in them come out.
func (j *journey) check(t *testing.T, a arrivals) {
	t.Helper()
	frames := []impl.Frame{}
	for i, f := range j.frames {
		if a[i] {
			frames = append(frames, f)
		}
	}
	want := []impl.Packet{}
	for _, s := range j.packets {
		if s.packet.Apid != impl.IdleApid && a.whole(s.first, s.last) {
			want = append(want, s.packet)
		}
	}
	u, got := impl.PushFrames(impl.NewUnpacker(j.packer.Channel), frames)
	if !slices.Equal(got, want) {
		t.Fatalf("with the arrivals %v from the count %d on, %d packets come out, want %d", a, j.frames[0].Count, len(got), len(want))
	}
	if u.Lost != a.gaps() || !impl.UnpackerOk(u) {
		t.Fatalf("with the arrivals %v from the count %d on, the unpacker is %s", a, j.frames[0].Count, shown(u))
	}
	if a[len(a)-1] && u.Next != j.packer.Count {
		t.Fatalf("with the arrivals %v from the count %d on, the next one is %d", a, j.frames[0].Count, u.Next)
	}
	if a.whole(0, len(a)-1) && (u.Rest != "" || !u.Synced) {
		t.Fatalf("behind all frames, the unpacker is %s", shown(u))
	}
}

// mixedJourney sends n packets of many lengths; sometimes frames are taken or filled in between.
func mixedJourney(t *testing.T, channel, count, n int) *journey {
	t.Helper()
	j := newJourney(channel, count)
	noise := mixedBytes(n + 40)
	for i := range n {
		length := int(noise[i]) % (impl.MaxPacketData + 1)
		if i%5 == 0 {
			length = impl.MaxPacketData - i%3
		}
		j.send(t, impl.Packet{Apid: i % 16, Seq: (257*i + count) % 65536, Data: noise[i : i+length]})
		if i%4 == 1 {
			j.take()
		}
		if i%9 == 8 {
			j.packer = impl.FillPacker(j.packer)
		}
	}
	j.end(t)
	return j
}

func TestAllPacketsComeOutOfAllFrames(t *testing.T) {
	for n := 1; n < 120; n++ {
		j := mixedJourney(t, n%3, 37*n%256, n)
		j.check(t, arrivalsBut(len(j.frames), -1, -1))
	}
	j := mixedJourney(t, 2, 17, 2000)
	if len(j.frames) < 3*256 {
		t.Errorf("%d frames are too few", len(j.frames))
	}
	j.check(t, arrivalsBut(len(j.frames), -1, -1))
}

// One packet begins at each index of a frame, with data of each length, and each frame is lost.
func TestPacketsThatLieOverSeveralFrames(t *testing.T) {
	frames := map[int]int{}
	firsts := map[int]bool{}
	for at := range impl.FrameData {
		for length := range impl.MaxPacketData + 1 {
			j := newJourney(1, (253+at)%256)
			j.send(t, impl.Packet{Apid: 1, Data: mixedBytes((at + 20) % impl.FrameData)})
			j.send(t, impl.Packet{Apid: 2, Seq: at, Data: mixedBytes(length)})
			j.send(t, impl.Packet{Apid: 3, Seq: length})
			j.end(t)
			middle := j.packets[1]
			frames[middle.last-middle.first+1]++
			for _, f := range j.frames {
				firsts[f.First] = true
			}
			for lost := -1; lost < len(j.frames); lost++ {
				j.check(t, arrivalsBut(len(j.frames), lost, lost))
			}
		}
	}
	if len(frames) != 3 || frames[1] == 0 || frames[2] == 0 || frames[3] == 0 {
		t.Errorf("packets by the number of their frames: %v", frames)
	}
	if len(firsts) != impl.FrameData+1 || !firsts[0] || !firsts[23] || !firsts[impl.NoPacket] {
		t.Errorf("indices at which the first packet of a frame begins: %v", firsts)
	}
}

// The Count goes from 255 to 0 at the beginning, in the middle and at the end of these frames.
func TestEachRunOfFramesLost(t *testing.T) {
	for _, count := range []int{0, 100, 200, 225, 240, 254, 255} {
		j := mixedJourney(t, count%3, count, 30)
		for a := range j.frames {
			for b := a; b < len(j.frames); b++ {
				j.check(t, arrivalsBut(len(j.frames), a, b))
			}
		}
	}
}

func TestEachTwoFramesLost(t *testing.T) {
	for _, count := range []int{0, 235, 255} {
		j := mixedJourney(t, 0, count, 25)
		for a := range j.frames {
			for b := range a {
				list := arrivalsBut(len(j.frames), a, a)
				list[b] = false
				j.check(t, list)
				// And these two alone arrive.
				for i := range list {
					list[i] = i == a || i == b
				}
				j.check(t, list)
			}
		}
	}
}

// Every choice of lost frames, of a few frames.
func TestAllChoicesOfLostFrames(t *testing.T) {
	for _, count := range []int{0, 250, 255} {
		j := mixedJourney(t, 2, count, 9)
		list := make(arrivals, len(j.frames))
		if len(list) > 14 {
			t.Fatalf("%d frames are too many", len(list))
		}
		for choice := range 1 << len(list) {
			for i := range list {
				list[i] = choice>>i&1 == 1
			}
			j.check(t, list)
		}
	}
}

func TestManyChoicesOfLostFrames(t *testing.T) {
	for seed := range 60 {
		j := mixedJourney(t, seed%3, 11*seed%256, 300)
		for percent := 1; percent < 100; percent += 7 {
			list := make(arrivals, len(j.frames))
			state := 100*seed + percent
			for i := range list {
				var number int
				state, number = draw(state, 100)
				list[i] = number >= percent
			}
			j.check(t, list)
		}
	}
}

// A Count of 8 bits tells of up to 255 frames in a row that they are lost.
func TestTheMostFramesInARowLost(t *testing.T) {
	for _, count := range []int{0, 1, 128, 255} {
		j := mixedJourney(t, 1, count, 700)
		for _, n := range []int{1, 2, 128, 254, 255} {
			for a := 0; a+n <= len(j.frames); a += 31 {
				j.check(t, arrivalsBut(len(j.frames), a, a+n-1))
			}
		}
	}
}

// The frames of three channels come mixed; each unpacker takes those of its own channel.
func TestFramesOfSeveralChannels(t *testing.T) {
	journeys := []*journey{}
	mixed := []impl.Frame{}
	for channel := range impl.MaxChannels {
		journeys = append(journeys, mixedJourney(t, channel, 250, 40))
	}
	for i := range 200 {
		for _, j := range journeys {
			if i < len(j.frames) && i%6 != j.packer.Channel {
				mixed = append(mixed, j.frames[i])
			}
		}
	}
	for channel, j := range journeys {
		own := []impl.Frame{}
		for i, f := range j.frames {
			if i%6 != channel {
				own = append(own, f)
			}
		}
		u, got := impl.PushFrames(impl.NewUnpacker(channel), mixed)
		v, want := impl.PushFrames(impl.NewUnpacker(channel), own)
		if u != v || !slices.Equal(got, want) || len(got) == 0 {
			t.Errorf("on the channel %d: %s packets, want %s", channel, shown(u, len(got)), shown(v, len(want)))
		}
	}
}

// Frames go through a channel that loses and disturbs blocks, one after the other.
func TestFramesThroughAChannel(t *testing.T) {
	for _, loss := range []int{0, 5, 30, 90} {
		j := mixedJourney(t, 0, 240, 400)
		c := impl.Channel{Seed: 17 * loss, Burst: 60, Loss: loss}
		list := make(arrivals, len(j.frames))
		for i, f := range j.frames {
			var block string
			c, block = impl.SendBlock(c, impl.MakeBlock(impl.EncodeFrame(f)))
			if block == "" {
				continue
			}
			text, _, read := impl.ReadBlock(block[len(impl.SyncMark):])
			came, ok := impl.DecodeFrame(text)
			if !read || !ok || came != f {
				t.Fatalf("the frame %s came as %s", shown(f), shown(came, read, ok))
			}
			list[i] = true
		}
		if list.whole(0, len(list)-1) != (loss == 0) {
			t.Errorf("with the loss %d: unexpected arrivals", loss)
		}
		j.check(t, list)
	}
}

// Each frame is pushed alone: the results are those of all together.
func TestPushFrameOneAfterTheOther(t *testing.T) {
	j := mixedJourney(t, 1, 230, 200)
	frames := slices.Concat(j.frames[:40], j.frames[43:90], j.frames[101:])
	u := impl.NewUnpacker(1)
	packets := []impl.Packet{}
	for _, f := range frames {
		next, list := impl.PushFrame(u, f)
		again, same := impl.PushFrame(u, f)
		if next != again || !slices.Equal(list, same) || !impl.UnpackerOk(next) {
			t.Fatalf("PushFrame(%s) = %s, and then %s", shown(u, f), shown(next, list), shown(again, same))
		}
		u = next
		packets = append(packets, list...)
	}
	v, all := impl.PushFrames(impl.NewUnpacker(1), frames)
	if u != v || !slices.Equal(packets, all) || u.Lost != 2 {
		t.Errorf("one after the other: %s packets, all together: %s", shown(u, len(packets)), shown(v, len(all)))
	}
}
