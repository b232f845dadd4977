package tests

import (
	"slices"
	"testing"

	"loop.example/g03316/impl"
)

// sendAll sends texts as blocks through a channel, at a time.
func sendAll(c *impl.Channel, flights *[]impl.Flight, at int, texts ...string) {
	for _, s := range texts {
		seed, block := sentBy(*c, impl.MakeBlock(s))
		c.Seed = seed
		if block != "" {
			*flights = append(*flights, impl.Flight{At: at, Data: block})
		}
	}
}

// downPackets makes a mission one that has sent the notice and packets down, in frames.
func downPackets(w *impl.Mission, packets ...impl.Packet) {
	r := w.Space.Receiver
	notice := noticePacket(impl.Notice{Expect: r.Expect, Locked: r.Locked, Again: r.Again}, w.Space.Board.Clock)
	for _, x := range append([]impl.Packet{notice}, packets...) {
		x.Seq = w.Space.Seq
		w.Space.Packer, _ = impl.PackPacket(w.Space.Packer, x)
		w.Space.Seq = (w.Space.Seq + 1) % 65536
	}
	p, frames := impl.TakeFrames(impl.FillPacker(w.Space.Packer))
	w.Space.Packer = p
	for _, f := range frames {
		sendAll(&w.Down, &w.Downs, w.Time+w.Light, impl.EncodeFrame(f))
	}
}

// checkSentDown checks that SendDown sends the notice and such packets, and that the rest changes so.
func checkSentDown(t *testing.T, name string, m impl.Mission, change func(w *impl.Mission), packets ...impl.Packet) {
	t.Helper()
	checkChange(t, name, impl.SendDown, m, func(w *impl.Mission) {
		downPackets(w, packets...)
		change(w)
	})
}

func partPacket(text string) impl.Packet { return impl.Packet{Apid: 3, Data: text} }

// loadedMission returns a calm mission at the time 40 with two records and queues of the files 3, 4
// and 7, of which the satellite does not know that they are there.
func loadedMission(t *testing.T) impl.Mission {
	t.Helper()
	m := calmMission(t, 40, 4)
	m.Space.Board.Recorder, m.Space.Board.Made = recorderOf(200, 1, 20, 0, 8), 40
	m.Space.Sent = []impl.Record{recordOf(4, 2, 30)}
	for file, queue := range map[int][]int{3: {1, -1}, 4: {-1, 20, -1}, 7: {0, 0}} {
		m.Space.Outs[file].Queue, m.Space.Outs[file].Done = queue, false
	}
	return m
}

func TestSendDownInSight(t *testing.T) {
	for _, o := range []impl.Orbit{orbit(10, 2, 3), orbit(10, 0, 1), orbit(7, 6, 7), orbit(1000, 41, 500)} {
		for at := 36; at < 56; at++ {
			m := loadedMission(t)
			m.Time, m.Orbit = at, o
			if at >= o.Start && (at-o.Start)%o.Period < o.Length {
				checkSentDown(t, shown(o, at), m, func(w *impl.Mission) {
					w.Space.Board.Recorder = recorderOf(200, 1, 20, 0, 8)
					x := w.Space.Board.Recorder.Records[0]
					w.Space.Board.Recorder.Records = w.Space.Board.Recorder.Records[1:]
					w.Space.Sent = append(w.Space.Sent, x)
				}, recordPacket(recordOf(10, 1, 20)))
			} else {
				checkChange(t, shown(o, at), impl.SendDown, m, noChange)
			}
		}
	}
}

// With nothing to send, the notice is sent all the same.
func TestSendDownOfNotices(t *testing.T) {
	for _, r := range receiversAt(200, 3) {
		for _, clock := range []int{0, 255, 256, 66051, 1000000} {
			m := calmMission(t, 40, 4)
			m.Space.Receiver, m.Space.Board.Clock, m.Space.Seq = r, clock, 65535
			checkSentDown(t, shown(r, clock), m, noChange)
			if got := impl.SendDown(m); got.Space.Seq != 0 || len(got.Downs) != 1 || got.Downs[0].At != 44 {
				t.Errorf("with %s, the Seq is %d and %d flights begin", shown(r), got.Space.Seq, len(got.Downs))
			}
		}
	}
	m := calmMission(t, 40, 4)
	m.Space.Board.Clock, m.Space.Seq, m.Space.Receiver = 66051, 258, impl.Receiver{Expect: 9, Locked: true, Again: true}
	f := impl.Frame{Count: 0, First: 0, Data: "\x01\x01\x02\x05\x09\x03\x01\x02\x03" + "\x0f\x00\x00\x0b" + "\x00\x00\x00\x00\x00\x00\x00\x00\x00\x00\x00"}
	if got := impl.SendDown(m).Downs; !slices.Equal(got, frameFlights(44, []impl.Frame{f})) {
		t.Errorf("a notice is sent as %s", shown(got))
	}
}

func TestSendDownOfPlannedFiles(t *testing.T) {
	three, four, seven := segmentText(3, 1, missionTexts()[3][24:]), endText(4, missionTexts()[4]), segmentText(7, 0, missionTexts()[7][:24])
	for file, part := range map[int]string{3: three, 4: four, 7: seven} {
		for _, plan := range [][]impl.Slot{slotsOf(40, file), slotsOf(39, 5, 40, file, 41, 4), slotsOf(40, file, 40, 4, 40, 3), slotsOf(90, 1, 40, file, 3, 3)} {
			m := loadedMission(t)
			m.Plan = plan
			checkSentDown(t, shown(plan), m, func(w *impl.Mission) { w.Space.Outs[file].Queue = m.Space.Outs[file].Queue[1:] }, partPacket(part))
		}
	}
	// Where the plan has nothing that can be sent, a record is.
	for _, plan := range [][]impl.Slot{nil, slotsOf(39, 3, 41, 3, 44, 4), slotsOf(40, 0), slotsOf(40, 5), slotsOf(40, 8), slotsOf(40, 200), slotsOf(40, 255), slotsOf(40, -1), slotsOf(40, -4), slotsOf(40, 1<<40), slotsOf(40, 1, 40, 3)} {
		m := loadedMission(t)
		m.Plan = plan
		m.Space.Outs[5].Done = false
		checkSentDown(t, shown(plan), m, func(w *impl.Mission) {
			w.Space.Board.Recorder.Records = w.Space.Board.Recorder.Records[1:]
			w.Space.Sent = append(w.Space.Sent, recordOf(10, 1, 20))
		}, recordPacket(recordOf(10, 1, 20)))
	}
}

func TestSendDownOfRecords(t *testing.T) {
	for _, list := range [][]impl.Record{{recordOf(0, 0, 6)}, {recordOf(39, 3, 40)}, {recordOf(3, 3, 40), recordOf(4, 3, 40), recordOf(39, 0, 6)}} {
		m := loadedMission(t)
		m.Space.Board.Recorder.Records = list
		checkSentDown(t, shown(list), m, func(w *impl.Mission) {
			w.Space.Board.Recorder.Records = list[1:]
			w.Space.Sent = append(w.Space.Sent, list[0])
		}, recordPacket(list[0]))
	}
	// The document has no limit for what was sent but that of a valid mission.
	for _, n := range []int{4999, 5000} {
		m := loadedMission(t)
		m.Space.Sent = make([]impl.Record, n)
		checkSentDown(t, shown("Sent", n), m, func(w *impl.Mission) {
			w.Space.Board.Recorder.Records = w.Space.Board.Recorder.Records[1:]
			w.Space.Sent = append(w.Space.Sent, recordOf(10, 1, 20))
		}, recordPacket(recordOf(10, 1, 20)))
	}
}

// One part after the other is sent: those of the first file first, then ends of files that are not
// known to be there, in turns that depend on the time.
func TestSendDownOfFiles(t *testing.T) {
	m := loadedMission(t)
	m.Space.Board.Recorder.Records = nil
	texts := missionTexts()
	for _, c := range []struct {
		file int
		part string
	}{
		{3, segmentText(3, 1, texts[3][24:])}, {3, endText(3, texts[3])}, {4, endText(4, texts[4])}, {4, segmentText(4, 20, texts[4][480:504])}, {4, endText(4, texts[4])}, {7, segmentText(7, 0, texts[7][:24])}, {7, segmentText(7, 0, texts[7][:24])},
	} {
		checkSentDown(t, shown(c), m, func(w *impl.Mission) { w.Space.Outs[c.file].Queue = m.Space.Outs[c.file].Queue[1:] }, partPacket(c.part))
		m = impl.SendDown(m)
		m.Time++
	}
	for at := 47; at < 80; at++ {
		file := []int{3, 3, 3, 3, 4, 7, 7, 7}[at%8]
		m.Time = at
		checkSentDown(t, shown("end", at), m, noChange, partPacket(endText(file, texts[file])))
	}
}

func TestSendDownOfEndsFromEachIndex(t *testing.T) {
	texts := missionTexts()
	for waiting := range 256 {
		for at := 40; at < 48; at++ {
			m := calmMission(t, at, 0)
			packets := []impl.Packet{}
			for i := range 8 {
				m.Space.Outs[i].Done = waiting>>i&1 == 0
				if file := (at + i) % 8; waiting>>file&1 == 1 && len(packets) == 0 {
					packets = append(packets, partPacket(endText(file, texts[file])))
				}
			}
			checkSentDown(t, shown("ends", waiting, at), m, noChange, packets...)
		}
	}
	// A file that is known to be there can have a queue, which goes before the ends of others.
	m := calmMission(t, 40, 0)
	m.Space.Outs[0].Done, m.Space.Outs[6].Queue = false, []int{0}
	checkSentDown(t, "a queue", m, func(w *impl.Mission) { w.Space.Outs[6].Queue = nil }, partPacket(segmentText(6, 0, "a")))
}

// What was made for a packet is made, also if the packer does not take it.
func TestSendDownWithPackersThatAreFull(t *testing.T) {
	for n := 4900; n <= 5000; n++ {
		m := loadedMission(t)
		m.Space.Packer = impl.Packer{Count: 250, Rest: mixedBytes(n), Starts: []int{0, 17, 4800}}
		checkSentDown(t, shown("record", n), m, func(w *impl.Mission) {
			w.Space.Board.Recorder.Records = w.Space.Board.Recorder.Records[1:]
			w.Space.Sent = append(w.Space.Sent, recordOf(10, 1, 20))
		}, recordPacket(recordOf(10, 1, 20)))
		got := impl.SendDown(m)
		if got.Space.Seq != 2 || len(got.Downs) < n/24 || got.Space.Packer.Count != (250+len(got.Downs))%256 {
			t.Errorf("with %d bytes, the Seq is %d and %d flights begin", n, got.Space.Seq, len(got.Downs))
		}
		m.Space.Board.Recorder.Records = nil
		checkSentDown(t, shown("part", n), m, func(w *impl.Mission) { w.Space.Outs[3].Queue = []int{-1} }, partPacket(segmentText(3, 1, missionTexts()[3][24:])))
		if got = impl.SendDown(m); len(got.Space.Outs[3].Queue) != 1 || got.Space.Seq != 2 {
			t.Errorf("with %d bytes, the part stays in the queue", n)
		}
	}
	// A part can be short enough where the notice is too long.
	m := loadedMission(t)
	m.Space.Board.Recorder.Records = nil
	m.Space.Packer = impl.Packer{Rest: mixedBytes(4992)}
	if got := impl.SendDown(m); got.Space.Seq != 2 || len(got.Downs) != 208 || len(got.Space.Packer.Rest) != 8 || got.Space.Packer.Starts[0] != 0 {
		t.Errorf("with 4992 bytes, %s is left", shown(got.Space.Packer))
	}
}

func TestSendDownThroughChannels(t *testing.T) {
	for _, loss := range []int{0, 30, 100} {
		for _, burst := range []int{0, 50, 100} {
			for seed := range 40 {
				m := loadedMission(t)
				m.Down = impl.Channel{Seed: 1600 * seed, Burst: burst, Loss: loss}
				m.Downs = []impl.Flight{{At: 1, Data: "z"}}
				m.Light = seed
				checkSentDown(t, shown(m.Down), m, func(w *impl.Mission) {
					w.Space.Board.Recorder.Records = w.Space.Board.Recorder.Records[1:]
					w.Space.Sent = append(w.Space.Sent, recordOf(10, 1, 20))
				}, recordPacket(recordOf(10, 1, 20)))
				if got := impl.SendDown(m); loss == 100 && len(got.Downs) != 1 || loss == 0 && len(got.Downs) != 3 || got.Down.Seed == m.Down.Seed {
					t.Errorf("through %s, there are %d flights", shown(m.Down), len(got.Downs))
				}
			}
		}
	}
}

func TestSendDownAtLimits(t *testing.T) {
	m := calmMission(t, 1000000, 50)
	checkSentDown(t, "MaxTime", m, noChange)
	if got := impl.SendDown(m); len(got.Downs) != 1 || got.Downs[0].At != 1000050 || !impl.MissionOk(got) {
		t.Error("nothing valid is sent at MaxTime")
	}
	// The document has no limit for the flights but that of a valid mission.
	for _, n := range []int{998, 999, 1000} {
		m := calmMission(t, 40, 4)
		m.Downs = slices.Repeat([]impl.Flight{{At: 9, Data: "z"}}, n)
		checkSentDown(t, shown("flights", n), m, noChange)
	}
}
