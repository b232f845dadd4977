package tests

import (
	"slices"
	"strings"
	"testing"

	"loop.example/g03316/impl"
)

// receiving returns a calm mission at the time 40 with blocks on their way down, which have been on
// it for 4 units of time.
func receiving(t *testing.T, flights ...impl.Flight) impl.Mission {
	t.Helper()
	m := calmMission(t, 40, 4)
	m.Downs = flights
	return m
}

// arriving returns a mission to which packets come, in frames that follow one another from Count 0 on.
func arriving(t *testing.T, packets ...impl.Packet) impl.Mission {
	t.Helper()
	return receiving(t, frameFlights(40, framesWith(0, packets...))...)
}

// checkHeardDown checks what is heard at once: all flights are removed, the unpacker takes the frames
// in them, and the rest changes so.
func checkHeardDown(t *testing.T, name string, m impl.Mission, change func(w *impl.Mission)) {
	t.Helper()
	checkChange(t, name, impl.HearDown, m, func(w *impl.Mission) {
		w.Downs = nil
		for _, flight := range m.Downs {
			if text, _, ok := impl.ReadBlock(strings.TrimPrefix(flight.Data, impl.SyncMark)); ok && strings.HasPrefix(flight.Data, impl.SyncMark) {
				f, _ := impl.DecodeFrame(text)
				w.Ground.Unpacker, _ = impl.PushFrame(w.Ground.Unpacker, f)
			}
		}
		change(w)
	})
}

// tells makes the ground one that has heard a notice, with the clock of the board 4 units before.
func tells(w *impl.Mission, n impl.Notice, clock int) {
	w.Ground.Notice = n
	w.Ground.Sender = impl.HearNotice(w.Ground.Sender, n)
	w.Ground.Pairs = append(w.Ground.Pairs, pair(clock, w.Time-4))
}

func noticePacket(n impl.Notice, clock int) impl.Packet {
	return impl.Packet{Apid: 1, Data: noticeData(n, clock)}
}

func recordPacket(x impl.Record) impl.Packet { return impl.Packet{Apid: 2, Data: recordText(x)} }

func TestHearDownOfFlightsThatArrive(t *testing.T) {
	checkChange(t, "no flights", impl.HearDown, receiving(t), noChange)
	x := recordOf(7, 2, 12)
	for _, at := range []int{0, 1, 39, 40, 41, 44, 1000050} {
		m := receiving(t, frameFlights(at, framesWith(9, recordPacket(x)))...)
		if at > 40 {
			checkChange(t, shown("At", at), impl.HearDown, m, noChange)
			continue
		}
		checkHeardDown(t, shown("At", at), m, func(w *impl.Mission) { w.Ground.Records = []impl.Record{x} })
	}
	// Those that arrive are heard in their order, whatever their times are.
	flights := []impl.Flight{}
	for i, at := range []int{41, 40, 50, 12, 40, 43} {
		flights = append(flights, frameFlights(at, framesWith(i, recordPacket(recordOf(i, 2, 12))))...)
	}
	m := receiving(t, flights...)
	checkChange(t, "flights of many times", impl.HearDown, m, func(w *impl.Mission) {
		w.Downs = []impl.Flight{m.Downs[0], m.Downs[2], m.Downs[5]}
		w.Ground.Records = []impl.Record{recordOf(1, 2, 12), recordOf(3, 2, 12), recordOf(4, 2, 12)}
		w.Ground.Unpacker = impl.Unpacker{Next: 5, Synced: true, Lost: 1}
	})
}

func TestHearDownOfWhatIsNoFrame(t *testing.T) {
	one, two := recordOf(1, 2, 12), recordOf(2, 2, 12)
	frames := framesWith(0, recordPacket(one))
	text := impl.EncodeFrame(frames[0])
	bad := unreadableBlocks(text)
	for _, s := range []string{
		"z", mixedBytes(29), mixedBytes(200), text[:28], text + "z", changed(text, 5, 1), impl.SealText(""), impl.SealText("z"), impl.SealText(text[:26]), impl.SealText("\x03" + text[1:27]), impl.SealText("\x00\x00\x18" + text[3:27]),
		impl.EncodeCommand(impl.KindData, 0, "zz"), impl.EncodeCommand(impl.KindUnlock, 0, ""),
	} {
		bad = append(bad, impl.MakeBlock(s))
	}
	for i, data := range bad {
		flight := impl.Flight{At: 40, Data: data}
		checkChange(t, shown("bad", i, data), impl.HearDown, receiving(t, flight), func(w *impl.Mission) { w.Downs, w.Bad = nil, 1 })
		m := receiving(t, slices.Concat(frameFlights(40, frames), []impl.Flight{flight, flight}, frameFlights(40, framesWith(1, recordPacket(two))))...)
		checkChange(t, shown("among others", i, data), impl.HearDown, m, func(w *impl.Mission) {
			w.Downs, w.Bad = nil, 2
			w.Ground.Records = []impl.Record{one, two}
			w.Ground.Unpacker = impl.Unpacker{Next: 2, Synced: true}
		})
	}
	// A frame of another channel is a frame, but the unpacker does not take it.
	for channel := 1; channel <= 2; channel++ {
		frames[0].Channel = channel
		checkChange(t, "another channel", impl.HearDown, receiving(t, frameFlights(40, frames)...), func(w *impl.Mission) { w.Downs = nil })
	}
}

func TestHearDownOfDisturbedBlocks(t *testing.T) {
	x := recordOf(7, 2, 12)
	block := frameFlights(40, framesWith(0, recordPacket(x)))[0].Data
	n := len(block) - 4
	for place := 0; place <= 7*n; place += 5 {
		for _, bits := range []int{1, 2, n / 2, n} {
			m := receiving(t, impl.Flight{At: 40, Data: impl.SyncMark + hitBits(block[4:], place, bits)})
			checkHeardDown(t, shown("burst", place, bits), m, func(w *impl.Mission) { w.Ground.Records = []impl.Record{x} })
		}
	}
}

func TestHearDownOfNotices(t *testing.T) {
	for _, n := range append(noticesWith(0), append(noticesWith(8), noticesWith(255)...)...) {
		for _, clock := range []int{1, 255, 256, 65536, 66051, 1000000, 2000000} {
			m := arriving(t, noticePacket(n, clock))
			m.Ground.Sender = senderFrom(6, 3)
			m.Ground.Notice = impl.Notice{Expect: 77, Again: true}
			checkHeardDown(t, shown(n, clock), m, func(w *impl.Mission) { tells(w, n, clock) })
		}
	}
	// The notice tells the sender what was taken.
	m := arriving(t, noticePacket(impl.Notice{Expect: 8}, 44))
	m.Ground.Sender = impl.Sender{Next: 9, Window: 5, Waiting: []impl.Sent{{Seq: 6, Data: "6"}, {Seq: 7, Data: "7"}, {Seq: 8, Data: "8"}}, Done: 3}
	checkHeardDown(t, "two were taken", m, func(w *impl.Mission) {
		w.Ground.Notice = impl.Notice{Expect: 8}
		w.Ground.Sender = impl.Sender{Next: 9, Window: 5, Waiting: []impl.Sent{{Seq: 8, Data: "8"}}, Done: 5}
		w.Ground.Pairs = pairsOf(44, 36)
	})
}

// manyPairs returns n pairs of the first times.
func manyPairs(n int) []impl.Pair {
	list := []impl.Pair{}
	for i := range n {
		list = append(list, pair(3*i, 2*i))
	}
	return list
}

// A pair is left out if it does not follow the others; the notice with it is heard all the same.
func TestHearDownOfPairs(t *testing.T) {
	n := impl.Notice{Expect: 3, Locked: true}
	for _, c := range []struct {
		pairs       []impl.Pair
		clock, time int
		added       bool
	}{
		{nil, 0, 4, true}, {nil, 0, 3, false}, {nil, 0, 0, false}, {nil, 2000000, 1000000, true}, {nil, 2000001, 1000000, false}, {nil, 16777215, 1000000, false},
		{pairsOf(20, 30), 21, 35, true}, {pairsOf(20, 30), 20, 35, false}, {pairsOf(20, 30), 19, 35, false}, {pairsOf(20, 30), 21, 34, false}, {pairsOf(20, 30), 21, 33, false},
		{manyPairs(199), 2000000, 1000000, true}, {manyPairs(200), 2000000, 1000000, false},
	} {
		m := arriving(t, noticePacket(n, c.clock))
		m.Time, m.Ground.Pairs = c.time, c.pairs
		m.Downs[0].At = c.time
		checkHeardDown(t, shown(c), m, func(w *impl.Mission) {
			w.Ground.Notice = n
			if c.added {
				w.Ground.Pairs = append(w.Ground.Pairs, pair(c.clock, c.time-4))
			}
		})
	}
	// The time is that of hearing without the light, whenever the flight could have been heard.
	for light := range 51 {
		m := arriving(t, noticePacket(n, 60))
		m.Time, m.Light = 100, light
		checkHeardDown(t, shown("Light", light), m, func(w *impl.Mission) { w.Ground.Notice, w.Ground.Pairs = n, pairsOf(60, 100-light) })
	}
}

func TestHearDownOfRecords(t *testing.T) {
	for _, x := range []impl.Record{{}, recordOf(65535, 3, 40), recordOf(256, 1, 6), {Id: 1, Priority: 2, Time: 1000000, Data: "z"}} {
		m := arriving(t, recordPacket(x))
		m.Ground.Records = []impl.Record{recordOf(9, 1, 20)}
		// The same record comes twice if it is sent twice.
		checkHeardDown(t, shown(x), m, func(w *impl.Mission) { w.Ground.Records = append(w.Ground.Records, x) })
		m = arriving(t, recordPacket(x), recordPacket(x))
		checkHeardDown(t, shown("twice", x), m, func(w *impl.Mission) { w.Ground.Records = []impl.Record{x, x} })
	}
	// The document has no limit for the records but that of a valid mission.
	for _, n := range []int{4998, 4999, 5000} {
		m := arriving(t, recordPacket(recordOf(3, 1, 20)))
		m.Ground.Records = make([]impl.Record, n)
		checkHeardDown(t, shown("records", n), m, func(w *impl.Mission) { w.Ground.Records = append(w.Ground.Records, recordOf(3, 1, 20)) })
	}
}

func TestHearDownOfParts(t *testing.T) {
	for file := range 8 {
		for _, k := range []int{0, 1, 2, 24} {
			data := mixedBytes(24 - file - k/2)
			m := arriving(t, impl.Packet{Apid: 3, Data: segmentText(file, k, data)})
			checkHeardDown(t, shown("segment", file, k), m, func(w *impl.Mission) { w.Ground.Files[file].Parts[k] = data })
		}
		text := mixedBytes(20*file + 3)
		checkHeardDown(t, shown("end", file), arriving(t, impl.Packet{Apid: 3, Data: endText(file, text)}), func(w *impl.Mission) {
			w.Ground.Files[file].Size, w.Ground.Files[file].Check = len(text), remainder(text)
		})
		// Nothing changes for what is known already.
		m := arriving(t, impl.Packet{Apid: 3, Data: endText(file, "z")}, impl.Packet{Apid: 3, Data: segmentText(file, 0, "y")})
		m.Ground.Files[file] = fileInOf(file, mixedBytes(30))
		checkHeardDown(t, shown("known", file), m, noChange)
	}
	// What is no part is not counted as bad.
	for _, s := range []string{"", "z", "\x00\x08\x00z", "\x00\x00\x19z", "\x00\x00\x00", "\x01\x08\x00\x00\x00\x00", "\x02\x00\x00\x00\x00\x00", mixedBytes(40)} {
		checkHeardDown(t, shown("no part", s), arriving(t, impl.Packet{Apid: 3, Data: s}), noChange)
	}
}

func TestHearDownOfOtherPackets(t *testing.T) {
	notice, record := noticeData(impl.Notice{Expect: 3}, 44), recordText(recordOf(3, 1, 20))
	list := []impl.Packet{}
	for _, apid := range []int{0, 4, 5, 14} {
		list = append(list, impl.Packet{Apid: apid}, impl.Packet{Apid: apid, Data: notice}, impl.Packet{Apid: apid, Data: record}, impl.Packet{Apid: apid, Data: endText(3, "z")})
	}
	for _, s := range []string{"", "z", notice[:2], notice[:4], notice + "\x00", notice + notice, record, "\x03\x04\x00\x00\x30", "\x03\xff\x00\x00\x30"} {
		list = append(list, impl.Packet{Apid: 1, Data: s})
	}
	for _, s := range []string{"", "z", notice, record[:5], "\x00\x00\x04\x00\x00\x00", "\x00\x00\x00\x0f\x42\x41", "\x00\x00\xff\x00\x00\x00z"} {
		list = append(list, impl.Packet{Apid: 2, Data: s})
	}
	for _, p := range list {
		checkHeardDown(t, shown("bad", p), arriving(t, p), func(w *impl.Mission) { w.Bad = 1 })
		// The packets around it in the same frames are heard.
		m := arriving(t, noticePacket(impl.Notice{Expect: 9}, 33), p, p, recordPacket(recordOf(6, 1, 20)))
		checkHeardDown(t, shown("bad among others", p), m, func(w *impl.Mission) {
			w.Bad = 2
			tells(w, impl.Notice{Expect: 9}, 33)
			w.Ground.Records = []impl.Record{recordOf(6, 1, 20)}
		})
	}
	// Packets that only fill frames are not bad.
	checkHeardDown(t, "idle", arriving(t, impl.Packet{Apid: 15, Data: notice}, impl.Packet{Apid: 15}), noChange)
}

func TestHearDownOverGaps(t *testing.T) {
	one, two, three := recordOf(1, 3, 40), recordOf(2, 3, 40), recordOf(3, 3, 10)
	frames := framesWith(250, recordPacket(one), recordPacket(two), recordPacket(three))
	for lost := range len(frames) {
		m := receiving(t, frameFlights(40, slices.Delete(slices.Clone(frames), lost, lost+1))...)
		m.Ground.Unpacker.Next = 250
		checkHeardDown(t, shown("lost", lost), m, func(w *impl.Mission) {
			w.Ground.Records = [][]impl.Record{{two, three}, {three}, {one, three}, {one}, {one, two}}[lost]
		})
	}
	// A packet can come in more than one call.
	m := receiving(t, frameFlights(40, frames)...)
	for i := range frames {
		m.Downs[i].At = 40 + 3*i
	}
	for at := 40; at < 60; at++ {
		m.Time = at
		m = impl.HearDown(m)
	}
	if !slices.Equal(m.Ground.Records, []impl.Record{one, two, three}) || len(m.Downs) != 0 {
		t.Errorf("the records are %s", shown(m.Ground.Records))
	}
}

func TestHearDownAtLimits(t *testing.T) {
	for _, n := range []int{0, 3, 999996, 999997, 999998, 999999, 1000000} {
		m := receiving(t, append(frameFlights(40, framesWith(0, impl.Packet{Apid: 4}, impl.Packet{Apid: 2}, impl.Packet{Apid: 3})), impl.Flight{At: 40, Data: "z"})...)
		m.Bad = n
		checkHeardDown(t, shown("Bad", n), m, func(w *impl.Mission) { w.Bad = min(n+3, 1000000) })
	}
	m := receiving(t, slices.Repeat([]impl.Flight{{At: 40, Data: "z"}}, 1000)...)
	checkHeardDown(t, "1000 flights", m, func(w *impl.Mission) { w.Bad = 1000 })
	m.Time = 1000000
	checkHeardDown(t, "MaxTime", m, func(w *impl.Mission) { w.Bad = 1000 })
}
