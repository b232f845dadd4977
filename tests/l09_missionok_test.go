package tests

import (
	"slices"
	"strings"
	"testing"

	"loop.example/g03316/impl"
)

// missionTexts are the files of most missions of these tests: empty, short, of whole segments, with a
// shorter last one, and as long as a file can be.
func missionTexts() []string {
	return []string{"zero", "", mixedBytes(24), mixedBytes(25), mixedBytes(600), mixedBytes(100), "a", mixedBytes(48)}
}

// clearChannel returns a channel that loses and disturbs nothing.
func clearChannel(seed int) impl.Channel { return impl.Channel{Seed: seed} }

// calmMission returns a mission at a time at which nothing is on its way, and the sky is clear.
func calmMission(t *testing.T, at, light int) impl.Mission {
	t.Helper()
	d := impl.Drift{Rate: 20, Offset: 5}
	m, ok := impl.NewMission(light, d, orbit(1, 0, 1), nil, clearChannel(7), clearChannel(9), 200, nil, missionTexts())
	if !ok {
		t.Fatal("the mission is not valid")
	}
	m.Time = at
	m.Space.Board.Clock = min(shownAt(d, at), 1000000)
	return m
}

// orderPayload returns the payload of a command with an order.
func orderPayload(x impl.Order) string { return "\x00" + orderText(x) }

// missingPayload returns the payload of a command with a list of missing segments.
func missingPayload(file int, list ...int) string { return "\x01" + listText(file, list) }

// commandFlight returns the flight of a command with a number.
func commandFlight(at, seq int, payload string) impl.Flight {
	return impl.Flight{At: at, Data: impl.MakeBlock(impl.EncodeCommand(impl.KindData, seq, payload))}
}

// framesWith returns the frames in which packets lie, the first one with a Count.
func framesWith(count int, packets ...impl.Packet) []impl.Frame {
	p := impl.Packer{Count: count}
	for _, x := range packets {
		p, _ = impl.PackPacket(p, x)
	}
	_, frames := impl.TakeFrames(impl.FillPacker(p))
	return frames
}

// frameFlights returns the flights of frames.
func frameFlights(at int, frames []impl.Frame) []impl.Flight {
	list := []impl.Flight{}
	for _, f := range frames {
		list = append(list, impl.Flight{At: at, Data: impl.MakeBlock(impl.EncodeFrame(f))})
	}
	return list
}

// noticeData returns the data of a packet with a notice and the clock of the board.
func noticeData(n impl.Notice, clock int) string {
	return impl.EncodeNotice(n) + string([]byte{byte(clock >> 16), byte(clock >> 8), byte(clock)})
}

// sampleMission returns a mission with some of everything, new memory each time.
func sampleMission() impl.Mission {
	texts := missionTexts()
	m := impl.Mission{
		Time: 60, Light: 3, Drift: impl.Drift{Rate: -100, Offset: 7}, Orbit: orbit(10, 0, 4),
		Plan:    slotsOf(10, 3, 61, 200, 62, 5),
		Up:      impl.Channel{Seed: 7, Burst: 30, Loss: 20},
		Down:    impl.Channel{Seed: 99, Burst: 40, Loss: 10},
		Ups:     []impl.Flight{commandFlight(60, 9, orderPayload(orderAt(90))), {At: 60, Data: "zz"}, commandFlight(60, 10, missingPayload(3, 1, 0)), commandFlight(63, 11, "z")},
		Offered: []string{"one", "two", "three"}, Took: []string{"one", "two"},
		Bad: 4,
	}
	m.Downs = frameFlights(60, framesWith(30, impl.Packet{Apid: 1, Data: noticeData(impl.Notice{Expect: 8}, 58)}, impl.Packet{Apid: 2, Data: recordText(recordOf(8, 3, 20))}))
	m.Downs = append(m.Downs, frameFlights(63, framesWith(32, impl.Packet{Apid: 3, Data: segmentText(4, 3, "z")}))...)
	m.Ground = impl.Ground{
		Offers: []string{"four", "five"}, Sender: impl.Sender{Next: 9, Window: 5, Waiting: []impl.Sent{{Seq: 7, Data: "two"}, {Seq: 8, Data: "three"}}, Done: 1},
		Notice: impl.Notice{Expect: 7, Again: true}, Unpacker: impl.NewUnpacker(0), Pairs: pairsOf(7, 0, 50, 48), Records: []impl.Record{recordOf(3, 1, 20), recordOf(1, 2, 10)},
		Told: []bool{true, false, false, false, false, false, true, false},
	}
	m.Ground.Unpacker = impl.Unpacker{Next: 30, Synced: true, Rest: "\x01", Lost: 2}
	m.Space = impl.Space{Receiver: impl.Receiver{Expect: 9, Taken: 2}, Board: sampleBoard(), Packer: impl.Packer{Count: 33, Rest: "zzz", Starts: []int{1}}, Seq: 70, Files: texts, Begun: 2, Sent: []impl.Record{recordOf(5, 0, 6)}}
	for i, text := range texts {
		m.Ground.Files = append(m.Ground.Files, fileInOf(i, text, 1))
		m.Space.Outs = append(m.Space.Outs, impl.FileOut{File: i, Data: text, Queue: []int{-1}, Done: i%3 == 0})
	}
	m.Space.Outs[4].Queue = []int{20, 3, -1}
	return m
}

// missionWith returns the sample mission with a change.
func missionWith(change func(m *impl.Mission)) impl.Mission {
	m := sampleMission()
	change(&m)
	return m
}

// missionSteps are the functions that make a later mission of one.
var missionSteps = map[string]func(m impl.Mission) impl.Mission{
	"AdvanceBoard": impl.AdvanceBoard, "HearUplink": impl.HearUplink, "SendDown": impl.SendDown, "HearDown": impl.HearDown,
	"AskMissing": impl.AskMissing, "SendUp": impl.SendUp, "StepMission": impl.StepMission, "ClearSky": impl.ClearSky,
	"RunMission":      func(m impl.Mission) impl.Mission { return impl.RunMission(m, 1) },
	"RunMission of 3": func(m impl.Mission) impl.Mission { return impl.RunMission(m, 3) },
	"GiveOrder": func(m impl.Mission) impl.Mission {
		m, _ = impl.GiveOrder(m, orderAt(70))
		return m
	},
}

// checkMissionOk checks a mission, and that nothing is done with one that is not valid.
func checkMissionOk(t *testing.T, name string, m impl.Mission, want bool) {
	t.Helper()
	if got := impl.MissionOk(m); got != want {
		t.Errorf("MissionOk with %s is %v", name, got)
	}
	if want {
		return
	}
	if impl.LedgerOk(m) {
		t.Errorf("LedgerOk with %s is true", name)
	}
	for step, perform := range missionSteps {
		if got := perform(m); !sameMissions(got, m) {
			t.Errorf("%s with %s:\n%s", step, name, difference(got, m))
		}
	}
	if _, ok := impl.GiveOrder(m, orderAt(70)); ok {
		t.Errorf("GiveOrder with %s returns true", name)
	}
}

// checkMissionNumbers checks the sample mission with numbers around the ends of a range in one place.
func checkMissionNumbers(t *testing.T, name string, low, high int, place func(m *impl.Mission) *int) {
	t.Helper()
	for _, n := range numbersAround(low, high) {
		m := sampleMission()
		*place(&m) = n
		checkMissionOk(t, shown(name, n), m, within(n, low, high))
	}
}

func TestNumbersOfMissions(t *testing.T) {
	checkMissionOk(t, "nothing changed", sampleMission(), true)
	checkMissionOk(t, "nothing at all", impl.Mission{}, false)
	checkMissionNumbers(t, "Time", 0, 1000000, func(m *impl.Mission) *int { return &m.Time })
	checkMissionNumbers(t, "Light", 0, 50, func(m *impl.Mission) *int { return &m.Light })
	checkMissionNumbers(t, "Bad", 0, 1000000, func(m *impl.Mission) *int { return &m.Bad })
	checkMissionNumbers(t, "Rate", -100, 100, func(m *impl.Mission) *int { return &m.Drift.Rate })
	checkMissionNumbers(t, "Offset", 0, 1000, func(m *impl.Mission) *int { return &m.Drift.Offset })
	checkMissionNumbers(t, "Period", 4, 1000, func(m *impl.Mission) *int { return &m.Orbit.Period })
	checkMissionNumbers(t, "Start", 0, 9, func(m *impl.Mission) *int { return &m.Orbit.Start })
	checkMissionNumbers(t, "Length", 1, 10, func(m *impl.Mission) *int { return &m.Orbit.Length })
	for name, channel := range map[string]func(m *impl.Mission) *impl.Channel{
		"Up": func(m *impl.Mission) *impl.Channel { return &m.Up }, "Down": func(m *impl.Mission) *impl.Channel { return &m.Down },
	} {
		checkMissionNumbers(t, name+" Seed", 0, 65535, func(m *impl.Mission) *int { return &channel(m).Seed })
		checkMissionNumbers(t, name+" Burst", 0, 100, func(m *impl.Mission) *int { return &channel(m).Burst })
		checkMissionNumbers(t, name+" Loss", 0, 100, func(m *impl.Mission) *int { return &channel(m).Loss })
	}
}

func TestPlansOfMissions(t *testing.T) {
	for _, n := range []int{0, 1, 1499, 1500, 1501, 3000} {
		checkMissionOk(t, shown("slots", n), missionWith(func(m *impl.Mission) { m.Plan = make([]impl.Slot, n) }), n <= 1500)
	}
	// The slots need not be those of a plan.
	checkMissionOk(t, "any slots", missionWith(func(m *impl.Mission) { m.Plan = slotsOf(-5, 300, -6, -1, 2000000, 8) }), true)
}

func TestFlightsOfMissions(t *testing.T) {
	for name, flights := range map[string]func(m *impl.Mission) *[]impl.Flight{
		"Ups": func(m *impl.Mission) *[]impl.Flight { return &m.Ups }, "Downs": func(m *impl.Mission) *[]impl.Flight { return &m.Downs },
	} {
		for _, n := range []int{0, 1, 999, 1000, 1001, 2000} {
			m := sampleMission()
			*flights(&m) = slices.Repeat([]impl.Flight{{At: 60, Data: "z"}}, n)
			checkMissionOk(t, shown(name, n), m, n <= 1000)
		}
		for at := range 3 {
			checkMissionNumbers(t, name+" At", 0, 1000050, func(m *impl.Mission) *int { return &(*flights(m))[at].At })
			for _, n := range []int{0, 1, 2, 4, 200, 403, 404, 405, 1000} {
				m := sampleMission()
				(*flights(&m))[at].Data = strings.Repeat("z", n)
				checkMissionOk(t, shown(name, at, "bytes", n), m, within(n, 1, 404))
			}
		}
	}
	// There can be 1000 flights in each direction.
	checkMissionOk(t, "many flights", missionWith(func(m *impl.Mission) {
		m.Ups = slices.Repeat([]impl.Flight{{Data: "z"}}, 1000)
		m.Downs = slices.Repeat([]impl.Flight{{At: 1000050, Data: mixedBytes(404)}}, 1000)
	}), true)
}

func TestGroundsOfMissions(t *testing.T) {
	checkMissionNumbers(t, "Sender Done", 0, 1000000, func(m *impl.Mission) *int { return &m.Ground.Sender.Done })
	checkMissionNumbers(t, "Sender Window", 2, 20, func(m *impl.Mission) *int { return &m.Ground.Sender.Window })
	checkMissionNumbers(t, "Sender Next", 9, 9, func(m *impl.Mission) *int { return &m.Ground.Sender.Next })
	checkMissionNumbers(t, "Notice Expect", 0, 255, func(m *impl.Mission) *int { return &m.Ground.Notice.Expect })
	checkMissionNumbers(t, "Unpacker Channel", 0, 0, func(m *impl.Mission) *int { return &m.Ground.Unpacker.Channel })
	checkMissionNumbers(t, "Unpacker Next", -1, 255, func(m *impl.Mission) *int { return &m.Ground.Unpacker.Next })
	checkMissionNumbers(t, "Unpacker Lost", 0, 1000000, func(m *impl.Mission) *int { return &m.Ground.Unpacker.Lost })
	checkMissionOk(t, "an Unpacker not Synced", missionWith(func(m *impl.Mission) { m.Ground.Unpacker.Synced = false }), false)
	for n, want := range map[int]bool{0: true, 200: true, 201: false} {
		checkMissionOk(t, shown("pairs", n), missionWith(func(m *impl.Mission) { m.Ground.Pairs = pairsUpTo(n) }), want)
	}
	checkMissionOk(t, "equal pairs", missionWith(func(m *impl.Mission) { m.Ground.Pairs = pairsOf(7, 0, 7, 1) }), false)
	checkMissionOk(t, "a notice", missionWith(func(m *impl.Mission) { m.Ground.Notice.Locked = true }), true)
	for _, n := range []int{0, 1, 199, 200, 201, 400} {
		checkMissionOk(t, shown("offers", n), missionWith(func(m *impl.Mission) { m.Ground.Offers = slices.Repeat([]string{"z"}, n) }), n <= 200)
	}
	for _, n := range []int{0, 1, 39, 40, 41, 256} {
		for at := range 2 {
			checkMissionOk(t, shown("offer", at, "bytes", n), missionWith(func(m *impl.Mission) { m.Ground.Offers[at] = strings.Repeat("z", n) }), within(n, 1, 40))
		}
	}
	for _, n := range []int{0, 1, 7, 9, 16} {
		checkMissionOk(t, shown("Told", n), missionWith(func(m *impl.Mission) { m.Ground.Told = make([]bool, n) }), false)
		checkMissionOk(t, shown("files", n), missionWith(func(m *impl.Mission) { m.Ground.Files = slices.Repeat(m.Ground.Files, 2)[:n] }), false)
	}
	for at := range 8 {
		checkMissionNumbers(t, "file", at, at, func(m *impl.Mission) *int { return &m.Ground.Files[at].File })
		checkMissionNumbers(t, "Size", 0, 600, func(m *impl.Mission) *int { return &m.Ground.Files[at].Size })
		checkMissionOk(t, "a file without parts", missionWith(func(m *impl.Mission) { m.Ground.Files[at].Parts = nil }), false)
	}
	checkMissionOk(t, "files in another order", missionWith(func(m *impl.Mission) {
		m.Ground.Files[2], m.Ground.Files[3] = m.Ground.Files[3], m.Ground.Files[2]
	}), false)
}

// badRecords have one number each that is out of its range, or too much data.
var badRecords = []impl.Record{{Id: -1}, {Id: 65536}, {Priority: -1}, {Priority: 4}, {Time: -1}, {Time: 1000001}, {Data: strings.Repeat("z", 35)}}

func TestRecordsOfMissions(t *testing.T) {
	for name, records := range map[string]func(m *impl.Mission) *[]impl.Record{
		"Records": func(m *impl.Mission) *[]impl.Record { return &m.Ground.Records }, "Sent": func(m *impl.Mission) *[]impl.Record { return &m.Space.Sent },
	} {
		for _, n := range []int{0, 1, 4999, 5000, 5001, 6000} {
			m := sampleMission()
			*records(&m) = slices.Repeat([]impl.Record{recordOf(65535, 3, 40)}, n)
			checkMissionOk(t, shown(name, n), m, n <= 5000)
		}
		for _, bad := range badRecords {
			for at := range 3 {
				m := sampleMission()
				*records(&m) = []impl.Record{recordOf(3, 1, 20), recordOf(2, 0, 6), recordOf(1, 2, 6)}
				(*records(&m))[at] = bad
				checkMissionOk(t, shown(name, at, bad), m, false)
			}
		}
	}
}

func TestSpacesOfMissions(t *testing.T) {
	checkMissionNumbers(t, "Receiver Expect", 0, 255, func(m *impl.Mission) *int { return &m.Space.Receiver.Expect })
	checkMissionNumbers(t, "Receiver Taken", 0, 1000000, func(m *impl.Mission) *int { return &m.Space.Receiver.Taken })
	checkMissionNumbers(t, "Clock", 0, 1000000, func(m *impl.Mission) *int { return &m.Space.Board.Clock })
	checkMissionNumbers(t, "Made", 21, 65535, func(m *impl.Mission) *int { return &m.Space.Board.Made })
	checkMissionNumbers(t, "Room", 50, 4000, func(m *impl.Mission) *int { return &m.Space.Board.Recorder.Room })
	checkMissionNumbers(t, "Packer Channel", 0, 0, func(m *impl.Mission) *int { return &m.Space.Packer.Channel })
	checkMissionNumbers(t, "Packer Count", 0, 255, func(m *impl.Mission) *int { return &m.Space.Packer.Count })
	checkMissionNumbers(t, "Starts", 0, 2, func(m *impl.Mission) *int { return &m.Space.Packer.Starts[0] })
	checkMissionNumbers(t, "Seq", 0, 65535, func(m *impl.Mission) *int { return &m.Space.Seq })
	checkMissionNumbers(t, "Begun", 0, 3, func(m *impl.Mission) *int { return &m.Space.Begun })
	checkMissionOk(t, "nothing asked", missionWith(func(m *impl.Mission) { m.Space.Board.Asked = nil }), false)
	checkMissionOk(t, "nothing asked or begun", missionWith(func(m *impl.Mission) { m.Space.Board.Asked, m.Space.Begun = nil, 0 }), true)
	for _, n := range []int{0, 4999, 5000, 5001} {
		checkMissionOk(t, shown("bytes of Rest", n), missionWith(func(m *impl.Mission) { m.Space.Packer = impl.Packer{Rest: mixedBytes(n)} }), n <= 5000)
		checkMissionOk(t, shown("Offered", n), missionWith(func(m *impl.Mission) { m.Offered = make([]string, n) }), n <= 5000)
		checkMissionOk(t, shown("Took", n), missionWith(func(m *impl.Mission) { m.Took = make([]string, n) }), n <= 5000)
	}
	// Payloads that were offered and taken are any strings, and need not belong together.
	checkMissionOk(t, "long payloads", missionWith(func(m *impl.Mission) { m.Offered, m.Took = []string{mixedBytes(999)}, []string{"", "z"} }), true)
}

func TestFilesOfSpacesOfMissions(t *testing.T) {
	for _, n := range []int{0, 1, 7, 9, 16} {
		files := func(m *impl.Mission) { m.Space.Files = slices.Repeat(m.Space.Files, 2)[:n] }
		outs := func(m *impl.Mission) { m.Space.Outs = slices.Repeat(m.Space.Outs, 2)[:n] }
		checkMissionOk(t, shown("files", n), missionWith(files), false)
		checkMissionOk(t, shown("senders", n), missionWith(outs), false)
		checkMissionOk(t, shown("files and senders", n), missionWith(func(m *impl.Mission) { files(m); outs(m) }), false)
	}
	for at := range 8 {
		for _, n := range []int{0, 24, 599, 600, 601, 1000} {
			text := "f" + mixedBytes(n)[:max(n-1, 0)]
			both := func(m *impl.Mission) {
				m.Space.Files[at], m.Space.Outs[at].Data, m.Space.Outs[at].Queue = text, text, []int{-1}
			}
			checkMissionOk(t, shown("file", at, "bytes", n), missionWith(both), len(text) <= 600)
			checkMissionOk(t, shown("only a file", at, n), missionWith(func(m *impl.Mission) { m.Space.Files[at] = text }), false)
			checkMissionOk(t, shown("only a sender", at, n), missionWith(func(m *impl.Mission) { m.Space.Outs[at].Data, m.Space.Outs[at].Queue = text, nil }), false)
		}
		checkMissionNumbers(t, "sender", at, at, func(m *impl.Mission) *int { return &m.Space.Outs[at].File })
		last := (len(missionTexts()[at])+23)/24 - 1
		checkMissionNumbers(t, "Queue", -1, last, func(m *impl.Mission) *int { return &m.Space.Outs[at].Queue[0] })
		for _, n := range []int{0, 999, 1000, 1001} {
			checkMissionOk(t, shown("Queue", at, n), missionWith(func(m *impl.Mission) { m.Space.Outs[at].Queue = slices.Repeat([]int{-1}, n) }), n <= 1000)
		}
	}
	// Files that are equal can change their places, but not their senders.
	swap := func(m *impl.Mission) {
		m.Space.Files[6], m.Space.Outs[6].Data = "zero", "zero"
		m.Space.Outs[6], m.Space.Outs[0] = m.Space.Outs[0], m.Space.Outs[6]
	}
	checkMissionOk(t, "senders in another order", missionWith(swap), false)
}
