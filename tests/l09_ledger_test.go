package tests

import (
	"slices"
	"testing"

	"loop.example/g03316/impl"
)

// ledgerParts are the parts of the ledger. The names tell which of them are to hold.
var ledgerParts = map[string]func(m impl.Mission) bool{
	"mission": impl.MissionOk, "commands": impl.CommandsOnce, "orders": impl.OrdersOnce, "records": impl.RecordsOnce, "files": impl.FilesTrue, "times": impl.TimesTrue,
}

// checkLedger checks that all parts of the ledger hold for a mission but those with these names, and
// that none of them changes it.
func checkLedger(t *testing.T, name string, m impl.Mission, broken ...string) {
	t.Helper()
	given, asBefore := guardedMission(m)
	for part, holds := range ledgerParts {
		if got := holds(given); got == slices.Contains(broken, part) {
			t.Errorf("with %s, the %s are true: %v", name, part, got)
		}
	}
	if got := impl.LedgerOk(given); got != (len(broken) == 0) {
		t.Errorf("LedgerOk with %s is %v", name, got)
	}
	if !asBefore() {
		t.Errorf("with %s, the mission is changed", name)
	}
}

// flownMission returns a mission of which the ledger holds, with some of everything in it.
func flownMission(t *testing.T) impl.Mission {
	t.Helper()
	m := impl.RunMission(busyMission(t, 1, 2, 10), 150)
	m, _ = impl.GiveOrder(m, impl.Order{Kind: impl.OrderRecord, At: 400})
	// The satellite is out of sight from 186 to 200, so that records and offers wait.
	for range 3 {
		m, _ = impl.GiveOrder(m, impl.Order{Kind: impl.OrderRecord, At: 182, A: 2})
	}
	m = impl.RunMission(m, 40)
	m, _ = impl.GiveOrder(m, orderAt(300))
	m, _ = impl.GiveOrder(m, orderAt(310))
	m = impl.RunMission(m, 5)
	b := m.Space.Board
	if len(b.Orders) == 0 || len(b.Done) < 5 || len(b.Recorder.Dropped) == 0 || len(b.Recorder.Records) < 2 || len(m.Space.Sent) < 3 || len(m.Ground.Records) < 2 || len(m.Ground.Pairs) < 5 || !slices.Contains(m.Ground.Told, true) || len(m.Took) == len(m.Offered) {
		t.Fatalf("too little has happened: %s", shown(len(b.Orders), len(b.Done), b.Recorder.Dropped, len(m.Space.Sent), len(m.Ground.Records), len(m.Ground.Pairs), m.Ground.Told, len(m.Took), len(m.Offered)))
	}
	return m
}

// checkBroken checks which parts of the ledger do not hold for the flown mission with a change.
func checkBroken(t *testing.T, name string, change func(m *impl.Mission), broken ...string) {
	t.Helper()
	m := flownMission(t)
	change(&m)
	checkLedger(t, name, m, broken...)
}

func TestLedgersThatHold(t *testing.T) {
	checkLedger(t, "a flown mission", flownMission(t))
	checkLedger(t, "a calm mission", calmMission(t, 0, 0))
	checkLedger(t, "a calm mission later", calmMission(t, 999, 0))
	// The ledger of nothing holds, but it is no mission.
	checkLedger(t, "nothing", impl.Mission{}, "mission")
	checkLedger(t, "a bad number", missionWith(func(m *impl.Mission) { m.Bad = -1 }), "mission", "orders", "records", "times")
	checkBroken(t, "Bad", func(m *impl.Mission) { m.Bad = 1000001 }, "mission")
}

func TestCommandsOnce(t *testing.T) {
	last := func(m *impl.Mission) int { return len(m.Took) - 1 }
	checkBroken(t, "another command taken", func(m *impl.Mission) { m.Took[last(m)] += "z" }, "commands")
	checkBroken(t, "another first command taken", func(m *impl.Mission) { m.Took[0] += "z" }, "commands")
	checkBroken(t, "two commands changed", func(m *impl.Mission) { m.Took[0], m.Took[1] = m.Took[1], m.Took[0] }, "commands")
	checkBroken(t, "another command offered", func(m *impl.Mission) { m.Offered[last(m)] += "z" }, "commands")
	checkBroken(t, "another command offered behind them", func(m *impl.Mission) { m.Offered[last(m)+1] += "z" })
	checkBroken(t, "as many as were offered", func(m *impl.Mission) { m.Offered = m.Offered[:len(m.Took)] })
	checkBroken(t, "more than were offered", func(m *impl.Mission) { m.Offered = m.Offered[:last(m)] }, "commands")
	checkBroken(t, "nothing offered", func(m *impl.Mission) { m.Offered = nil }, "commands")
	checkBroken(t, "one taken that is not counted", func(m *impl.Mission) { m.Space.Receiver.Taken-- }, "commands")
	checkBroken(t, "one counted that is not taken", func(m *impl.Mission) { m.Space.Receiver.Taken++ }, "commands")
	for _, c := range []struct {
		offered, took []string
		taken         int
		want          bool
	}{
		{nil, nil, 0, true}, {nil, nil, 1, false}, {nil, nil, -1, false}, {[]string{""}, nil, 0, true}, {[]string{""}, []string{""}, 1, true}, {nil, []string{""}, 1, false},
		{[]string{"a", "a"}, []string{"a", "a"}, 2, true}, {[]string{"a"}, []string{"a", "a"}, 2, false}, {[]string{"a", "b"}, []string{"b"}, 1, false}, {[]string{"a", "b"}, []string{"a"}, 1, true}, {[]string{"a", "b"}, []string{"a"}, 2, false},
	} {
		m := impl.Mission{Offered: c.offered, Took: c.took}
		m.Space.Receiver.Taken = c.taken
		if got := impl.CommandsOnce(m); got != c.want {
			t.Errorf("CommandsOnce with %s is %v", shown(c), got)
		}
	}
}

func TestOrdersOnce(t *testing.T) {
	for _, n := range []int{-1, 1 << 40} {
		checkBroken(t, shown("an order with another number", n), func(m *impl.Mission) { m.Space.Board.Orders[0].Number = n }, "mission", "orders")
		checkBroken(t, shown("Done with another number", n), func(m *impl.Mission) { m.Space.Board.Done[1].Number = n }, "mission", "orders")
	}
	checkBroken(t, "an order twice in Done", func(m *impl.Mission) { m.Space.Board.Done[1].Number = m.Space.Board.Done[0].Number }, "orders")
	checkBroken(t, "an order that waits and is done", func(m *impl.Mission) { m.Space.Board.Done[1].Number = m.Space.Board.Orders[0].Number }, "orders")
	checkBroken(t, "one more Done", func(m *impl.Mission) { m.Space.Board.Done = append(m.Space.Board.Done, m.Space.Board.Done[0]) }, "orders")
	checkBroken(t, "a Done lost", func(m *impl.Mission) { m.Space.Board.Done = m.Space.Board.Done[1:] }, "orders")
	checkBroken(t, "an order lost", func(m *impl.Mission) { m.Space.Board.Orders = m.Space.Board.Orders[1:] }, "orders")
	checkBroken(t, "one more Taken", func(m *impl.Mission) { m.Space.Board.Taken++ }, "orders")
	checkBroken(t, "one more Taken and Done", func(m *impl.Mission) {
		m.Space.Board.Done = append(m.Space.Board.Done, impl.Done{Number: m.Space.Board.Taken})
		m.Space.Board.Taken++
	}, "orders")
	checkBroken(t, "results and times", func(m *impl.Mission) { m.Space.Board.Done[0].Result, m.Space.Board.Done[1].Time = 0, 0 })
	for _, c := range []struct {
		orders, done []int
		taken        int
		took         []string
		want         bool
	}{
		{nil, nil, 0, nil, true}, {nil, nil, 0, []string{"", "\x01", "z"}, true}, {nil, nil, 0, []string{"\x00"}, false}, {nil, nil, -1, nil, false}, {nil, nil, 1, []string{"\x00"}, false},
		{[]int{0}, nil, 1, []string{"\x00"}, true}, {nil, []int{0}, 1, []string{"\x00zzz"}, true}, {nil, []int{0}, 1, nil, false}, {nil, []int{0}, 1, []string{"\x01"}, false}, {[]int{0}, []int{0}, 1, []string{"\x00"}, false},
		{[]int{2, 0}, []int{3, 1}, 4, []string{"\x00", "\x01\x00", "\x00", "", "\x00\x00", "\x00"}, true}, {[]int{2, 0}, []int{3, 1}, 4, []string{"\x00", "\x00", "\x00"}, false}, {[]int{2, 0}, []int{3, 3}, 4, []string{"\x00", "\x00", "\x00", "\x00"}, false},
		{[]int{2, 0}, []int{4, 1}, 4, []string{"\x00", "\x00", "\x00", "\x00"}, false}, {[]int{2, 0}, []int{-1, 1}, 3, []string{"\x00", "\x00", "\x00"}, false}, {[]int{2, 0, 1}, []int{3}, 3, []string{"\x00", "\x00", "\x00"}, false}, {nil, nil, 1 << 62, nil, false},
	} {
		m := impl.Mission{Took: c.took}
		for _, n := range c.orders {
			m.Space.Board.Orders = append(m.Space.Board.Orders, impl.Waiting{Number: n})
		}
		for _, n := range c.done {
			m.Space.Board.Done = append(m.Space.Board.Done, impl.Done{Number: n})
		}
		m.Space.Board.Taken = c.taken
		if got := impl.OrdersOnce(m); got != c.want {
			t.Errorf("OrdersOnce with %s is %v", shown(c), got)
		}
	}
}

func TestRecordsOnceOfFlownMissions(t *testing.T) {
	recorder := func(m *impl.Mission) *impl.Recorder { return &m.Space.Board.Recorder }
	checkBroken(t, "a record lost", func(m *impl.Mission) { recorder(m).Records = recorder(m).Records[1:] }, "records")
	checkBroken(t, "an Id lost", func(m *impl.Mission) { recorder(m).Dropped = recorder(m).Dropped[1:] }, "records")
	checkBroken(t, "an Id twice", func(m *impl.Mission) { recorder(m).Dropped = append(recorder(m).Dropped, recorder(m).Dropped[0]) }, "records")
	checkBroken(t, "a stored record given up", func(m *impl.Mission) { recorder(m).Dropped[0] = recorder(m).Records[0].Id }, "records")
	checkBroken(t, "a sent record given up", func(m *impl.Mission) { recorder(m).Dropped[0] = m.Space.Sent[0].Id }, "records")
	checkBroken(t, "a record sent twice", func(m *impl.Mission) { m.Space.Sent = append(m.Space.Sent, m.Space.Sent[0]) }, "records")
	checkBroken(t, "a stored record sent", func(m *impl.Mission) { m.Space.Sent = append(m.Space.Sent, recorder(m).Records[0]) }, "records")
	checkBroken(t, "one more made", func(m *impl.Mission) { m.Space.Board.Made++ }, "records")
	checkBroken(t, "one more made and given up", func(m *impl.Mission) {
		recorder(m).Dropped = append(recorder(m).Dropped, m.Space.Board.Made)
		m.Space.Board.Made++
	})
	ground := func(m *impl.Mission) []impl.Record { return m.Ground.Records }
	checkBroken(t, "another Priority on the ground", func(m *impl.Mission) { ground(m)[0].Priority ^= 1 }, "records")
	checkBroken(t, "another Time on the ground", func(m *impl.Mission) { ground(m)[0].Time++ }, "records")
	checkBroken(t, "other Data on the ground", func(m *impl.Mission) { ground(m)[1].Data = ground(m)[1].Data[1:] }, "records")
	checkBroken(t, "another Id on the ground", func(m *impl.Mission) { ground(m)[0].Id = m.Space.Board.Made }, "records")
	checkBroken(t, "a stored record on the ground", func(m *impl.Mission) { m.Ground.Records = append(ground(m), recorder(m).Records[0]) }, "records")
	checkBroken(t, "another order on the ground", func(m *impl.Mission) { ground(m)[0], ground(m)[1] = ground(m)[1], ground(m)[0] }, "records")
	checkBroken(t, "a record twice on the ground", func(m *impl.Mission) { m.Ground.Records = slices.Insert(ground(m), 1, ground(m)[0]) }, "records")
	checkBroken(t, "the last record twice on the ground", func(m *impl.Mission) { m.Ground.Records = append(ground(m), ground(m)[len(ground(m))-1]) }, "records")
	checkBroken(t, "a record less on the ground", func(m *impl.Mission) { m.Ground.Records = ground(m)[1:] })
	checkBroken(t, "nothing on the ground", func(m *impl.Mission) { m.Ground.Records = nil })
}

func TestRecordsOnceOfOtherMissions(t *testing.T) {
	x := func(ids ...int) []impl.Record {
		list := []impl.Record{}
		for _, id := range ids {
			list = append(list, impl.Record{Id: id, Data: "z"})
		}
		return list
	}
	for _, c := range []struct {
		stored  []impl.Record
		dropped []int
		sent    []impl.Record
		made    int
		ground  []impl.Record
		want    bool
	}{
		{nil, nil, nil, 0, nil, true}, {nil, nil, nil, 1, nil, false}, {nil, nil, nil, 1 << 62, nil, false}, {x(0), nil, nil, 1, nil, true}, {nil, []int{0}, nil, 1, nil, true}, {nil, nil, x(0), 1, nil, true}, {nil, nil, x(0), 1, x(0), true},
		// There are no numbers from 0 to -2.
		{nil, nil, nil, -1, nil, true}, {x(0), nil, nil, -1, nil, false}, {nil, []int{-1}, nil, -1, nil, false}, {x(0), nil, nil, 0, nil, false}, {nil, []int{-1}, nil, 1, nil, false}, {nil, []int{1}, nil, 1, nil, false},
		{x(4), []int{3, 1}, x(2, 0), 5, nil, true}, {x(4), []int{3, 1}, x(2, 0), 5, x(0, 2), true}, {x(4), []int{3, 1}, x(2, 0), 5, x(2, 0), false}, {x(4), []int{3, 1}, x(2, 0), 5, x(4), false}, {x(4), []int{3, 1}, x(2, 0), 5, x(3), false},
		{x(4), []int{3, 1}, x(2, 0), 4, nil, false}, {x(4), []int{3, 1}, x(2, 0), 6, nil, false}, {x(4), []int{3, 3}, x(2, 0), 5, nil, false}, {x(4), []int{3, 5}, x(2, 0), 5, nil, false}, {x(4), []int{3, -1}, x(2, 0), 5, nil, false},
		{nil, nil, x(0), 1, []impl.Record{{Id: 0}}, false}, {nil, nil, nil, 0, x(0), false}, {nil, nil, x(0, 1, 2), 3, x(0, 2, 1), false}, {nil, nil, x(0, 1, 2), 3, x(0, 2), true}, {nil, nil, x(0, 1, 2), 3, x(0, 1, 1), false},
	} {
		m := impl.Mission{}
		m.Space.Board.Recorder, m.Space.Board.Made = impl.Recorder{Records: c.stored, Dropped: c.dropped}, c.made
		m.Space.Sent, m.Ground.Records = c.sent, c.ground
		if got := impl.RecordsOnce(m); got != c.want {
			t.Errorf("RecordsOnce with %s is %v", shown(c), got)
		}
	}
}

func TestFilesTrue(t *testing.T) {
	texts := missionTexts()
	for file := range 8 {
		whole := func(m *impl.Mission) { m.Ground.Files[file], m.Ground.Told[file] = fileInOf(file, texts[file]), true }
		checkBroken(t, shown("there", file), whole)
		checkBroken(t, shown("there and not told", file), func(m *impl.Mission) { whole(m); m.Ground.Told[file] = false })
		checkBroken(t, shown("told and not there", file), func(m *impl.Mission) {
			m.Ground.Files[file], m.Ground.Told[file] = impl.NewFileIn(file), true
		}, "files")
		checkBroken(t, shown("neither", file), func(m *impl.Mission) { m.Ground.Files[file], m.Ground.Told[file] = impl.NewFileIn(file), false })
		for _, told := range []bool{false, true} {
			checkBroken(t, shown("another file", file, told), func(m *impl.Mission) {
				m.Ground.Files[file], m.Ground.Told[file] = fileInOf(file, "other "+texts[file][:min(590, len(texts[file]))]), told
			}, "files")
		}
		checkBroken(t, shown("another check", file), func(m *impl.Mission) { whole(m); m.Ground.Files[file].Check ^= 1 }, "files")
		checkBroken(t, shown("another file of the satellite", file), func(m *impl.Mission) {
			whole(m)
			m.Space.Files[file] = "x" + texts[file][:min(599, len(texts[file]))]
			m.Space.Outs[file] = impl.FileOut{File: file, Data: m.Space.Files[file]}
		}, "files")
	}
}

func TestFilesTrueOfOtherMissions(t *testing.T) {
	whole, lacks := fileInOf(0, "zz"), impl.NewFileIn(0)
	for _, c := range []struct {
		ground []impl.FileIn
		told   []bool
		files  []string
		want   bool
	}{
		{nil, nil, nil, true}, {nil, []bool{true, true}, []string{"z"}, true}, {[]impl.FileIn{whole}, nil, []string{"zz"}, true}, {[]impl.FileIn{whole}, nil, []string{"z"}, false}, {[]impl.FileIn{whole}, nil, nil, false},
		{[]impl.FileIn{fileInOf(0, "")}, nil, nil, false}, {[]impl.FileIn{fileInOf(0, "")}, nil, []string{""}, true}, {[]impl.FileIn{lacks}, nil, nil, true}, {[]impl.FileIn{lacks}, []bool{false}, nil, true}, {[]impl.FileIn{lacks}, []bool{true}, []string{""}, false},
		{[]impl.FileIn{lacks, whole}, []bool{false}, []string{"a", "zz"}, true}, {[]impl.FileIn{whole, lacks}, []bool{true}, []string{"zz"}, true}, {[]impl.FileIn{whole, lacks}, []bool{true, true}, []string{"zz"}, false}, {[]impl.FileIn{whole, whole}, []bool{true, true}, []string{"zz"}, false},
		{slices.Repeat([]impl.FileIn{whole}, 9), nil, slices.Repeat([]string{"zz"}, 9), true}, {slices.Repeat([]impl.FileIn{whole}, 9), nil, slices.Repeat([]string{"zz"}, 8), false},
		// A receiver that is not valid has no file.
		{[]impl.FileIn{fileInOf(8, "zz")}, []bool{false}, []string{"a"}, true}, {[]impl.FileIn{fileInOf(8, "zz")}, []bool{true}, []string{"zz"}, false},
	} {
		m := impl.Mission{}
		m.Ground.Files, m.Ground.Told, m.Space.Files = c.ground, c.told, c.files
		if got := impl.FilesTrue(m); got != c.want {
			t.Errorf("FilesTrue with %s is %v", shown(c), got)
		}
	}
}

func TestTimesTrueOfFlownMissions(t *testing.T) {
	// The pairs that are left are so far apart that a change leaves them valid.
	thin := func(m *impl.Mission) {
		list := []impl.Pair{}
		for i := 0; i < len(m.Ground.Pairs); i += 10 {
			list = append(list, m.Ground.Pairs[i])
		}
		m.Ground.Pairs = list
	}
	checkBroken(t, "fewer pairs", thin)
	for _, by := range []int{-1, 1} {
		for at := range 5 {
			checkBroken(t, shown("another Board", at, by), func(m *impl.Mission) { thin(m); m.Ground.Pairs[at].Board += by }, "times")
		}
		checkBroken(t, shown("another True", by), func(m *impl.Mission) { thin(m); m.Ground.Pairs[2].True += 2 * by }, "times")
		checkBroken(t, shown("another Clock", by), func(m *impl.Mission) { m.Space.Board.Clock += by }, "times")
		checkBroken(t, shown("another Time", by), func(m *impl.Mission) { m.Time += 2 * by }, "times")
		checkBroken(t, shown("another Rate", by), func(m *impl.Mission) { m.Drift.Rate += 20 * by }, "times")
		checkBroken(t, shown("another Offset", by), func(m *impl.Mission) { m.Drift.Offset += by }, "times")
	}
	checkBroken(t, "a pair less", func(m *impl.Mission) { m.Ground.Pairs = m.Ground.Pairs[1:] })
	checkBroken(t, "no pair", func(m *impl.Mission) { m.Ground.Pairs = nil })
	// Without records, the pairs need not ascend.
	swap := func(m *impl.Mission) {
		m.Ground.Pairs[0], m.Ground.Pairs[1] = m.Ground.Pairs[1], m.Ground.Pairs[0]
	}
	checkBroken(t, "pairs that do not ascend", swap, "mission", "times")
	checkBroken(t, "pairs that do not ascend, and no records", func(m *impl.Mission) { swap(m); m.Ground.Records = nil }, "mission")
}

// truePairs returns the pairs of some times, whether they ascend or not.
func truePairs(d impl.Drift, times ...int) []impl.Pair {
	list := []impl.Pair{}
	for _, at := range times {
		list = append(list, pair(shownAt(d, at), at))
	}
	return list
}

func TestTimesTrueOfOtherMissions(t *testing.T) {
	fast, slow, none := impl.Drift{Rate: 100, Offset: 5}, impl.Drift{Rate: -100, Offset: 1000}, impl.Drift{Rate: 101}
	for _, c := range []struct {
		drift   impl.Drift
		time    int
		clock   int
		pairs   []impl.Pair
		records []int
		want    bool
	}{
		{impl.Drift{}, 0, 0, nil, nil, true}, {impl.Drift{}, 0, 1, nil, nil, false}, {impl.Drift{}, -1, -1, nil, nil, true}, {impl.Drift{}, 1000001, 1000001, nil, nil, false}, {impl.Drift{}, 1000001, -1, nil, nil, true},
		{fast, 10, 16, nil, nil, true}, {fast, 10, 15, nil, nil, false}, {slow, 10, 1009, nil, nil, true}, {none, 10, -1, nil, nil, true}, {none, 10, 11, nil, nil, false},
		{fast, 10, 16, truePairs(fast, 0, 9, 1000000), []int{0, 5, 6, 16, 1000, 1000000, 1100005, 2000000}, true}, {fast, 10, 16, nil, []int{0, 2000000}, true},
		// The bounds are not told for times that no clock shows, and by pairs that are no list of pairs.
		{fast, 10, 16, nil, []int{-1}, false}, {fast, 10, 16, nil, []int{2000001}, false}, {fast, 10, 16, truePairs(fast, 9, 0), []int{5}, false}, {fast, 10, 16, truePairs(fast, 9, 0), nil, true}, {fast, 10, 16, truePairs(fast, 9, 9), []int{5}, false},
		{fast, 10, 16, truePairs(fast, upTo(200)...), []int{5}, true}, {fast, 10, 16, truePairs(fast, upTo(201)...), []int{5}, false}, {fast, 10, 16, truePairs(fast, upTo(201)...), nil, true},
		{slow, 10, 1009, truePairs(slow, 0, 2, 11, 21), []int{0, 1000, 1001, 1009, 1010, 5000, 2000000}, true}, {slow, 10, 1009, []impl.Pair{{Board: 1000, True: 1}}, nil, true}, {slow, 10, 1009, []impl.Pair{{Board: 1001, True: 1}}, nil, false},
		{none, 10, -1, nil, []int{0, 5, 1000000}, true}, {none, 10, -1, []impl.Pair{{Board: 3, True: 3}}, nil, false}, {none, 10, -1, []impl.Pair{{Board: -1, True: 3}}, nil, true}, {none, 10, -1, []impl.Pair{{Board: -1, True: 3}}, []int{5}, false},
	} {
		m := impl.Mission{Drift: c.drift, Time: c.time}
		m.Space.Board.Clock, m.Ground.Pairs = c.clock, c.pairs
		for _, at := range c.records {
			m.Ground.Records = append(m.Ground.Records, impl.Record{Time: at})
		}
		if got := impl.TimesTrue(m); got != c.want {
			t.Errorf("TimesTrue with %s is %v", shown(c), got)
		}
	}
}
