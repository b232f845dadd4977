package tests

import (
	"slices"
	"strings"
	"testing"

	"loop.example/g03316/impl"
)

// askingMission returns a calm mission at a time, with files on the ground in all states.
func askingMission(t *testing.T, at int) impl.Mission {
	t.Helper()
	m := calmMission(t, at, 4)
	m.Ground.Files = []impl.FileIn{
		fileInOf(0, "zero"), fileInOf(1, ""), fileInOf(2, mixedBytes(24), 0), fileInOf(3, mixedBytes(25)),
		fileInOf(4, mixedBytes(600), upTo(24)...), fileInOf(5, mixedBytes(100), 1, 3), impl.NewFileIn(6), fileInOf(7, mixedBytes(48)),
	}
	// The file 3 is there, and this is told already; of the file 6, a part is there but not the end; all
	// parts of the file 7 are there, but their check is another one.
	m.Ground.Told[3] = true
	m.Ground.Files[6].Parts[0] = "a"
	m.Ground.Files[7].Check ^= 1
	return m
}

// asks are what is asked for in an askingMission.
func asks() []string {
	return []string{"\x01\x00", "\x01\x01", "\x01\x02\x00", "\x01\x04" + string(allBytes()[:20]), "\x01\x05\x01\x03"}
}

// checkAsked checks that AskMissing offers payloads, and that it is told that files are there.
func checkAsked(t *testing.T, name string, m impl.Mission, told []int, payloads ...string) {
	t.Helper()
	checkChange(t, name, impl.AskMissing, m, func(w *impl.Mission) {
		w.Ground.Offers = append(w.Ground.Offers, payloads...)
		for _, file := range told {
			w.Ground.Told[file] = true
		}
	})
}

func TestAskMissingAtEachTime(t *testing.T) {
	for _, at := range []int{0, 1, 10, 19, 20, 21, 39, 40, 41, 60, 99, 100, 101, 999979, 999980, 999999, 1000000} {
		// Nothing is asked again as soon as there are offers.
		m := askingMission(t, at)
		if at%20 != 0 {
			checkAsked(t, shown("Time", at), m, nil)
			continue
		}
		checkAsked(t, shown("Time", at), m, []int{0, 1}, asks()...)
		checkAsked(t, shown("again", at), impl.AskMissing(m), nil)
		// It does not matter whether the satellite is in sight.
		m.Orbit = orbit(1000, 999, 1)
		checkAsked(t, shown("out of sight", at), m, []int{0, 1}, asks()...)
	}
}

func TestAskMissingBehindOthers(t *testing.T) {
	m := askingMission(t, 40)
	m.Ground.Offers = []string{"z"}
	checkAsked(t, "an offer", m, nil)
	m = askingMission(t, 40)
	m.Ground.Sender = impl.Sender{Next: 9, Window: 5, Waiting: []impl.Sent{{Seq: 8, Data: "z"}}}
	checkAsked(t, "a command", m, nil)
	m.Ground.Offers = []string{"z"}
	checkAsked(t, "an offer and a command", m, nil)
	// Neither a locked receiver nor flights matter.
	m = askingMission(t, 40)
	m.Ground.Notice.Locked = true
	m.Ups, m.Downs = []impl.Flight{{Data: "z"}}, []impl.Flight{{Data: "z"}}
	checkAsked(t, "flights", m, []int{0, 1}, asks()...)
}

func TestAskMissingOfFilesInAllStates(t *testing.T) {
	for file := range 8 {
		for _, c := range []struct {
			name        string
			in          impl.FileIn
			told, tells bool
			payload     string
		}{
			{"nothing known", impl.NewFileIn(file), false, false, ""},
			{"nothing known, but told", impl.NewFileIn(file), true, false, ""},
			{"empty", fileInOf(file, ""), false, true, missingPayload(file)},
			{"empty and told", fileInOf(file, ""), true, false, ""},
			{"whole", fileInOf(file, mixedBytes(600)), false, true, missingPayload(file)},
			{"whole and told", fileInOf(file, mixedBytes(600)), true, false, ""},
			{"one missing", fileInOf(file, mixedBytes(600), 24), false, false, missingPayload(file, 24)},
			{"one missing, but told", fileInOf(file, mixedBytes(600), 24), true, false, missingPayload(file, 24)},
			{"all missing", fileInOf(file, mixedBytes(600), upTo(25)...), false, false, missingPayload(file, upTo(20)...)},
			{"20 missing", fileInOf(file, mixedBytes(600), upTo(25)[5:]...), false, false, missingPayload(file, upTo(25)[5:]...)},
		} {
			m := calmMission(t, 40, 4)
			m.Ground.Files[file], m.Ground.Told[file] = c.in, c.told
			told, payloads := []int{}, []string{}
			if c.tells {
				told = append(told, file)
			}
			if c.payload != "" {
				payloads = append(payloads, c.payload)
			}
			checkAsked(t, shown(c.name, file), m, told, payloads...)
			m.Ground.Files[file].Check ^= 256
			if c.tells {
				checkAsked(t, shown("another check", c.name, file), m, nil)
			}
		}
	}
}

// ascending returns n offers.
func ascending(n int) []string {
	list := []string{}
	for i := range n {
		list = append(list, strings.Repeat(string(rune('a'+i%26)), 1+i%40))
	}
	return list
}

// checkSentUp checks that SendUp gives so many offers to the sender and sends such texts.
func checkSentUp(t *testing.T, name string, m impl.Mission, offers int, texts ...string) {
	t.Helper()
	checkChange(t, name, impl.SendUp, m, func(w *impl.Mission) {
		g := &w.Ground
		for _, data := range g.Offers[:offers] {
			g.Sender.Waiting = append(g.Sender.Waiting, impl.Sent{Seq: g.Sender.Next, Data: data})
			g.Sender.Next = (g.Sender.Next + 1) % 256
		}
		w.Offered = append(w.Offered, g.Offers[:offers]...)
		g.Offers = g.Offers[offers:]
		sendAll(&w.Up, &w.Ups, w.Time+w.Light, texts...)
	})
}

// commandTexts returns the texts of the commands that wait, behind which offers come, but at most n.
func commandTexts(m impl.Mission, n int) []string {
	s := m.Ground.Sender
	list := []string{}
	for i, sent := range s.Waiting {
		list = append(list, impl.EncodeCommand(impl.KindData, (s.Next-len(s.Waiting)+i+256)%256, sent.Data))
	}
	for i, data := range m.Ground.Offers {
		list = append(list, impl.EncodeCommand(impl.KindData, (s.Next+i)%256, data))
	}
	return list[:min(n, len(list))]
}

func TestSendUpOfOffers(t *testing.T) {
	for waiting := range 6 {
		for _, offers := range []int{0, 1, 2, 3, 4, 5, 6, 7, 100, 200} {
			for _, next := range []int{5, 254, 255, 0, 1} {
				m := calmMission(t, 40, 4)
				m.Ground.Sender = senderFrom((next-waiting+256)%256, waiting)
				m.Ground.Sender.Window = 5
				m.Ground.Offers = ascending(offers)
				m.Offered = []string{"one", "two"}
				name := shown(waiting, offers, next)
				checkSentUp(t, name, m, min(5-waiting, offers), commandTexts(m, 3)...)
				m.Orbit = orbit(10, 1, 9)
				checkSentUp(t, "out of sight: "+name, m, min(5-waiting, offers))
				m.Ground.Notice = impl.Notice{Expect: 9, Again: true}
				m.Orbit = orbit(10, 0, 1)
				checkSentUp(t, "again: "+name, m, min(5-waiting, offers), commandTexts(m, 3)...)
				m.Ground.Notice.Locked = true
				checkSentUp(t, "locked: "+name, m, min(5-waiting, offers), impl.SealText("\x01\x00"))
				m.Orbit = orbit(10, 1, 9)
				checkSentUp(t, "locked and out of sight: "+name, m, min(5-waiting, offers))
			}
		}
	}
	// With another window, more or fewer wait.
	for _, window := range []int{1, 2, 19, 20} {
		m := calmMission(t, 40, 4)
		m.Ground.Sender.Window = window
		m.Ground.Offers = ascending(30)
		checkSentUp(t, shown("window", window), m, window, commandTexts(m, min(window, 3))...)
	}
}

func TestSendUpInSight(t *testing.T) {
	for _, o := range []impl.Orbit{orbit(10, 2, 3), orbit(10, 0, 1), orbit(7, 6, 7), orbit(1000, 41, 500)} {
		for at := 36; at < 56; at++ {
			m := calmMission(t, at, 4)
			m.Orbit, m.Ground.Offers = o, ascending(4)
			if at >= o.Start && (at-o.Start)%o.Period < o.Length {
				checkSentUp(t, shown(o, at), m, 4, commandTexts(m, 3)...)
			} else {
				checkSentUp(t, shown(o, at), m, 4)
			}
		}
	}
}

func TestSendUpThroughChannels(t *testing.T) {
	for _, loss := range []int{0, 30, 100} {
		for _, burst := range []int{0, 50, 100} {
			for seed := range 40 {
				m := calmMission(t, 40, seed)
				m.Up = impl.Channel{Seed: 1600 * seed, Burst: burst, Loss: loss}
				m.Ups = []impl.Flight{{At: 1, Data: "z"}}
				m.Ground.Offers = ascending(9)
				checkSentUp(t, shown(m.Up), m, 5, commandTexts(m, 3)...)
				if got := impl.SendUp(m); loss == 100 && len(got.Ups) != 1 || loss == 0 && len(got.Ups) != 4 || got.Up.Seed == m.Up.Seed {
					t.Errorf("through %s, there are %d flights", shown(m.Up), len(got.Ups))
				}
				m.Ground.Notice.Locked = true
				checkSentUp(t, shown("locked", m.Up), m, 5, impl.SealText("\x01\x00"))
			}
		}
	}
}

func TestSendUpAtLimits(t *testing.T) {
	m := calmMission(t, 1000000, 50)
	m.Ground.Offers = ascending(2)
	checkSentUp(t, "MaxTime", m, 2, commandTexts(m, 3)...)
	if got := impl.SendUp(m); len(got.Ups) != 2 || got.Ups[1].At != 1000050 || !impl.MissionOk(got) {
		t.Error("nothing valid is sent at MaxTime")
	}
	// The document has no limits for these lists but those of a valid mission.
	for _, n := range []int{997, 998, 1000} {
		m := calmMission(t, 40, 4)
		m.Ups = slices.Repeat([]impl.Flight{{At: 9, Data: "z"}}, n)
		m.Ground.Offers = ascending(4)
		checkSentUp(t, shown("flights", n), m, 4, commandTexts(m, 3)...)
	}
	for _, n := range []int{4994, 4995, 4996, 5000} {
		m := calmMission(t, 40, 4)
		m.Offered, m.Ground.Offers = make([]string, n), ascending(6)
		checkSentUp(t, shown("Offered", n), m, 5, commandTexts(m, 3)...)
	}
}
