package tests

import (
	"slices"
	"strings"
	"testing"

	"loop.example/g03316/impl"
)

// listening returns a calm mission at the time 40 with blocks on their way up.
func listening(t *testing.T, flights ...impl.Flight) impl.Mission {
	t.Helper()
	m := calmMission(t, 40, 4)
	m.Ups = flights
	return m
}

// checkHeardUp checks what is heard at once: all flights are removed, and the rest changes so.
func checkHeardUp(t *testing.T, name string, m impl.Mission, change func(w *impl.Mission)) {
	t.Helper()
	checkChange(t, name, impl.HearUplink, m, func(w *impl.Mission) {
		w.Ups = nil
		change(w)
	})
}

// takes makes the receiver one that has taken commands with these payloads.
func takes(w *impl.Mission, payloads ...string) {
	w.Took = append(w.Took, payloads...)
	r := &w.Space.Receiver
	r.Expect, r.Taken = (r.Expect+len(payloads))%256, r.Taken+len(payloads)
	r.Again = r.Again && len(payloads) == 0
}

func TestHearUplinkOfFlightsThatArrive(t *testing.T) {
	checkChange(t, "no flights", impl.HearUplink, listening(t), noChange)
	for _, at := range []int{0, 1, 39, 40, 41, 44, 1000050} {
		m := listening(t, commandFlight(at, 0, orderPayload(orderAt(90))))
		if at > 40 {
			checkChange(t, shown("At", at), impl.HearUplink, m, noChange)
			continue
		}
		checkHeardUp(t, shown("At", at), m, func(w *impl.Mission) {
			takes(w, orderPayload(orderAt(90)))
			w.Space.Board, _ = impl.AcceptOrder(w.Space.Board, orderAt(90))
		})
	}
	// The flights need not be in the order of their times; those that arrive are heard in their order.
	one, two, three := orderPayload(orderAt(91)), missingPayload(3, 0, 1), orderPayload(orderAt(93))
	m := listening(t, commandFlight(41, 5, one), commandFlight(40, 0, one), commandFlight(50, 6, two), commandFlight(12, 1, two), commandFlight(40, 2, three), commandFlight(43, 7, three))
	checkChange(t, "flights of many times", impl.HearUplink, m, func(w *impl.Mission) {
		w.Ups = []impl.Flight{m.Ups[0], m.Ups[2], m.Ups[5]}
		takes(w, one, two, three)
		w.Space.Board.Taken = 2
		w.Space.Board.Orders = []impl.Waiting{{Number: 0, Order: orderAt(91)}, {Number: 1, Order: orderAt(93)}}
		w.Space.Outs[3].Queue = []int{0, 1, -1}
	})
	// Of two commands in the wrong order, the second one alone is taken.
	checkHeardUp(t, "a wrong order", listening(t, commandFlight(40, 1, one), commandFlight(39, 0, three)), func(w *impl.Mission) {
		takes(w, three)
		w.Space.Board.Taken, w.Space.Board.Orders = 1, []impl.Waiting{{Number: 0, Order: orderAt(93)}}
	})
}

// unreadableBlocks are no blocks, or such that the bits of one code word were disturbed twice.
func unreadableBlocks(text string) []string {
	block := impl.MakeBlock(text)
	n := len(block) - 4
	list := []string{
		"z", "zz", impl.SyncMark, impl.SyncMark + "z", block[:len(block)-1], block + "z", block[4:], "z" + block, block[1:] + "z",
		impl.SyncMark + hitBits(hitBits(block[4:], 0, 1), n, 1), impl.SyncMark + hitBits(hitBits(block[4:], 7*n, 1), 3*n, 1), impl.SyncMark + strings.Repeat("z", 400),
	}
	for at := range 4 {
		list = append(list, changed(block, at, 1<<(2*at)))
	}
	return list
}

func TestHearUplinkOfWhatIsNoCommand(t *testing.T) {
	text := impl.EncodeCommand(impl.KindData, 0, orderPayload(orderAt(90)))
	bad := unreadableBlocks(text)
	for _, s := range []string{
		"z", "zz", "\x00\x00", mixedBytes(200), text[:len(text)-1], text + "\x01", changed(text, 2, 1), impl.SealText(""), impl.SealText("z"), impl.SealText("\x02\x00zz"), impl.SealText("\x00\x00" + mixedBytes(41)),
		impl.EncodeFrame(impl.Frame{Channel: 2, Data: frameData(1)}),
	} {
		bad = append(bad, impl.MakeBlock(s))
	}
	for i, data := range bad {
		checkHeardUp(t, shown("bad", i, data), listening(t, impl.Flight{At: 40, Data: data}), func(w *impl.Mission) { w.Bad = 1 })
		// What comes before it and behind it is heard.
		m := listening(t, commandFlight(40, 0, missingPayload(2)), impl.Flight{At: 40, Data: data}, impl.Flight{At: 40, Data: data}, commandFlight(40, 1, missingPayload(4)))
		m.Space.Outs[2].Done, m.Space.Outs[4].Done = false, false
		checkHeardUp(t, shown("among others", i, data), m, func(w *impl.Mission) {
			w.Bad = 2
			takes(w, missingPayload(2), missingPayload(4))
			w.Space.Outs[2].Done, w.Space.Outs[4].Done = true, true
		})
	}
}

func TestHearUplinkOfDisturbedBlocks(t *testing.T) {
	payload := orderPayload(orderAt(90))
	block := commandFlight(40, 0, payload).Data
	n := len(block) - 4
	for place := 0; place <= 7*n; place += 5 {
		for _, bits := range []int{1, 2, n / 2, n} {
			m := listening(t, impl.Flight{At: 40, Data: impl.SyncMark + hitBits(block[4:], place, bits)})
			checkHeardUp(t, shown("burst", place, bits), m, func(w *impl.Mission) {
				takes(w, payload)
				w.Space.Board, _ = impl.AcceptOrder(w.Space.Board, orderAt(90))
			})
		}
	}
}

func TestHearUplinkOfCommandsThatAreNotTaken(t *testing.T) {
	payload := orderPayload(orderAt(90))
	for _, r := range []impl.Receiver{{Expect: 100, Taken: 3}, {Expect: 250, Again: true}, {Expect: 3, Taken: 1000000}, {Expect: 100, Locked: true}, {Expect: 100, Locked: true, Again: true}} {
		for _, d := range []int{0, 1, 40, 41, 128, 215, 216, 254, 255} {
			m := listening(t, commandFlight(40, (r.Expect+d)%256, payload))
			m.Space.Receiver = r
			checkHeardUp(t, shown("ahead", r, d), m, func(w *impl.Mission) {
				switch {
				case r.Locked:
				case d == 0 && r.Taken < 1000000:
					takes(w, payload)
					w.Space.Board, _ = impl.AcceptOrder(w.Space.Board, orderAt(90))
				case within(d, 1, 40):
					w.Space.Receiver.Again = true
				case within(d, 41, 215):
					w.Space.Receiver.Locked = true
				}
			})
		}
		for _, data := range []string{"", payload, mixedBytes(40)} {
			m := listening(t, impl.Flight{At: 40, Data: impl.MakeBlock(impl.EncodeCommand(impl.KindUnlock, r.Expect, data))})
			m.Space.Receiver = r
			checkHeardUp(t, shown("unlock", r, data), m, func(w *impl.Mission) { w.Space.Receiver.Locked, w.Space.Receiver.Again = false, false })
		}
	}
	// Repeated commands are taken once.
	m := listening(t, slices.Repeat([]impl.Flight{commandFlight(40, 0, payload), commandFlight(40, 1, payload)}, 20)...)
	checkHeardUp(t, "repeated", m, func(w *impl.Mission) {
		takes(w, payload, payload)
		w.Space.Board.Taken, w.Space.Board.Orders = 2, []impl.Waiting{{Number: 0, Order: orderAt(90)}, {Number: 1, Order: orderAt(90)}}
	})
	// A command behind one that unlocks is taken.
	m = listening(t, commandFlight(40, 100, payload), commandFlight(40, 0, payload), impl.Flight{At: 40, Data: impl.MakeBlock(impl.EncodeCommand(impl.KindUnlock, 0, ""))}, commandFlight(40, 0, payload))
	checkHeardUp(t, "locked and unlocked", m, func(w *impl.Mission) {
		takes(w, payload)
		w.Space.Board.Taken, w.Space.Board.Orders = 1, []impl.Waiting{{Number: 0, Order: orderAt(90)}}
	})
}

func TestHearUplinkOfOrders(t *testing.T) {
	for _, x := range sampleOrders() {
		m := listening(t, commandFlight(40, 0, orderPayload(x)))
		checkHeardUp(t, shown(x), m, func(w *impl.Mission) {
			takes(w, orderPayload(x))
			w.Space.Board.Taken, w.Space.Board.Orders = 1, []impl.Waiting{{Number: 0, Order: x}}
		})
	}
	// Whatever the board does with an order, the command is taken, and nothing is bad.
	payload := orderPayload(orderAt(90))
	for name, b := range map[string]impl.Board{
		"a full board": crowdedBoard(40), "39 orders": crowdedBoard(39), "65535 orders taken": boardWith(func(b *impl.Board) { b.Taken = 65535 }), "65534 orders taken": boardWith(func(b *impl.Board) { b.Taken = 65534 }),
		"a full list": func() impl.Board { b := crowdedBoard(40); b.Done = doneList(5000); return b }(), "a safe board": boardWith(func(b *impl.Board) { b.Safe = true }),
	} {
		m := listening(t, commandFlight(40, 0, payload))
		m.Space.Board = b
		checkHeardUp(t, name, m, func(w *impl.Mission) {
			takes(w, payload)
			w.Space.Board, _ = impl.AcceptOrder(b, orderAt(90))
		})
	}
}

func TestHearUplinkOfMissingSegments(t *testing.T) {
	for file := range 8 {
		size := (len(missionTexts()[file]) + 23) / 24
		for _, list := range [][]int{{}, {0}, {24}, {1, 0, 0, 3, 24}, upTo(20)} {
			m := listening(t, commandFlight(40, 0, missingPayload(file, list...)))
			m.Space.Outs[file].Queue = []int{-1}
			m.Space.Outs[file].Done = file%2 == 0
			checkHeardUp(t, shown("missing", file, list), m, func(w *impl.Mission) {
				takes(w, missingPayload(file, list...))
				o := &w.Space.Outs[file]
				if len(list) == 0 {
					o.Queue, o.Done = nil, true
					return
				}
				for _, k := range list {
					if k < size {
						o.Queue = append(o.Queue, k)
					}
				}
				o.Queue = append(o.Queue, -1)
			})
		}
	}
	// A list for which there is no room in the queue is taken, and nothing is bad.
	for n := 996; n <= 1000; n++ {
		m := listening(t, commandFlight(40, 0, missingPayload(4, 7, 9)))
		m.Space.Outs[4].Queue = slices.Repeat([]int{3}, n)
		checkHeardUp(t, shown("queue", n), m, func(w *impl.Mission) {
			takes(w, missingPayload(4, 7, 9))
			if n <= 997 {
				w.Space.Outs[4].Queue = append(w.Space.Outs[4].Queue, 7, 9, -1)
			}
		})
	}
}

func TestHearUplinkOfOtherPayloads(t *testing.T) {
	order := orderText(orderAt(90))
	payloads := []string{
		"", "\x00", "\x01", "\x02", "\xff", "z", "\x00" + order[:6], "\x00" + order + "\x00", "\x00\x05" + order[1:], "\x00\x00\x0f\x42\x41\x00\x00\x00", order, "\x02" + order,
		"\x01\x08", "\x01\xff", "\x01\x03\x19", "\x01\x03\x02\xff", "\x01\x03" + strings.Repeat("\x02", 21), "\x02\x03\x02", "\x00\x03\x02", "\x00" + missingPayload(3, 2), "\x01" + missingPayload(7, 2)[1:] + "\x20", mixedBytes(40),
	}
	for _, payload := range payloads {
		m := listening(t, commandFlight(40, 0, payload), commandFlight(40, 1, payload))
		checkHeardUp(t, shown("payload", payload), m, func(w *impl.Mission) {
			takes(w, payload, payload)
			w.Bad = 2
		})
	}
	// The first byte tells what the others are: an order of zeros is also a list of segments.
	zeros := strings.Repeat("\x00", 7)
	checkHeardUp(t, "an order of zeros", listening(t, commandFlight(40, 0, "\x00"+zeros)), func(w *impl.Mission) {
		takes(w, "\x00"+zeros)
		w.Space.Board.Taken, w.Space.Board.Orders = 1, []impl.Waiting{{}}
	})
	checkHeardUp(t, "a list of zeros", listening(t, commandFlight(40, 0, "\x01"+zeros)), func(w *impl.Mission) {
		takes(w, "\x01"+zeros)
		w.Space.Outs[0].Queue = []int{0, 0, 0, 0, 0, 0, -1}
	})
}

func TestHearUplinkAtLimits(t *testing.T) {
	bad := impl.Flight{At: 40, Data: "z"}
	for _, n := range []int{0, 3, 999997, 999998, 999999, 1000000} {
		m := listening(t, bad, commandFlight(40, 0, "z"))
		m.Bad = n
		checkHeardUp(t, shown("Bad", n), m, func(w *impl.Mission) {
			takes(w, "z")
			w.Bad = min(n+2, 1000000)
		})
	}
	// The document has no limit for what was taken but that of a valid mission.
	for _, n := range []int{4998, 4999, 5000} {
		m := listening(t, commandFlight(40, 0, missingPayload(3, 1)))
		m.Took = make([]string, n)
		checkHeardUp(t, shown("Took", n), m, func(w *impl.Mission) {
			takes(w, missingPayload(3, 1))
			w.Space.Outs[3].Queue = []int{1, -1}
		})
	}
	m := listening(t, slices.Repeat([]impl.Flight{bad}, 1000)...)
	checkHeardUp(t, "1000 flights", m, func(w *impl.Mission) { w.Bad = 1000 })
	m.Time = 1000000
	checkHeardUp(t, "MaxTime", m, func(w *impl.Mission) { w.Bad = 1000 })
}
