package tests

import (
	"slices"
	"testing"

	"loop.example/g03316/impl"
)

// checkGiven checks whether an order is given, and what the mission is then.
func checkGiven(t *testing.T, m impl.Mission, x impl.Order, want bool) {
	t.Helper()
	name := shown("GiveOrder", len(m.Ground.Offers), x)
	step := func(m impl.Mission) impl.Mission {
		given, ok := impl.GiveOrder(m, x)
		if ok != want {
			t.Errorf("%s returns %v", name, ok)
		}
		return given
	}
	checkChange(t, name, step, m, func(w *impl.Mission) {
		if want {
			w.Ground.Offers = append(w.Ground.Offers, orderPayload(x))
		}
	})
}

func TestGiveOrdersOfAllKinds(t *testing.T) {
	for _, m := range []impl.Mission{calmMission(t, 0, 0), sampleMission()} {
		for _, x := range sampleOrders() {
			checkGiven(t, m, x, true)
		}
		for _, x := range []impl.Order{
			{Kind: -1}, {Kind: 5}, {At: -1}, {At: 1000001}, {A: 8}, {A: -1}, {B: -1}, {B: 65536}, {Kind: 1, A: 4}, {Kind: 2, A: 2}, {Kind: 3, A: 8}, {Kind: 4, A: 256}, {Kind: 1, B: 1}, {Kind: 4, B: 1},
		} {
			checkGiven(t, m, x, false)
		}
	}
}

func TestGiveOrdersUpToTheLimitOfOffers(t *testing.T) {
	for _, n := range []int{0, 1, 198, 199, 200} {
		m := sampleMission()
		m.Ground.Offers = slices.Repeat([]string{"z"}, n)
		checkGiven(t, m, orderAt(70), n < 200)
		checkGiven(t, m, impl.Order{Kind: 5}, false)
	}
	m := calmMission(t, 0, 0)
	for n := range 210 {
		given, ok := impl.GiveOrder(m, orderAt(n))
		if m = given; ok != (n < 200) {
			t.Errorf("the order %d is given: %v", n, ok)
		}
	}
	if len(m.Ground.Offers) != 200 || m.Ground.Offers[0] != orderPayload(orderAt(0)) || m.Ground.Offers[199] != orderPayload(orderAt(199)) {
		t.Error("the offers are not the first 200 orders")
	}
}

// checkAdvance checks what AdvanceBoard does with a mission: so many ticks, and these files begin.
func checkAdvance(t *testing.T, name string, m impl.Mission, ticks int, begun ...int) {
	t.Helper()
	checkChange(t, name, impl.AdvanceBoard, m, func(w *impl.Mission) {
		w.Time++
		w.Space.Board = impl.RunBoard(w.Space.Board, ticks)
		w.Space.Begun = len(w.Space.Board.Asked)
		for _, file := range begun {
			text := w.Space.Files[file]
			w.Space.Outs[file] = impl.FileOut{File: file, Data: text, Queue: append(upTo((len(text)+23)/24), -1)}
		}
	})
}

func TestAdvanceByTicks(t *testing.T) {
	for _, c := range []struct{ rate, at, ticks int }{
		{0, 0, 1}, {0, 999999, 1}, {100, 9, 2}, {100, 8, 1}, {100, 0, 1}, {-100, 0, 0}, {-100, 1, 1}, {-100, 10, 0}, {-1, 0, 0}, {-1, 999, 1}, {-1, 1000, 0}, {1, 999, 2}, {1, 998, 1}, {50, 19, 2}, {50, 39, 2},
	} {
		m := sampleMission()
		m.Time, m.Drift.Rate = c.at, c.rate
		m.Space.Begun = 3
		checkAdvance(t, shown("ticks", c), m, c.ticks)
		if got := impl.AdvanceBoard(m).Space.Board.Clock; got != 50+c.ticks {
			t.Errorf("with %s, the clock goes from 50 to %d", shown(c), got)
		}
		// Orders are due in the first tick and in the second one.
		m.Space.Board.Orders = []impl.Waiting{
			{Number: 4, Order: impl.Order{Kind: impl.OrderFile, At: 51, A: 2}}, {Number: 9, Order: impl.Order{Kind: impl.OrderSet, At: 51, A: 2, B: 15}},
			{Number: 7, Order: impl.Order{Kind: impl.OrderFile, At: 52, A: 6}}, {Number: 8, Order: impl.Order{Kind: impl.OrderFile, At: 53, A: 4}},
		}
		checkAdvance(t, shown("orders", c), m, c.ticks, []int{2, 6}[:c.ticks]...)
	}
}

func TestAdvanceBeginsFiles(t *testing.T) {
	for begun := range 4 {
		m := sampleMission()
		m.Space.Begun = begun
		checkAdvance(t, shown("Begun", begun), m, 0, []int{3, 0, 7}[begun:]...)
	}
	for file := range 8 {
		m := sampleMission()
		// A file that was sent before is sent again, and what of it is still to be sent is not.
		m.Space.Board.Asked = append(m.Space.Board.Asked, 1, file, 4, file)
		m.Space.Begun = 4
		m.Space.Outs[file] = impl.FileOut{File: file, Data: m.Space.Files[file], Queue: []int{-1, -1}, Done: true}
		checkAdvance(t, shown("file", file), m, 0, file, 4)
		m.Space.Begun = 7
		checkAdvance(t, shown("no file", file), m, 0)
	}
	// A safe board refuses to send files.
	m := sampleMission()
	m.Time, m.Space.Begun = 61, 3
	m.Space.Board.Orders = []impl.Waiting{{Number: 9, Order: impl.Order{Kind: impl.OrderSafe, At: 51, A: 1}}, {Number: 10, Order: impl.Order{Kind: impl.OrderFile, At: 51, A: 2}}}
	checkAdvance(t, "a safe board", m, 1)
}

func TestAdvanceAtTheEndOfTime(t *testing.T) {
	for at := 999997; at <= 1000000; at++ {
		for _, rate := range []int{-100, 0, 100} {
			m := calmMission(t, at, 0)
			m.Drift.Rate = rate
			m.Space.Board.Asked = []int{4}
			if at == 1000000 {
				checkChange(t, "MaxTime", impl.AdvanceBoard, m, noChange)
			} else {
				ticks := shownAt(m.Drift, at+1) - shownAt(m.Drift, at)
				checkAdvance(t, shown("Time", at, rate), m, ticks, 4)
			}
		}
	}
	// The clock stops at MaxTime, while the time goes on.
	for _, clock := range []int{999998, 999999, 1000000} {
		m := calmMission(t, 949, 0)
		m.Space.Board.Clock = clock
		checkAdvance(t, shown("Clock", clock), m, 2)
		if got := impl.AdvanceBoard(m); got.Time != 950 || got.Space.Board.Clock != 1000000 {
			t.Errorf("the clock goes from %d to %d", clock, got.Space.Board.Clock)
		}
	}
}

// Where a board does not tick, the time goes on without it.
func TestAdvanceWithBoardsAtTheirLimits(t *testing.T) {
	m := calmMission(t, 10, 0)
	m.Space.Board.Made = 60001
	checkAdvance(t, "60001 records", m, 0)
	m = calmMission(t, 10, 0)
	m.Space.Board.Asked = make([]int, 4901)
	m.Space.Begun = 4900
	checkAdvance(t, "4901 files", m, 0, 0)
}
