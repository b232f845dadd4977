package tests

import (
	"slices"
	"testing"

	"loop.example/g03316/impl"
)

// checkTicks checks a board after n ticks, in one run and one after the other.
func checkTicks(t *testing.T, b impl.Board, n int, want impl.Board) {
	t.Helper()
	if got := impl.RunBoard(b, n); !sameBoards(got, want) {
		t.Errorf("RunBoard of %.900s, %d\n= %.900s\nwant %.900s", boardText(b), n, boardText(got), boardText(want))
	}
	single := b
	for range n {
		single = impl.TickBoard(single)
	}
	if !sameBoards(single, want) {
		t.Errorf("TickBoard %d times of %.900s\n= %.900s\nwant %.900s", n, boardText(b), boardText(single), boardText(want))
	}
}

// boardOf returns a board that has taken these orders at the Clock 50.
func boardOf(t *testing.T, list ...impl.Order) impl.Board {
	t.Helper()
	b := impl.Board{Clock: 50, Params: []int{1, 2, 3, 4, 5, 6, 7, 65535}, Recorder: impl.Recorder{Room: 100}}
	for _, x := range list {
		next, ok := impl.AcceptOrder(b, x)
		if !ok {
			t.Fatalf("%+v was not accepted", x)
		}
		b = next
	}
	return b
}

func TestTickOfABoardWithNothingDue(t *testing.T) {
	for _, b := range []impl.Board{boardOf(t), boardOf(t, orderAt(52)), boardOf(t, orderAt(1000000), orderAt(53)), crowdedBoard(40)} {
		want := b
		want.Clock = 51
		checkTicks(t, b, 1, want)
	}
	b := boardOf(t, orderAt(60))
	for n := range 10 {
		want := b
		want.Clock = 50 + n
		checkTicks(t, b, n, want)
	}
	want := impl.Board{Clock: 60, Params: b.Params, Done: []impl.Done{{Number: 0, Time: 60, Result: 1}}, Recorder: b.Recorder, Taken: 1}
	checkTicks(t, b, 10, want)
	want.Clock = 61
	checkTicks(t, b, 11, want)
}

func TestSeveralOrdersDueAtOnce(t *testing.T) {
	b := boardOf(t,
		impl.Order{Kind: impl.OrderFile, At: 51, A: 1},
		impl.Order{Kind: impl.OrderFile, At: 0, A: 2},
		impl.Order{Kind: impl.OrderFile, At: 52, A: 3},
		impl.Order{Kind: impl.OrderFile, At: 51, A: 4},
		impl.Order{Kind: impl.OrderFile, At: 50, A: 5},
		impl.Order{Kind: impl.OrderFile, At: 0, A: 6},
	)
	want := b
	want.Clock, want.Asked = 51, []int{2, 6, 5, 1, 4}
	want.Orders = []impl.Waiting{{Number: 2, Order: impl.Order{Kind: impl.OrderFile, At: 52, A: 3}}}
	for _, number := range []int{1, 5, 4, 0, 3} {
		want.Done = append(want.Done, impl.Done{Number: number, Time: 51, Result: 1})
	}
	checkTicks(t, b, 1, want)
	want.Clock, want.Orders, want.Asked = 52, nil, []int{2, 6, 5, 1, 4, 3}
	want.Done = append(want.Done, impl.Done{Number: 2, Time: 52, Result: 1})
	checkTicks(t, b, 2, want)
}

func TestOrdersCancelledInTheirTick(t *testing.T) {
	b := boardOf(t,
		impl.Order{Kind: impl.OrderFile, At: 51, A: 1},   // cancelled by 1, which is before it
		impl.Order{Kind: impl.OrderCancel, At: 50, A: 0}, // cancels 0
		impl.Order{Kind: impl.OrderCancel, At: 51, A: 4}, // cancels 4, which would cancel 2
		impl.Order{Kind: impl.OrderCancel, At: 51, A: 3}, // cancels itself: it does not wait any more
		impl.Order{Kind: impl.OrderCancel, At: 51, A: 2},
		impl.Order{Kind: impl.OrderCancel, At: 51, A: 0}, // too late
		impl.Order{Kind: impl.OrderCancel, At: 51, A: 7}, // cancels one that is not due
		impl.Order{Kind: impl.OrderFile, At: 90, A: 5},
		impl.Order{Kind: impl.OrderCancel, At: 51, A: 8},
		impl.Order{Kind: impl.OrderCancel, At: 51, A: 200}, // there is no such order
	)
	want := b
	want.Clock, want.Orders = 51, nil
	for _, x := range [][2]int{{0, 0}, {1, 1}, {4, 0}, {2, 1}, {3, 0}, {5, 0}, {7, 0}, {6, 1}, {8, 0}, {9, 0}} {
		want.Done = append(want.Done, impl.Done{Number: x[0], Time: 51, Result: x[1]})
	}
	checkTicks(t, b, 1, want)
}

func TestBoardsThatBecomeSafe(t *testing.T) {
	b := boardOf(t,
		impl.Order{Kind: impl.OrderFile, At: 51, A: 1},
		impl.Order{Kind: impl.OrderSet, At: 51, A: 7, B: 101},
		impl.Order{Kind: impl.OrderFile, At: 51, A: 2},
		impl.Order{Kind: impl.OrderRecord, At: 51, A: 3},
		impl.Order{Kind: impl.OrderSet, At: 52, A: 7, B: 100},
		impl.Order{Kind: impl.OrderRecord, At: 52, A: 3},
		impl.Order{Kind: impl.OrderSafe, At: 53},
		impl.Order{Kind: impl.OrderRecord, At: 53, A: 3},
		impl.Order{Kind: impl.OrderFile, At: 53, A: 4},
		impl.Order{Kind: impl.OrderSafe, At: 54, A: 1},
		impl.Order{Kind: impl.OrderFile, At: 54, A: 5},
	)
	b.Limits = []impl.Limit{{Param: 7, Low: 50, High: 100}}
	want := b
	want.Clock, want.Safe, want.Asked, want.Orders, want.Made = 54, true, []int{1, 4}, nil, 1
	want.Params = []int{1, 2, 3, 4, 5, 6, 7, 100}
	want.Recorder.Records = []impl.Record{{Id: 0, Priority: 3, Time: 53, Data: "\x00\x01\x00\x02\x00\x03\x00\x04\x00\x05\x00\x06\x00\x07\x00\x64"}}
	for i, x := range [][2]int{{51, 1}, {51, 1}, {51, 0}, {51, 0}, {52, 1}, {52, 0}, {53, 1}, {53, 1}, {53, 1}, {54, 1}, {54, 0}} {
		want.Done = append(want.Done, impl.Done{Number: i, Time: x[0], Result: x[1]})
	}
	checkTicks(t, b, 4, want)
}

func TestTicksUpToTheGreatestTime(t *testing.T) {
	b := boardOf(t, orderAt(1000000), orderAt(999999))
	b.Clock = 999997
	want := b
	want.Clock = 999998
	checkTicks(t, b, 1, want)
	want.Clock, want.Safe, want.Orders = 999999, true, b.Orders[1:]
	want.Done = []impl.Done{{Number: 1, Time: 999999, Result: 1}}
	checkTicks(t, b, 2, want)
	want.Clock, want.Safe, want.Orders = 1000000, false, nil
	want.Done = append(want.Done, impl.Done{Number: 0, Time: 1000000, Result: 1})
	for _, n := range []int{3, 4, 100} {
		checkTicks(t, b, n, want)
	}
	// An order that comes at the greatest time is never performed.
	late, _ := impl.AcceptOrder(want, orderAt(3))
	checkTicks(t, late, 1, late)
	checkTicks(t, late, 5, late)
}

func TestBoardsThatTickNoMore(t *testing.T) {
	for _, n := range []int{59999, 60000, 60001, 60002, 65535} {
		for _, b := range []impl.Board{
			boardWith(func(b *impl.Board) { b.Made = n }), boardWith(func(b *impl.Board) { b.Taken = n }),
		} {
			checkWhetherTicks(t, b, n <= 60000)
		}
	}
	for _, n := range []int{4899, 4900, 4901, 4902, 5000} {
		for _, b := range []impl.Board{
			boardWith(func(b *impl.Board) { b.Done = doneList(n) }), boardWith(func(b *impl.Board) { b.Asked = make([]int, n) }),
		} {
			checkWhetherTicks(t, b, n <= 4900)
		}
	}
	full := boardWith(func(b *impl.Board) {
		b.Made, b.Taken, b.Done, b.Asked, b.Recorder.Dropped = 60000, 60000, doneList(4900), make([]int, 4900), make([]int, 65536)
	})
	checkWhetherTicks(t, full, true)
}

// checkWhetherTicks checks a board with the orders of the sample board: 9 is due in the first tick.
func checkWhetherTicks(t *testing.T, b impl.Board, ticks bool) {
	t.Helper()
	want := b
	if ticks {
		want.Clock, want.Params, want.Orders = 51, []int{1, 2, 15, 4, 5, 6, 7, 65535}, b.Orders[1:]
		want.Done = append(slices.Clone(b.Done), impl.Done{Number: 9, Time: 51, Result: 1})
	}
	if got := impl.TickBoard(b); !sameBoards(got, want) {
		t.Errorf("TickBoard of %.600s\n= %.600s", boardText(b), boardText(got))
	}
}

func TestTicksThatGoBeyondTheLastNumbers(t *testing.T) {
	for _, k := range orderKinds {
		list := []impl.Order{}
		for i := range 40 {
			list = append(list, impl.Order{Kind: k.Kind, At: 50 + i/20, A: 39 - i%2, B: k.B})
			if k.Kind != impl.OrderCancel {
				list[i].A = i % (k.A + 1)
			}
		}
		b := boardOf(t, list...)
		b.Made, b.Taken, b.Done, b.Asked = 60000, 60000, doneList(4900), make([]int, 4900)
		got := impl.TickBoard(b)
		if len(got.Done) != 4940 || len(got.Orders) != 0 || got.Clock != 51 || got.Taken != 60000 || !impl.BoardOk(got) {
			t.Errorf("TickBoard with 40 orders of the kind %d = %.600s", k.Kind, boardText(got))
		}
		if made, asked := got.Made-60000, len(got.Asked)-4900; k.Kind == impl.OrderRecord && made != 40 || k.Kind == impl.OrderFile && asked != 40 {
			t.Errorf("TickBoard with 40 orders of the kind %d: %d made, %d asked", k.Kind, made, asked)
		}
		checkTicks(t, b, 1, got)
		checkTicks(t, got, 1, got)
	}
}

func TestRunsStopWhenALimitIsPassed(t *testing.T) {
	b := boardOf(t, orderAt(51), orderAt(53), orderAt(55), orderAt(55), orderAt(57))
	b.Done = doneList(4898)
	for n, want := range [][2]int{{50, 4898}, {51, 4899}, {52, 4899}, {53, 4900}, {54, 4900}, {55, 4902}, {55, 4902}, {55, 4902}} {
		got := impl.RunBoard(b, n)
		if got.Clock != want[0] || len(got.Done) != want[1] {
			t.Errorf("RunBoard for %d ticks = %.600s", n, boardText(got))
		}
		checkTicks(t, b, n, got)
	}
}

func TestLengthsOfRuns(t *testing.T) {
	b := boardOf(t, orderAt(5049), orderAt(5050), orderAt(5051), impl.Order{Kind: impl.OrderRecord, At: 60, A: 2})
	for _, n := range append([]int{-2, -1, 5001, 5002, 65536}, farNumbers...) {
		if got := impl.RunBoard(b, n); !sameBoards(got, b) {
			t.Errorf("RunBoard for %d ticks = %s", n, boardText(got))
		}
	}
	checkTicks(t, b, 0, b)
	for _, n := range []int{1, 2, 9, 10, 11, 4998, 4999, 5000} {
		got := impl.RunBoard(b, n)
		done := 0
		for _, at := range []int{60, 5049, 5050} {
			if at <= 50+n {
				done++
			}
		}
		if got.Clock != 50+n || len(got.Done) != done || len(got.Orders) != 4-done {
			t.Errorf("RunBoard for %d ticks = %s", n, boardText(got))
		}
		checkTicks(t, b, n, got)
	}
	if got := impl.RunBoard(impl.Board{}, 3); !sameBoards(got, impl.Board{}) {
		t.Errorf("RunBoard of the zero board = %s", boardText(got))
	}
}

// boardsOf returns what each function that returns a board does for b.
func boardsOf(b impl.Board) []impl.Board {
	list := []impl.Board{impl.TickBoard(b), impl.RunBoard(b, 0), impl.RunBoard(b, 1), impl.RunBoard(b, 30), impl.RunBoard(b, -1)}
	for _, x := range []impl.Order{orderAt(0), orderAt(55), orderAt(1000000), {Kind: -1}} {
		accepted, _ := impl.AcceptOrder(b, x)
		list = append(list, accepted)
	}
	for _, k := range append([]impl.Order{{Kind: -1}, {Kind: impl.OrderCancel, A: 9}}, orderKinds...) {
		list = append(list, impl.PerformOrder(b, impl.Waiting{Number: 1, Order: k}))
	}
	return append(list, impl.PerformOrder(b, impl.Waiting{Number: -1}))
}

// overwrite changes all elements of a slice and of its spare capacity.
func overwrite[T any](list []T, x T) {
	for i := range list[:cap(list)] {
		list[:cap(list)][i] = x
	}
}

// boardParts are the slices of a board: how to overwrite each one, and how to leave it out.
var boardParts = []struct{ spoil, drop func(b *impl.Board) }{
	{func(b *impl.Board) { overwrite(b.Params, -9) }, func(b *impl.Board) { b.Params = nil }},
	{func(b *impl.Board) { overwrite(b.Limits, impl.Limit{Low: -9}) }, func(b *impl.Board) { b.Limits = nil }},
	{func(b *impl.Board) { overwrite(b.Orders, impl.Waiting{Number: -9}) }, func(b *impl.Board) { b.Orders = nil }},
	{func(b *impl.Board) { overwrite(b.Done, impl.Done{Number: -9}) }, func(b *impl.Board) { b.Done = nil }},
	{func(b *impl.Board) { overwrite(b.Recorder.Records, impl.Record{Id: -9}) }, func(b *impl.Board) { b.Recorder.Records = nil }},
	{func(b *impl.Board) { overwrite(b.Recorder.Dropped, -9) }, func(b *impl.Board) { b.Recorder.Dropped = nil }},
	{func(b *impl.Board) { overwrite(b.Asked, -9) }, func(b *impl.Board) { b.Asked = nil }},
}

// guardedBoard returns a board whose slices have spare capacity, and a function that tells whether
// their elements and those in the spare capacity are as they were.
func guardedBoard(b impl.Board) (impl.Board, func() bool) {
	checks := [7]func() bool{}
	b.Params, checks[0] = guarded(b.Params, 71, 72)
	b.Limits, checks[1] = guarded(b.Limits, impl.Limit{Low: 71}, impl.Limit{Low: 72})
	b.Orders, checks[2] = guarded(b.Orders, impl.Waiting{Number: 71}, impl.Waiting{Number: 72})
	b.Done, checks[3] = guarded(b.Done, doneList(50)...)
	b.Recorder.Records, checks[4] = guarded(b.Recorder.Records, impl.Record{Id: 71}, impl.Record{Id: 72})
	b.Recorder.Dropped, checks[5] = guarded(b.Recorder.Dropped, upTo(50)...)
	b.Asked, checks[6] = guarded(b.Asked, upTo(50)...)
	return b, func() bool {
		for _, asBefore := range checks {
			if !asBefore() {
				return false
			}
		}
		return true
	}
}

func TestBoardsShareNoMemory(t *testing.T) {
	for at, x := range []impl.Board{
		{}, {Params: make([]int, 8)}, sampleBoard(), crowdedBoard(1), crowdedBoard(39), crowdedBoard(40),
		boardWith(func(b *impl.Board) { b.Recorder.Room, b.Safe = 50, true }), boardWith(func(b *impl.Board) { b.Recorder.Room = 50 }),
		boardWith(func(b *impl.Board) { b.Clock = -1 }), boardWith(func(b *impl.Board) { b.Clock = 1000000 }),
		boardWith(func(b *impl.Board) { b.Taken = 60001 }), boardWith(func(b *impl.Board) { b.Taken = 65535 }),
		boardWith(func(b *impl.Board) { b.Orders, b.Done = nil, doneList(4999) }), boardWith(func(b *impl.Board) { b.Done = doneList(5000) }),
	} {
		b, asBefore := guardedBoard(x)
		was := boardsOf(b)
		for p, part := range boardParts {
			for i, got := range boardsOf(b) {
				part.spoil(&got)
				part.drop(&got)
				want := was[i]
				part.drop(&want)
				if !asBefore() || !sameBoards(got, want) {
					t.Fatalf("the slice %d of the result %d of the board %d shares its memory", p, i, at)
				}
			}
		}
		for i, got := range boardsOf(b) {
			if !sameBoards(got, was[i]) {
				t.Errorf("the results %d of the board %d differ", i, at)
			}
		}
	}
	// Also if the slices of an argument share theirs.
	numbers := []int{7, 6, 5, 4, 3, 2, 1, 0}
	b := impl.Board{Params: numbers, Asked: numbers[:5], Recorder: impl.Recorder{Room: 22, Dropped: numbers[:3]}, Taken: 2}
	got := impl.PerformOrder(b, impl.Waiting{Number: 1, Order: impl.Order{Kind: impl.OrderSet, A: 1, B: 900}})
	if got.Params[1] != 900 || got.Asked[1] != 6 || got.Recorder.Dropped[1] != 6 || numbers[1] != 6 {
		t.Errorf("the slices of %s share memory", boardText(got))
	}
}
