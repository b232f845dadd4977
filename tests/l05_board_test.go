package tests

import (
	"slices"
	"testing"

	"loop.example/g03316/impl"
)

func sameBoards(a, b impl.Board) bool {
	return a.Clock == b.Clock && slices.Equal(a.Params, b.Params) && a.Safe == b.Safe && slices.Equal(a.Limits, b.Limits) &&
		slices.Equal(a.Orders, b.Orders) && slices.Equal(a.Done, b.Done) && sameRecorders(a.Recorder, b.Recorder) &&
		a.Made == b.Made && a.Taken == b.Taken && slices.Equal(a.Asked, b.Asked)
}

// orderAt returns an order that waits for a time.
func orderAt(at int) impl.Order { return impl.Order{Kind: impl.OrderSafe, At: at, A: at % 2} }

// sampleBoard returns a board with some of everything, new memory each time.
func sampleBoard() impl.Board {
	return impl.Board{
		Clock:  50,
		Params: []int{1, 2, 3, 4, 5, 6, 7, 65535},
		Limits: []impl.Limit{{Param: 2, Low: 10, High: 20}, {Param: 7, High: 65535}},
		Orders: []impl.Waiting{
			{Number: 9, Order: impl.Order{Kind: impl.OrderSet, At: 40, A: 2, B: 15}},
			{Number: 4, Order: impl.Order{Kind: impl.OrderRecord, At: 60, A: 1}},
			{Number: 7, Order: impl.Order{Kind: impl.OrderFile, At: 60, A: 7}},
			{Number: 2, Order: impl.Order{Kind: impl.OrderCancel, At: 1000000, A: 255}},
		},
		Done:     []impl.Done{{Number: 0, Time: 3, Result: 1}, {Number: 11, Time: 50}},
		Recorder: recorderOf(100, 0, 20, 2, 30),
		Made:     30, Taken: 12,
		Asked: []int{3, 0, 7},
	}
}

// boardWith returns the sample board with a change.
func boardWith(change func(b *impl.Board)) impl.Board {
	b := sampleBoard()
	change(&b)
	return b
}

// crowdedBoard returns a board in which n orders wait for the times 100, 102, 104 and so on.
func crowdedBoard(n int) impl.Board {
	b := sampleBoard()
	b.Orders, b.Done, b.Taken = nil, nil, n
	for i := range n {
		b.Orders = append(b.Orders, impl.Waiting{Number: i, Order: orderAt(100 + 2*i)})
	}
	return b
}

// doneList returns n elements of Done.
func doneList(n int) []impl.Done {
	return slices.Repeat([]impl.Done{{Number: 3, Time: 20, Result: 1}}, n)
}

// checkBoardOk checks a board, and that nothing is done with one that is not valid.
func checkBoardOk(t *testing.T, b impl.Board, want bool) {
	t.Helper()
	if got := impl.BoardOk(b); got != want {
		t.Errorf("BoardOk(%+v) = %v", b, got)
	}
	if want {
		return
	}
	checkNotAccepted(t, b, orderAt(70))
	for _, k := range orderKinds {
		checkPerformOrder(t, b, impl.Waiting{Number: 1, Order: k}, b)
	}
	checkTicks(t, b, 1, b)
	checkTicks(t, b, 2, b)
	if got := impl.TickBoard(b); !sameBoards(got, b) {
		t.Errorf("TickBoard(%+v) = %+v", b, got)
	}
}

func checkNotAccepted(t *testing.T, b impl.Board, x impl.Order) {
	t.Helper()
	if got, ok := impl.AcceptOrder(b, x); ok || !sameBoards(got, b) {
		t.Errorf("AcceptOrder(%.600s) = %.600s", shown(b, x), shown(got, ok))
	}
}

func checkAccepted(t *testing.T, b impl.Board, x impl.Order, want impl.Board, wantOk bool) {
	t.Helper()
	if got, ok := impl.AcceptOrder(b, x); ok != wantOk || !sameBoards(got, want) {
		t.Errorf("AcceptOrder of %+v = %v; Orders are %+v, want %+v; %d are done, want %d", x, ok, got.Orders, want.Orders, len(got.Done), len(want.Done))
	}
}

func TestNumbersOfBoards(t *testing.T) {
	checkBoardOk(t, sampleBoard(), true)
	checkBoardOk(t, impl.Board{}, false)
	checkBoardOk(t, impl.Board{Params: make([]int, 8)}, true)
	for _, n := range append(numbersAround(0, 1000000), 49, 50, 51, 65536) {
		checkBoardOk(t, boardWith(func(b *impl.Board) { b.Clock = n }), within(n, 0, 1000000))
	}
	for _, n := range append(numbersAround(0, 65535), 10, 19, 20, 21) {
		checkBoardOk(t, boardWith(func(b *impl.Board) { b.Made = n }), within(n, 21, 65535))
		checkBoardOk(t, boardWith(func(b *impl.Board) { b.Made, b.Recorder.Records = n, nil }), within(n, 0, 65535))
		checkBoardOk(t, boardWith(func(b *impl.Board) { b.Made, b.Recorder = n, recorderOf(100, 0, 20) }), within(n, 11, 65535))
	}
	for _, n := range append(numbersAround(0, 65535), 9, 10, 11, 12, 13) {
		checkBoardOk(t, boardWith(func(b *impl.Board) { b.Taken = n }), within(n, 12, 65535))
		checkBoardOk(t, boardWith(func(b *impl.Board) { b.Taken, b.Done = n, b.Done[:1] }), within(n, 10, 65535))
		checkBoardOk(t, boardWith(func(b *impl.Board) { b.Taken, b.Done, b.Orders = n, nil, nil }), within(n, 0, 65535))
	}
	checkBoardOk(t, boardWith(func(b *impl.Board) { b.Safe = true }), true)
}

func TestParamsOfBoards(t *testing.T) {
	for _, n := range []int{0, 1, 7, 8, 9, 16, 1000} {
		checkBoardOk(t, boardWith(func(b *impl.Board) { b.Params = make([]int, n) }), n == 8)
	}
	for _, n := range append(numbersAround(0, 65535), 32768) {
		for at := range 8 {
			checkBoardOk(t, boardWith(func(b *impl.Board) { b.Params[at] = n }), within(n, 0, 65535))
		}
	}
}

func TestLimitsOfBoards(t *testing.T) {
	for _, n := range []int{0, 1, 7, 8, 9, 100} {
		checkBoardOk(t, boardWith(func(b *impl.Board) { b.Limits = make([]impl.Limit, n) }), n <= 8)
		checkBoardOk(t, boardWith(func(b *impl.Board) { b.Limits = slices.Repeat([]impl.Limit{{Param: 7, Low: 9, High: 8}}, n) }), n <= 8)
	}
	for at := range 8 {
		limits := slices.Repeat([]impl.Limit{{Param: 3, Low: 5, High: 6}}, 8)
		for _, n := range append(numbersAround(0, 7), 3) {
			limits[at] = impl.Limit{Param: n, Low: 5, High: 6}
			checkBoardOk(t, boardWith(func(b *impl.Board) { b.Limits = limits }), within(n, 0, 7))
		}
		for _, n := range append(numbersAround(0, 65535), 3) {
			limits[at] = impl.Limit{Param: 3, Low: n, High: 6}
			checkBoardOk(t, boardWith(func(b *impl.Board) { b.Limits = limits }), within(n, 0, 65535))
			limits[at] = impl.Limit{Param: 3, Low: 5, High: n}
			checkBoardOk(t, boardWith(func(b *impl.Board) { b.Limits = limits }), within(n, 0, 65535))
		}
	}
}

// boardWaiting returns a board with orders of these numbers and times, two for each order.
func boardWaiting(numbers ...int) impl.Board {
	b := sampleBoard()
	b.Orders = nil
	for i := 0; i < len(numbers); i += 2 {
		b.Orders = append(b.Orders, impl.Waiting{Number: numbers[i], Order: impl.Order{Kind: impl.OrderSet, At: numbers[i+1]}})
	}
	return b
}

func TestOrdersOfBoards(t *testing.T) {
	for _, b := range []impl.Board{
		boardWaiting(), boardWaiting(0, 0), boardWaiting(11, 1000000), boardWaiting(0, 5, 1, 5), boardWaiting(1, 5, 3, 5, 4, 5), boardWaiting(3, 5, 1, 6),
		boardWaiting(3, 5, 4, 6, 1, 7), boardWaiting(1, 0, 2, 0, 0, 1000000), boardWaiting(5, 7, 6, 7, 0, 8, 3, 8, 11, 8, 1, 9),
	} {
		checkBoardOk(t, b, true)
	}
	for _, b := range []impl.Board{
		boardWaiting(-1, 0), boardWaiting(12, 0), boardWaiting(3, -1), boardWaiting(3, 1000001),
		// The Ats descend.
		boardWaiting(1, 6, 3, 5), boardWaiting(3, 6, 1, 5), boardWaiting(1, 5, 2, 7, 3, 6), boardWaiting(1, 7, 2, 5, 3, 6),
		// The Numbers descend for equal Ats.
		boardWaiting(3, 5, 1, 5), boardWaiting(1, 4, 3, 5, 2, 5), boardWaiting(1, 5, 0, 5, 2, 5), boardWaiting(1, 5, 2, 5, 0, 5),
		// A Number comes twice.
		boardWaiting(1, 5, 1, 5), boardWaiting(1, 5, 1, 6), boardWaiting(1, 5, 2, 6, 1, 7), boardWaiting(0, 5, 1, 6, 2, 6, 3, 7, 1, 8),
	} {
		checkBoardOk(t, b, false)
	}
	for _, n := range append(numbersAround(0, 11), 4) {
		for at := range 4 {
			b := boardWaiting(1, 5, 2, 6, 3, 7, 5, 8)
			b.Orders[at].Number = n
			others := slices.Delete(slices.Clone(b.Orders), at, at+1)
			twice := slices.ContainsFunc(others, func(w impl.Waiting) bool { return w.Number == n })
			checkBoardOk(t, b, within(n, 0, 11) && !twice)
		}
	}
	for at := range 4 {
		for _, x := range []impl.Order{{Kind: -1}, {Kind: 5}, {A: -1}, {A: 8}, {B: -1}, {B: 65536}, {Kind: 1, A: 4}, {Kind: 2, A: 2}, {Kind: 3, A: 8}, {Kind: 4, A: 256}, {Kind: 4, B: 1}} {
			b := sampleBoard()
			x.At = b.Orders[at].Order.At
			b.Orders[at].Order = x
			checkBoardOk(t, b, false)
		}
	}
}

func TestLengthsOfListsOfBoards(t *testing.T) {
	for _, n := range []int{0, 1, 39, 40, 41, 100} {
		checkBoardOk(t, crowdedBoard(n), n <= 40)
		b := crowdedBoard(n)
		for i := range b.Orders {
			b.Orders[i].Order.At = 7
		}
		checkBoardOk(t, b, n <= 40)
	}
	for _, n := range []int{0, 1, 4999, 5000, 5001, 5002} {
		checkBoardOk(t, boardWith(func(b *impl.Board) { b.Done = doneList(n) }), n <= 5000)
		checkBoardOk(t, boardWith(func(b *impl.Board) { b.Asked = make([]int, n) }), n <= 5000)
	}
}

func TestElementsOfListsOfBoards(t *testing.T) {
	for at := range 3 {
		for _, n := range append(numbersAround(0, 11), 4) {
			checkBoardOk(t, boardWith(func(b *impl.Board) { b.Done = doneList(3); b.Done[at].Number = n }), within(n, 0, 11))
		}
		for _, n := range append(numbersAround(0, 1000000), 50, 51) {
			checkBoardOk(t, boardWith(func(b *impl.Board) { b.Done = doneList(3); b.Done[at].Time = n }), within(n, 0, 1000000))
		}
		for _, n := range numbersAround(0, 1) {
			checkBoardOk(t, boardWith(func(b *impl.Board) { b.Done = doneList(3); b.Done[at].Result = n }), within(n, 0, 1))
		}
		for _, n := range numbersAround(0, 7) {
			checkBoardOk(t, boardWith(func(b *impl.Board) { b.Asked[at] = n }), within(n, 0, 7))
		}
	}
	// A number can be in Done and wait at the same time, and be in Done twice.
	checkBoardOk(t, boardWith(func(b *impl.Board) { b.Done = []impl.Done{{Number: 9}, {Number: 9, Result: 1}} }), true)
}

func TestRecordersOfBoards(t *testing.T) {
	for _, r := range []impl.Recorder{
		{Room: -1}, {Room: 4001}, recorderOf(49, 0, 20, 1, 30), {Room: 50, Dropped: []int{-1}}, {Room: 50, Dropped: []int{65536}},
		{Room: 50, Records: []impl.Record{{Id: 1}, {Id: 1}}}, {Room: 50, Records: []impl.Record{{Priority: 4}}}, {Room: 50, Dropped: make([]int, 65537)},
	} {
		checkBoardOk(t, boardWith(func(b *impl.Board) { b.Recorder = r }), false)
	}
	// The Ids of Dropped need not be less than Made.
	checkBoardOk(t, boardWith(func(b *impl.Board) { b.Recorder = impl.Recorder{Room: 4000, Dropped: []int{65535, 30, 31}} }), true)
	checkBoardOk(t, boardWith(func(b *impl.Board) { b.Recorder.Dropped = make([]int, 65536) }), true)
}

func TestNewBoard(t *testing.T) {
	limits := []impl.Limit{{Param: 7, Low: 1, High: 2}, {Param: 7, Low: 65535}, {Param: 0, High: 65535}}
	for _, n := range append(numbersAround(0, 4000), 21) {
		for _, list := range [][]impl.Limit{nil, {}, limits[:1], limits, make([]impl.Limit, 8)} {
			want := impl.Board{}
			if within(n, 0, 4000) {
				want = impl.Board{Params: make([]int, 8), Limits: list, Recorder: impl.Recorder{Room: n}}
			}
			if got, ok := impl.NewBoard(n, list); ok != within(n, 0, 4000) || !sameBoards(got, want) {
				t.Errorf("NewBoard(%d, %v) = %+v, %v", n, list, got, ok)
			}
		}
	}
	for _, list := range [][]impl.Limit{make([]impl.Limit, 9), {{Param: -1}}, {{Param: 8}}, {{Low: -1}}, {{Low: 65536}}, {{High: -1}}, {{}, {High: 65536}}} {
		if got, ok := impl.NewBoard(100, list); ok || !sameBoards(got, impl.Board{}) {
			t.Errorf("NewBoard(100, %v) = %+v, %v", list, got, ok)
		}
	}
	list, asBefore := guarded(limits, impl.Limit{Param: 1}, impl.Limit{Param: 2})
	b, _ := impl.NewBoard(100, list)
	for i := range b.Limits[:cap(b.Limits)] {
		b.Limits[:cap(b.Limits)][i] = impl.Limit{Low: -9}
	}
	if !asBefore() {
		t.Error("the limits of a new board are those of the argument")
	}
}

func TestAcceptKnownOrders(t *testing.T) {
	for _, c := range []struct{ at, place int }{
		{0, 0}, {39, 0}, {40, 1}, {41, 1}, {50, 1}, {59, 1}, {60, 3}, {61, 3}, {999999, 3}, {1000000, 4},
	} {
		x := impl.Order{Kind: impl.OrderFile, At: c.at, A: 5}
		want := sampleBoard()
		want.Orders = slices.Insert(want.Orders, c.place, impl.Waiting{Number: 12, Order: x})
		want.Taken = 13
		checkAccepted(t, sampleBoard(), x, want, true)
	}
	b, _ := impl.NewBoard(0, nil)
	want, _ := impl.NewBoard(0, nil)
	want.Taken, want.Orders = 1, []impl.Waiting{{Number: 0, Order: orderAt(5)}}
	checkAccepted(t, b, orderAt(5), want, true)
}

func TestAcceptOrdersOfAllKinds(t *testing.T) {
	for _, x := range sampleOrders() {
		b := boardWith(func(b *impl.Board) { b.Orders = nil })
		want := boardWith(func(b *impl.Board) { b.Orders, b.Taken = []impl.Waiting{{Number: 12, Order: x}}, 13 })
		checkAccepted(t, b, x, want, true)
		b.Safe, want.Safe = true, true
		checkAccepted(t, b, x, want, true)
	}
	for _, x := range []impl.Order{{Kind: -1}, {Kind: 5}, {At: -1}, {At: 1000001}, {A: 8}, {A: -1}, {B: -1}, {B: 65536}, {Kind: 1, A: 4}, {Kind: 2, A: 2}, {Kind: 3, A: 8}, {Kind: 4, A: 256}, {Kind: 1, B: 1}} {
		checkNotAccepted(t, sampleBoard(), x)
		checkNotAccepted(t, crowdedBoard(40), x)
	}
}

func TestAcceptBetweenManyOrders(t *testing.T) {
	for _, n := range []int{0, 1, 2, 38, 39} {
		for at := 98; at <= 182; at++ {
			place := 0
			for place < n && 100+2*place <= at {
				place++
			}
			want := crowdedBoard(n)
			want.Orders = slices.Insert(want.Orders, place, impl.Waiting{Number: n, Order: orderAt(at)})
			want.Taken = n + 1
			checkAccepted(t, crowdedBoard(n), orderAt(at), want, true)
		}
	}
	equal := crowdedBoard(39)
	for i := range equal.Orders {
		equal.Orders[i].Order = orderAt(7)
	}
	for at, place := range map[int]int{6: 0, 7: 39, 8: 39} {
		want := equal
		want.Orders = slices.Insert(slices.Clone(equal.Orders), place, impl.Waiting{Number: 39, Order: orderAt(at)})
		want.Taken = 40
		checkAccepted(t, equal, orderAt(at), want, true)
	}
}

func TestBoardsWithoutRoomForOrders(t *testing.T) {
	for _, at := range []int{0, 50, 99, 100, 130, 1000, 1000000} {
		want := crowdedBoard(40)
		want.Done, want.Taken = []impl.Done{{Number: 40, Time: 50}}, 41
		checkAccepted(t, crowdedBoard(40), orderAt(at), want, false)
		for _, n := range []int{4998, 4999, 5000} {
			b, want := crowdedBoard(40), crowdedBoard(40)
			b.Done, want.Done = doneList(n), append(doneList(n), impl.Done{Number: 40, Time: 50})
			want.Taken = 41
			if n == 5000 {
				checkNotAccepted(t, b, orderAt(at))
			} else {
				checkAccepted(t, b, orderAt(at), want, false)
			}
		}
	}
	// With fewer orders, nothing is appended to Done.
	b, want := crowdedBoard(39), crowdedBoard(39)
	b.Done, want.Done = doneList(5000), doneList(5000)
	want.Orders, want.Taken = append(want.Orders, impl.Waiting{Number: 39, Order: orderAt(500)}), 40
	checkAccepted(t, b, orderAt(500), want, true)
}

func TestBoardsThatHaveTakenTheMostOrders(t *testing.T) {
	for _, n := range []int{0, 39, 40} {
		for _, taken := range []int{65533, 65534} {
			b, want := crowdedBoard(n), crowdedBoard(n)
			b.Taken, want.Taken = taken, taken+1
			if n < 40 {
				want.Orders = append(want.Orders, impl.Waiting{Number: taken, Order: orderAt(500)})
			} else {
				want.Done = append(want.Done, impl.Done{Number: taken, Time: 50})
			}
			checkAccepted(t, b, orderAt(500), want, n < 40)
		}
		b := crowdedBoard(n)
		b.Taken = 65535
		checkNotAccepted(t, b, orderAt(500))
	}
}
