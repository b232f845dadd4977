package tests

import (
	"slices"
	"testing"

	"loop.example/g03316/impl"
)

// A flightLog performs the orders of a board in another way: it looks in the list of all orders for
// the one that has its turn. It also knows what was taken out of the recorder.
type flightLog struct {
	board  impl.Board
	orders []impl.Order
	waits  []bool
	sent   []int
}

func newFlightLog(t *testing.T, room int, limits []impl.Limit) *flightLog {
	t.Helper()
	b, ok := impl.NewBoard(room, limits)
	if !ok {
		t.Fatalf("NewBoard(%d, %v) is not valid", room, limits)
	}
	return &flightLog{board: b}
}

func (f *flightLog) close(number, result int) {
	f.waits[number] = false
	f.board.Done = append(f.board.Done, impl.Done{Number: number, Time: f.board.Clock, Result: result})
}

func (f *flightLog) waiting() int {
	n := 0
	for _, waits := range f.waits {
		if waits {
			n++
		}
	}
	return n
}

func (f *flightLog) accept(x impl.Order) bool {
	room := f.waiting() < 40
	f.orders, f.waits = append(f.orders, x), append(f.waits, true)
	if !room {
		f.close(len(f.orders)-1, 0)
	}
	return room
}

// next returns the number of the order that has its turn, and whether there is one.
func (f *flightLog) next() (int, bool) {
	best := -1
	for number, x := range f.orders {
		if f.waits[number] && (best < 0 || x.At < f.orders[best].At) {
			best = number
		}
	}
	return best, best >= 0
}

func (f *flightLog) perform(number int) {
	b, x := &f.board, f.orders[number]
	f.waits[number] = false
	result := 1
	switch {
	case b.Safe && (x.Kind == 1 || x.Kind == 3):
		result = 0
	case x.Kind == 0:
		b.Params[x.A] = x.B
		for _, limit := range b.Limits {
			b.Safe = b.Safe || limit.Param == x.A && (x.B < limit.Low || x.B > limit.High)
		}
	case x.Kind == 1:
		data := ""
		for _, n := range b.Params {
			data += string([]byte{byte(n / 256), byte(n % 256)})
		}
		b.Recorder = keptByRank(b.Recorder, impl.Record{Id: b.Made, Priority: x.A, Time: b.Clock, Data: data})
		b.Made++
	case x.Kind == 2:
		b.Safe = x.A == 1
	case x.Kind == 3:
		b.Asked = append(b.Asked, x.A)
	case x.A < len(f.orders) && f.waits[x.A]:
		f.close(x.A, 0)
	default:
		result = 0
	}
	f.close(number, result)
}

func (f *flightLog) tick() {
	f.board.Clock++
	number, found := f.next()
	for found && f.orders[number].At <= f.board.Clock {
		f.perform(number)
		number, found = f.next()
	}
}

func (f *flightLog) take(n int) {
	r := &f.board.Recorder
	n = min(n, len(r.Records))
	for _, x := range r.Records[:n] {
		f.sent = append(f.sent, x.Id)
	}
	r.Records = r.Records[n:]
}

// whole returns the board with its orders in their turns.
func (f *flightLog) whole() impl.Board {
	b := f.board
	b.Taken = len(f.orders)
	for number, x := range f.orders {
		if f.waits[number] {
			b.Orders = append(b.Orders, impl.Waiting{Number: number, Order: x})
		}
	}
	slices.SortStableFunc(b.Orders, func(a, c impl.Waiting) int { return a.Order.At - c.Order.At })
	return b
}

// checkOrdersOnce checks that each number is that of an order that waits, or was done once, and
// that none is done before its time.
func checkOrdersOnce(t *testing.T, b impl.Board, orders []impl.Order) {
	t.Helper()
	times := make([]int, b.Taken)
	for _, w := range b.Orders {
		times[w.Number]++
		if w.Order != orders[w.Number] {
			t.Fatalf("the order %d is %+v", w.Number, w.Order)
		}
	}
	for _, x := range b.Done {
		times[x.Number]++
		if x.Result != 0 && x.Time < orders[x.Number].At || x.Time > b.Clock {
			t.Fatalf("%+v, which waits for %d, at the time %d", x, orders[x.Number].At, b.Clock)
		}
	}
	for number, n := range times {
		if n != 1 {
			t.Fatalf("the order %d is waiting or done %d times", number, n)
		}
	}
}

func checkNoneDue(t *testing.T, b impl.Board) {
	t.Helper()
	for _, w := range b.Orders {
		if w.Order.At <= b.Clock {
			t.Fatalf("%+v is due at the time %d", w, b.Clock)
		}
	}
}

// checkBoardRecords checks that each record made is stored, given up, or was taken, once.
func checkBoardRecords(t *testing.T, b impl.Board, sent []int) {
	t.Helper()
	times := make([]int, b.Made)
	for _, x := range b.Recorder.Records {
		times[x.Id]++
	}
	for _, id := range slices.Concat(b.Recorder.Dropped, sent) {
		times[id]++
	}
	for id, n := range times {
		if n != 1 {
			t.Fatalf("the record %d is there %d times", id, n)
		}
	}
}

// A deck draws random orders for a board.
type deck struct {
	state int
	// Of ten orders, so many are of each kind.
	kinds [5]int
	// The orders are for so many ticks ahead, and some for the past.
	ahead int
}

func (d *deck) below(n int) int {
	state, drawn := draw(d.state, n)
	d.state = state
	return drawn
}

func (d *deck) order(b impl.Board) impl.Order {
	x := impl.Order{At: max(0, b.Clock-3+d.below(d.ahead))}
	for rest := d.below(10); rest >= d.kinds[x.Kind]; x.Kind++ {
		rest -= d.kinds[x.Kind]
	}
	switch x.Kind {
	case impl.OrderSet:
		x.A, x.B = d.below(8), d.below(120)
	case impl.OrderRecord:
		x.A = d.below(4)
	case impl.OrderSafe:
		x.A = d.below(6) / 5
	case impl.OrderFile:
		x.A = d.below(8)
	default:
		// Most of these cancel one that was taken a short time before or will come next.
		x.A = max(0, b.Taken-d.below(30)+1) % 256
	}
	return x
}

// checkFlight gives random orders to a board for some ticks and compares it with its log each time.
func checkFlight(t *testing.T, f *flightLog, d *deck, ticks, most int) {
	t.Helper()
	b := f.whole()
	for range ticks {
		for range d.below(most) {
			x := d.order(b)
			next, ok := impl.AcceptOrder(b, x)
			if want := f.accept(x); ok != want || !sameBoards(next, f.whole()) {
				t.Fatalf("AcceptOrder of %+v on %.600s\n= %.600s, %v\nwant %.600s", x, boardText(b), boardText(next), ok, boardText(f.whole()))
			}
			b = next
			checkOrdersOnce(t, b, f.orders)
		}
		next := impl.TickBoard(b)
		if f.tick(); !sameBoards(next, f.whole()) || !impl.BoardOk(next) {
			t.Fatalf("TickBoard of %.600s\n= %.600s\nwant %.600s", boardText(b), boardText(next), boardText(f.whole()))
		}
		b = next
		if n := d.below(12) - 1; n < 3 {
			f.take(max(n, 0))
			b.Recorder, _ = impl.TakeRecords(b.Recorder, n)
		}
		checkNoneDue(t, b)
		checkOrdersOnce(t, b, f.orders)
		checkBoardRecords(t, b, f.sent)
	}
}

func TestManyOrdersAndTicks(t *testing.T) {
	limits := []impl.Limit{{Param: 1, Low: 3, High: 118}, {Param: 2, High: 110}, {Param: 2, Low: 4, High: 65535}, {Param: 5, Low: 9, High: 8}}
	kinds := [][5]int{{2, 4, 2, 1, 1}, {1, 6, 0, 2, 1}, {1, 1, 1, 1, 6}, {4, 3, 1, 1, 1}, {0, 10, 0, 0, 0}, {2, 2, 2, 2, 2}}
	rooms := []int{4000, 0, 21, 22, 44, 65, 66, 100, 300}
	for seed := range 36 {
		f := newFlightLog(t, rooms[seed%9], limits[:seed%5])
		d := &deck{state: 1777 * seed, kinds: kinds[seed%6], ahead: []int{5, 40, 200}[seed%3+0]}
		checkFlight(t, f, d, 100, []int{2, 4, 7}[seed/6%3])
	}
}

func TestABoardFullOfOrders(t *testing.T) {
	f := newFlightLog(t, 200, nil)
	checkFlight(t, f, &deck{state: 99, kinds: [5]int{2, 3, 1, 1, 3}, ahead: 4000}, 60, 6)
	if len(f.whole().Orders) != 40 || len(f.board.Done) < 50 {
		t.Errorf("%d orders wait and %d are done", len(f.whole().Orders), len(f.board.Done))
	}
}

// A run over many ticks gives what single ticks give.
func TestRunsOverManyOrders(t *testing.T) {
	for seed := range 8 {
		f := newFlightLog(t, 150, []impl.Limit{{Param: 3, Low: 1, High: 119}})
		d := &deck{state: 31 * seed, kinds: [5]int{2, 4, 2, 1, 1}, ahead: 300}
		b := f.whole()
		for range 50 {
			x := d.order(b)
			b, _ = impl.AcceptOrder(b, x)
			f.accept(x)
		}
		checkTicks(t, b, 0, f.whole())
		for n := 1; n <= 310; n++ {
			if f.tick(); n%23 == 0 || n > 305 {
				checkTicks(t, b, n, f.whole())
			}
		}
		if len(f.whole().Orders) != 0 {
			t.Errorf("orders still wait: %s", shown(f.whole().Orders))
		}
	}
}
