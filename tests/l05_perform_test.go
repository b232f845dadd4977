package tests

import (
	"slices"
	"testing"

	"loop.example/g03316/impl"
)

func checkPerformOrder(t *testing.T, b impl.Board, w impl.Waiting, want impl.Board) {
	t.Helper()
	if got := impl.PerformOrder(b, w); !sameBoards(got, want) {
		t.Errorf("PerformOrder of %+v on %.900s\n= %.900s\nwant %.900s", w, boardText(b), boardText(got), boardText(want))
	}
}

// boardText writes a board so that the lists, which can be long, come last.
func boardText(b impl.Board) string {
	return shown(b.Clock, b.Safe, b.Made, b.Taken, len(b.Done), len(b.Asked)) + "; " + shown(b.Params, b.Orders, b.Recorder, b.Asked, b.Done)
}

// checkPerformed checks that the order 1 of a kind has a result and changes a board so.
func checkPerformed(t *testing.T, b impl.Board, x impl.Order, result int, change func(b *impl.Board)) {
	t.Helper()
	want := b
	want.Params = slices.Clone(b.Params)
	want.Orders = slices.Clone(b.Orders)
	want.Done = slices.Clone(b.Done)
	change(&want)
	want.Done = append(want.Done, impl.Done{Number: 1, Time: b.Clock, Result: result})
	checkPerformOrder(t, b, impl.Waiting{Number: 1, Order: x}, want)
}

func nothing(b *impl.Board) {}

func TestPerformOrderSet(t *testing.T) {
	limits := []impl.Limit{{Param: 3, Low: 10, High: 20}, {Param: 4, Low: 5, High: 5}, {Param: 5, Low: 9, High: 8}, {Param: 6, High: 65535}}
	for _, c := range []struct {
		param, value int
		safe         bool
	}{
		{0, 0, false}, {0, 65535, false}, {7, 9, false}, {3, 10, false}, {3, 15, false}, {3, 20, false}, {3, 9, true}, {3, 21, true}, {3, 0, true},
		{3, 65535, true}, {4, 4, true}, {4, 5, false}, {4, 6, true}, {5, 7, true}, {5, 8, true}, {5, 9, true}, {5, 10, true}, {6, 0, false}, {6, 65535, false},
	} {
		for _, before := range []bool{false, true} {
			b := boardWith(func(b *impl.Board) { b.Limits, b.Safe = limits, before })
			checkPerformed(t, b, impl.Order{Kind: impl.OrderSet, A: c.param, B: c.value}, 1, func(b *impl.Board) {
				b.Params[c.param], b.Safe = c.value, c.safe || before
			})
		}
	}
	for param := range 8 {
		b := boardWith(func(b *impl.Board) { b.Limits = nil })
		checkPerformed(t, b, impl.Order{Kind: impl.OrderSet, At: 900, A: param, B: 258}, 1, func(b *impl.Board) { b.Params[param] = 258 })
		// The value that a parameter had, or that another one has, does not matter.
		b = boardWith(func(b *impl.Board) {
			b.Limits = []impl.Limit{{Param: param, Low: 1000, High: 2000}}
			b.Params = make([]int, 8)
		})
		checkPerformed(t, b, impl.Order{Kind: impl.OrderSet, A: param, B: 1500}, 1, func(b *impl.Board) { b.Params[param] = 1500 })
		checkPerformed(t, b, impl.Order{Kind: impl.OrderSet, A: (param + 1) % 8, B: 5}, 1, func(b *impl.Board) { b.Params[(param+1)%8] = 5 })
	}
}

func TestSeveralLimitsForOneParameter(t *testing.T) {
	a, c, other := impl.Limit{Param: 3, Low: 10, High: 20}, impl.Limit{Param: 3, Low: 15, High: 30}, impl.Limit{Param: 2, High: 65535}
	for _, limits := range [][]impl.Limit{{a, c}, {c, a}, {a, other, c}, {other, c, other, a}, {a, a, a, a, other, other, other, c}} {
		for value := range 40 {
			b := boardWith(func(b *impl.Board) { b.Limits = limits })
			checkPerformed(t, b, impl.Order{Kind: impl.OrderSet, A: 3, B: value}, 1, func(b *impl.Board) {
				b.Params[3], b.Safe = value, value < 15 || value > 20
			})
			checkPerformed(t, b, impl.Order{Kind: impl.OrderSet, A: 2, B: value}, 1, func(b *impl.Board) { b.Params[2] = value })
		}
	}
}

// telemetry is the Data of the records of the sample board.
const telemetry = "\x00\x01\x00\x02\x00\x03\x00\x04\x00\x05\x00\x06\x00\x07\xff\xff"

func TestPerformOrderRecord(t *testing.T) {
	for priority := range 4 {
		x := impl.Order{Kind: impl.OrderRecord, At: 7, A: priority}
		record := impl.Record{Id: 30, Priority: priority, Time: 50, Data: telemetry}
		checkPerformed(t, sampleBoard(), x, 1, func(b *impl.Board) {
			b.Made = 31
			b.Recorder.Records = append(slices.Clone(b.Recorder.Records), record)
		})
		checkPerformed(t, boardWith(func(b *impl.Board) { b.Safe = true }), x, 0, nothing)
		// There are 50 bytes of 2 records in the recorder, and the new one has 22.
		full := boardWith(func(b *impl.Board) { b.Recorder.Room = 52 })
		checkPerformed(t, full, x, 1, func(b *impl.Board) {
			b.Made = 31
			if priority == 0 {
				b.Recorder.Dropped = []int{4, 30}
			} else {
				b.Recorder.Records = []impl.Record{b.Recorder.Records[1], record}
				b.Recorder.Dropped = []int{4, 10}
			}
		})
		// Nothing can be dropped any more: the recorder remains, but Made is increased.
		full.Recorder.Dropped = upTo(65536)
		checkPerformed(t, full, x, 1, func(b *impl.Board) { b.Made = 31 })
	}
	for _, clock := range []int{0, 1, 1000000} {
		b := boardWith(func(b *impl.Board) {
			b.Clock, b.Params, b.Recorder, b.Made = clock, []int{256, 0, 65534, 255, 1, 4660, 32768, 127}, impl.Recorder{Room: 22}, 0
		})
		checkPerformed(t, b, impl.Order{Kind: impl.OrderRecord, At: 1000000}, 1, func(b *impl.Board) {
			b.Made = 1
			b.Recorder.Records = []impl.Record{{Time: clock, Data: "\x01\x00\x00\x00\xff\xfe\x00\xff\x00\x01\x12\x34\x80\x00\x00\x7f"}}
		})
	}
}

func TestPerformOrderSafe(t *testing.T) {
	for a := range 2 {
		for _, before := range []bool{false, true} {
			b := boardWith(func(b *impl.Board) { b.Safe = before })
			checkPerformed(t, b, impl.Order{Kind: impl.OrderSafe, A: a}, 1, func(b *impl.Board) { b.Safe = a == 1 })
		}
	}
}

func TestPerformOrderFile(t *testing.T) {
	for file := range 8 {
		x := impl.Order{Kind: impl.OrderFile, At: 9, A: file}
		checkPerformed(t, sampleBoard(), x, 1, func(b *impl.Board) { b.Asked = []int{3, 0, 7, file} })
		checkPerformed(t, boardWith(func(b *impl.Board) { b.Asked = nil }), x, 1, func(b *impl.Board) { b.Asked = []int{file} })
		checkPerformed(t, boardWith(func(b *impl.Board) { b.Safe = true }), x, 0, nothing)
	}
}

func TestPerformOrderCancel(t *testing.T) {
	for _, safe := range []bool{false, true} {
		b := boardWith(func(b *impl.Board) { b.Safe = safe })
		for at, w := range b.Orders {
			checkPerformed(t, b, impl.Order{Kind: impl.OrderCancel, A: w.Number}, 1, func(b *impl.Board) {
				b.Orders = slices.Delete(b.Orders, at, at+1)
				b.Done = append(b.Done, impl.Done{Number: w.Number, Time: 50})
			})
		}
		// These do not wait: those that are done, the order itself, those never taken, and the indexes of those that wait.
		for _, number := range []int{0, 11, 1, 3, 5, 12, 13, 255} {
			checkPerformed(t, b, impl.Order{Kind: impl.OrderCancel, A: number}, 0, nothing)
		}
	}
	b := crowdedBoard(40)
	b.Orders, b.Taken = slices.Delete(b.Orders, 1, 2), 65535
	b.Orders[38].Number = 256
	checkPerformed(t, b, impl.Order{Kind: impl.OrderCancel, A: 0}, 1, func(b *impl.Board) {
		b.Orders = b.Orders[1:]
		b.Done = []impl.Done{{Number: 0, Time: 50}}
	})
	checkPerformed(t, b, impl.Order{Kind: impl.OrderCancel, A: 255}, 0, nothing)
	b.Orders[38].Number = 255
	checkPerformed(t, b, impl.Order{Kind: impl.OrderCancel, A: 255}, 1, func(b *impl.Board) {
		b.Orders = b.Orders[:38]
		b.Done = []impl.Done{{Number: 255, Time: 50}}
	})
	b = boardWith(func(b *impl.Board) { b.Orders = nil })
	checkPerformed(t, b, impl.Order{Kind: impl.OrderCancel, A: 9}, 0, nothing)
}

func TestNumbersOfPerformedOrders(t *testing.T) {
	for _, k := range orderKinds {
		b := sampleBoard()
		for _, n := range append(numbersAround(0, 11), 2, 4, 7, 9) {
			w := impl.Waiting{Number: n, Order: k}
			waits := slices.Contains([]int{9, 4, 7, 2}, n)
			got := impl.PerformOrder(b, w)
			if within(n, 0, 11) && !waits {
				if last := len(got.Done) - 1; last != 2 || got.Done[last].Number != n || got.Done[last].Time != 50 {
					t.Errorf("PerformOrder of %+v = %s", w, boardText(got))
				}
			} else if !sameBoards(got, b) {
				t.Errorf("PerformOrder of %+v = %s", w, boardText(got))
			}
		}
		b.Taken, b.Orders, b.Done = 0, nil, nil
		for _, n := range []int{-1, 0, 1} {
			checkPerformOrder(t, b, impl.Waiting{Number: n, Order: k}, b)
		}
	}
	for _, x := range []impl.Order{{Kind: -1}, {Kind: 5}, {At: -1}, {At: 1000001}, {A: 8}, {A: -1}, {B: -1}, {B: 65536}, {Kind: 1, A: 4}, {Kind: 1, A: -1}, {Kind: 2, A: 2}, {Kind: 3, A: 8}, {Kind: 4, A: 256}, {Kind: 4, B: 1}} {
		checkPerformOrder(t, sampleBoard(), impl.Waiting{Number: 1, Order: x}, sampleBoard())
	}
}

func TestOrdersForWhichDoneIsTooLong(t *testing.T) {
	for _, k := range orderKinds {
		for _, safe := range []bool{false, true} {
			b := boardWith(func(b *impl.Board) { b.Done, b.Safe = doneList(5000), safe })
			checkPerformOrder(t, b, impl.Waiting{Number: 1, Order: k}, b)
			b.Done = doneList(4999)
			if got := impl.PerformOrder(b, impl.Waiting{Number: 1, Order: k}); len(got.Done) != 5000 || !impl.BoardOk(got) {
				t.Errorf("PerformOrder of %+v = %s", k, boardText(got))
			}
		}
	}
	// Two elements are appended if an order is cancelled.
	for _, n := range []int{4997, 4998} {
		b := boardWith(func(b *impl.Board) { b.Done = doneList(n) })
		checkPerformed(t, b, impl.Order{Kind: impl.OrderCancel, A: 9}, 1, func(b *impl.Board) {
			b.Orders = b.Orders[1:]
			b.Done = append(b.Done, impl.Done{Number: 9, Time: 50})
		})
	}
	b := boardWith(func(b *impl.Board) { b.Done = doneList(4999) })
	checkPerformOrder(t, b, impl.Waiting{Number: 1, Order: impl.Order{Kind: impl.OrderCancel, A: 9}}, b)
	checkPerformed(t, b, impl.Order{Kind: impl.OrderCancel, A: 8}, 0, nothing)
}

func TestOrdersForWhichOtherNumbersAreTooGreat(t *testing.T) {
	file := impl.Order{Kind: impl.OrderFile, A: 2}
	asked := slices.Repeat([]int{6}, 4999)
	b := boardWith(func(b *impl.Board) { b.Asked = asked })
	checkPerformed(t, b, file, 1, func(b *impl.Board) { b.Asked = append(slices.Clone(asked), 2) })
	b.Asked = append(asked, 6)
	checkPerformOrder(t, b, impl.Waiting{Number: 1, Order: file}, b)
	b.Safe = true
	checkPerformed(t, b, file, 0, nothing)
	record := impl.Order{Kind: impl.OrderRecord, A: 2}
	b = boardWith(func(b *impl.Board) { b.Made = 65534 })
	checkPerformed(t, b, record, 1, func(b *impl.Board) {
		b.Made = 65535
		b.Recorder.Records = append(slices.Clone(b.Recorder.Records), impl.Record{Id: 65534, Priority: 2, Time: 50, Data: telemetry})
	})
	for _, room := range []int{100, 50} {
		b = boardWith(func(b *impl.Board) { b.Made, b.Recorder.Room = 65535, room })
		checkPerformOrder(t, b, impl.Waiting{Number: 1, Order: record}, b)
		b.Safe = true
		checkPerformed(t, b, record, 0, nothing)
	}
	for _, k := range []impl.Order{orderKinds[0], orderKinds[2], orderKinds[4]} {
		b := boardWith(func(b *impl.Board) { b.Made, b.Taken, b.Asked = 65535, 65535, make([]int, 5000) })
		if got := impl.PerformOrder(b, impl.Waiting{Number: 1, Order: k}); len(got.Done) != 3 {
			t.Errorf("PerformOrder of %+v = %s", k, boardText(got))
		}
	}
}
