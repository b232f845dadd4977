package tests

import (
	"math/big"
	"testing"

	"loop.example/g03316/impl"
)

// roundedDown divides in another way: with numbers of any length. The rest of this division is
// never negative, so that for a divisor greater than 0 its result is rounded down.
func roundedDown(a, b int) int {
	return int(new(big.Int).Div(big.NewInt(int64(a)), big.NewInt(int64(b))).Int64())
}

// clockRates are the rates at the limits, around 0, and some between them.
var clockRates = []int{-100, -99, -51, -50, -7, -1, 0, 1, 3, 10, 49, 99, 100}

// clockTimes are true times at the limits, around the multiples of 1000, and some between them.
var clockTimes = []int{
	0, 1, 2, 3, 9, 10, 11, 19, 20, 99, 100, 101, 499, 500, 501, 998, 999, 1000, 1001, 1002, 1999, 2000, 2001,
	3333, 54321, 499999, 500000, 777777, 999000, 999001, 999989, 999990, 999991, 999998, 999999, 1000000,
}

// shownAt computes what a valid clock shows.
func shownAt(d impl.Drift, t int) int { return t + d.Offset + roundedDown(t*d.Rate, 1000) }

func checkBoardTime(t *testing.T, d impl.Drift, at, want int) {
	t.Helper()
	if got := impl.BoardTime(d, at); got != want {
		t.Errorf("BoardTime(%+v, %d) = %d, want %d", d, at, got, want)
	}
}

func checkTicksDue(t *testing.T, d impl.Drift, at, want int) {
	t.Helper()
	if got := impl.TicksDue(d, at); got != want {
		t.Errorf("TicksDue(%+v, %d) = %d, want %d", d, at, got, want)
	}
}

func TestDriftOk(t *testing.T) {
	check := func(d impl.Drift) {
		t.Helper()
		want := within(d.Rate, -100, 100) && within(d.Offset, 0, 1000)
		if got := impl.DriftOk(d); got != want {
			t.Errorf("DriftOk(%+v) = %v", d, got)
		}
		for _, at := range []int{-1, 0, 1, 1000, 1000000, 1000001} {
			if !want || !within(at, 0, 1000000) {
				checkBoardTime(t, d, at, -1)
			}
			if !want || !within(at, 0, 999999) {
				checkTicksDue(t, d, at, 0)
			}
		}
	}
	check(impl.Drift{})
	for _, rate := range numbersAround(-100, 100) {
		for _, offset := range numbersAround(0, 1000) {
			check(impl.Drift{Rate: rate, Offset: offset})
		}
		check(impl.Drift{Rate: rate})
	}
	for n := -110; n <= 1010; n++ {
		check(impl.Drift{Rate: n, Offset: n})
		check(impl.Drift{Rate: n, Offset: 1000})
		check(impl.Drift{Offset: n})
	}
}

func TestBoardTime(t *testing.T) {
	for _, offset := range []int{0, 1, 5, 500, 999, 1000} {
		for rate := -100; rate <= 100; rate++ {
			d := impl.Drift{Rate: rate, Offset: offset}
			for _, at := range clockTimes {
				checkBoardTime(t, d, at, shownAt(d, at))
			}
			checkBoardTime(t, d, 0, offset)
			checkBoardTime(t, d, 1000, 1000+offset+rate)
			checkBoardTime(t, d, impl.MaxTime, impl.MaxTime+offset+1000*rate)
		}
	}
}

func TestBoardTimeIsRoundedDown(t *testing.T) {
	slow, fast := impl.Drift{Rate: -1}, impl.Drift{Rate: 1}
	for at := 1; at <= 1000; at++ {
		checkBoardTime(t, slow, at, at-1)
		checkBoardTime(t, slow, at+1000, at+1000-2)
	}
	for at := range 1000 {
		checkBoardTime(t, fast, at, at)
		checkBoardTime(t, fast, at+1000, at+1001)
	}
	for _, c := range [][3]int{
		{-100, 1, 0}, {-100, 9, 8}, {-100, 10, 9}, {-100, 11, 9}, {-100, 19, 17}, {-100, 999999, 899999},
		{-7, 1, 0}, {-7, 142, 141}, {-7, 143, 141}, {-7, 1001, 993}, {100, 9, 9}, {100, 10, 11}, {100, 999999, 1099998},
	} {
		checkBoardTime(t, impl.Drift{Rate: c[0]}, c[1], c[2])
		checkBoardTime(t, impl.Drift{Rate: c[0], Offset: 1000}, c[1], c[2]+1000)
	}
}

func TestBoardTimeOutOfRange(t *testing.T) {
	for _, rate := range clockRates {
		for _, offset := range []int{0, 1, 1000} {
			d := impl.Drift{Rate: rate, Offset: offset}
			for _, at := range append([]int{-1000, -2, -1, 1000001, 1000002, 2000000}, farNumbers...) {
				checkBoardTime(t, d, at, -1)
				checkTicksDue(t, d, at, 0)
			}
		}
	}
}

func TestTicksDue(t *testing.T) {
	for rate := -100; rate <= 100; rate++ {
		for _, offset := range []int{0, 7, 1000} {
			d := impl.Drift{Rate: rate, Offset: offset}
			for _, at := range clockTimes {
				if at == impl.MaxTime {
					checkTicksDue(t, d, at, 0)
					continue
				}
				checkTicksDue(t, d, at, shownAt(d, at+1)-shownAt(d, at))
			}
			checkTicksDue(t, d, -1, 0)
		}
	}
	for _, c := range [][3]int{
		{-100, 0, 0}, {-100, 1, 1}, {-100, 10, 0}, {-100, 999990, 0}, {-100, 999999, 1}, {0, 0, 1}, {0, 999999, 1},
		{100, 0, 1}, {100, 9, 2}, {100, 10, 1}, {100, 999999, 2}, {1, 999, 2}, {1, 998, 1}, {-1, 0, 0}, {-1, 999, 1}, {-1, 1000, 0},
	} {
		checkTicksDue(t, impl.Drift{Rate: c[0]}, c[1], c[2])
		checkTicksDue(t, impl.Drift{Rate: c[0], Offset: 1000}, c[1], c[2])
	}
}

// A clock never goes backward, and its ticks sum up to what it shows.
func TestClocksOverWholeRanges(t *testing.T) {
	for _, d := range []impl.Drift{{Rate: -100}, {Rate: 100, Offset: 1000}, {Rate: -37, Offset: 3}, {Rate: 1}} {
		clock := impl.BoardTime(d, 0)
		for at := range impl.MaxTime {
			ticks := impl.TicksDue(d, at)
			if ticks < 0 || ticks > 2 {
				t.Fatalf("TicksDue(%+v, %d) = %d", d, at, ticks)
			}
			clock += ticks
			if got := impl.BoardTime(d, at+1); got != clock {
				t.Fatalf("BoardTime(%+v, %d) = %d, and the ticks sum up to %d", d, at+1, got, clock)
			}
		}
		if want := shownAt(d, impl.MaxTime); clock != want {
			t.Errorf("the ticks of %+v sum up to %d, want %d", d, clock, want)
		}
	}
}

func TestEachRateOverThousands(t *testing.T) {
	for rate := -100; rate <= 100; rate++ {
		d := impl.Drift{Rate: rate, Offset: 100 + rate}
		for _, from := range []int{0, 54321, impl.MaxTime - 2000} {
			clock := impl.BoardTime(d, from)
			for at := from; at < from+2000; at++ {
				ticks := impl.TicksDue(d, at)
				if ticks < 0 {
					t.Fatalf("TicksDue(%+v, %d) = %d", d, at, ticks)
				}
				clock += ticks
				checkBoardTime(t, d, at+1, clock)
			}
			if want := shownAt(d, from) + 2000 + 2*rate; clock != want {
				t.Errorf("2000 times after %d the clock %+v shows %d, want %d", from, d, clock, want)
			}
		}
	}
}

// The board of chapter 5 shows what the clock shows, if it ticks as often as is due.
func TestTicksOfTheBoard(t *testing.T) {
	for _, rate := range []int{-100, -13, 0, 29, 100} {
		d := impl.Drift{Rate: rate, Offset: 12}
		b, _ := impl.NewBoard(100, nil)
		b.Clock = impl.BoardTime(d, 0)
		for at := range 1000 {
			for range impl.TicksDue(d, at) {
				b = impl.TickBoard(b)
			}
			if b.Clock != shownAt(d, at+1) {
				t.Fatalf("with %+v the board shows %d at the time %d", d, b.Clock, at+1)
			}
		}
	}
}
