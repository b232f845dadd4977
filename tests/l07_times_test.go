package tests

import (
	"testing"

	"loop.example/g03316/impl"
)

// pairsAt returns the pairs that a clock tells at ascending times; a time at which it shows the same
// as at the one before gives no pair.
func pairsAt(d impl.Drift, times ...int) []impl.Pair {
	var list []impl.Pair
	for _, at := range times {
		list = impl.AddPair(list, pair(impl.BoardTime(d, at), at))
	}
	return list
}

// checkTimeTold checks that a true time lies within the bounds of the pairs for what the clock
// showed then, and, if it lies between two pairs, that the estimate is right up to three.
func checkTimeTold(t *testing.T, d impl.Drift, list []impl.Pair, at int) {
	t.Helper()
	b := impl.BoardTime(d, at)
	low, high, ok := impl.BoundsOf(list, b)
	if !ok || !within(at, low, high) || low < 0 || high > impl.MaxTime {
		t.Errorf("%+v shows %d at the time %d, and its bounds are %d, %d, %v", d, b, at, low, high, ok)
	}
	guess, ok := impl.GuessTrue(list, b)
	if ok != (len(list) >= 2) {
		t.Errorf("with %d pairs GuessTrue returns %v", len(list), ok)
	}
	if ok && within(at, list[0].True, list[len(list)-1].True) && !within(guess, at-3, at+3) {
		t.Errorf("%+v shows %d at the time %d, and the estimate is %d", d, b, at, guess)
	}
}

// checkRateTold checks that a rate between the first and the last pair is right up to what the
// rounding of the two values that the clock showed can make.
func checkRateTold(t *testing.T, d impl.Drift, list []impl.Pair) {
	t.Helper()
	rate, ok := impl.RateOf(list)
	if ok != (len(list) >= 2) {
		t.Fatalf("with %d pairs RateOf returns %v", len(list), ok)
	}
	if !ok {
		return
	}
	off := 1000/(list[len(list)-1].True-list[0].True) + 1
	if !within(rate, d.Rate-off, d.Rate+off) {
		t.Errorf("%+v has the rate %d by the pairs %s", d, rate, shown(list))
	}
}

// Each stretch of up to 30 times at each rate, near 0 and far from it.
func TestTimesOfShortStretches(t *testing.T) {
	for rate := -100; rate <= 100; rate++ {
		d := impl.Drift{Rate: rate, Offset: 500}
		for _, from := range []int{0, 7, 123456, impl.MaxTime - 60} {
			for length := 1; length <= 30; length++ {
				list := pairsAt(d, from, from+length)
				for at := from; at <= from+length; at++ {
					checkTimeTold(t, d, list, at)
				}
				checkRateTold(t, d, list)
			}
		}
	}
}

// All times of clocks of all rates, with a pair every so often.
func TestTimesWithPairsEverySoOften(t *testing.T) {
	for _, rate := range clockRates {
		for _, every := range []int{1, 2, 9, 10, 11, 100, 333} {
			d := impl.Drift{Rate: rate, Offset: 1000}
			times := []int{}
			for i := range 200 {
				times = append(times, i*every)
			}
			list := pairsAt(d, times...)
			for at := 0; at <= 200*every+10; at += 1 + every/40 {
				checkTimeTold(t, d, list, at)
			}
			checkRateTold(t, d, list)
		}
	}
}

// Any clocks, any ascending times of pairs from the least to the greatest time, and any times.
func TestTimesOfDrawnClocks(t *testing.T) {
	state := 7
	number := func(n int) int {
		var high, low int
		state, high = draw(state, 2000)
		state, low = draw(state, 2000)
		return (high*2000 + low) % n
	}
	for range 400 {
		d := impl.Drift{Rate: number(201) - 100, Offset: number(1001)}
		longest := []int{3, 20, 1000, 9000, 400000}[number(5)]
		times := []int{}
		for at := number(1 + longest); at <= impl.MaxTime && len(times) < 200; at += 1 + number(longest) {
			times = append(times, at)
		}
		list := pairsAt(d, times...)
		if !impl.PairsOk(list) {
			t.Fatalf("the pairs of %+v are not valid: %s", d, shown(list))
		}
		for _, p := range list {
			for at := max(0, p.True-11); at <= min(p.True+11, impl.MaxTime); at++ {
				checkTimeTold(t, d, list, at)
			}
		}
		for range 100 {
			checkTimeTold(t, d, list, number(impl.MaxTime+1))
		}
		checkRateTold(t, d, list)
	}
}

// The bounds are no wider than the pairs allow: between pairs of all times before and behind it, a
// time is told exactly, up to those at which the clock shows the same.
func TestTimesBetweenPairsOfAllTimes(t *testing.T) {
	for _, rate := range clockRates {
		d := impl.Drift{Rate: rate, Offset: 3}
		for _, from := range []int{0, 1000, impl.MaxTime - 150} {
			times := []int{}
			for i := range 151 {
				times = append(times, from+i)
			}
			list := pairsAt(d, times...)
			for at := from + 12; at <= from+138; at++ {
				low, high, _ := impl.BoundsOf(list, impl.BoardTime(d, at))
				if high-low > 2 {
					t.Errorf("with all pairs around it, the bounds of %+v at %d are %d and %d", d, at, low, high)
				}
			}
		}
	}
}
