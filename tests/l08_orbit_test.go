package tests

import (
	"testing"

	"loop.example/g03316/impl"
)

func orbit(period, start, length int) impl.Orbit {
	return impl.Orbit{Period: period, Start: start, Length: length}
}

// sampleOrbits are valid orbits: with the least and the greatest numbers, with a Length of 1, less
// than the Period and the Period itself, and with the last pass behind, before and across MaxTime.
var sampleOrbits = []impl.Orbit{
	orbit(1, 0, 1), orbit(2, 0, 1), orbit(2, 1, 1), orbit(2, 1, 2), orbit(7, 3, 6), orbit(10, 2, 3), orbit(10, 9, 1), orbit(10, 9, 10),
	orbit(97, 13, 40), orbit(999, 5, 500), orbit(1000, 0, 1), orbit(1000, 1, 1), orbit(1000, 999, 1), orbit(1000, 500, 500),
	orbit(1000, 500, 501), orbit(1000, 1, 999), orbit(1000, 0, 1000), orbit(1000, 999, 1000),
}

// badOrbits have one number each that is out of its range.
var badOrbits = []impl.Orbit{
	{}, orbit(0, 0, 1), orbit(-1, 0, 1), orbit(-10, -3, -5), orbit(1001, 2, 3), orbit(10, -1, 3), orbit(10, 10, 3), orbit(10, 2, 0), orbit(10, 2, -1), orbit(10, 2, 11),
}

// passesBy tells for each time from 0 to MaxTime which pass it is in, or -1, in another way: it goes
// from pass to pass and marks its times.
func passesBy(o impl.Orbit) []int {
	passes := make([]int, 1000001)
	for t := range passes {
		passes[t] = -1
	}
	for pass, start := 0, o.Start; start <= 1000000; pass, start = pass+1, start+o.Period {
		for t := start; t < start+o.Length && t <= 1000000; t++ {
			passes[t] = pass
		}
	}
	return passes
}

// timesAround returns times at the limits, around the first three passes and the last two, and
// numbers that are no times.
func timesAround(o impl.Orbit) []int {
	times := append([]int{-1000, -2, -1, 0, 1, 2, 500000, 999999, 1000000, 1000001, 1000002, 2000000}, farNumbers...)
	last := (1000000 - o.Start) / o.Period
	for _, pass := range []int{0, 1, 2, last - 1, last} {
		for by := -2; by <= 2; by++ {
			start := o.Start + pass*o.Period
			times = append(times, start+by, start+o.Length+by)
		}
	}
	return times
}

func checkVisible(t *testing.T, o impl.Orbit, at, pass int) {
	t.Helper()
	if got := impl.Visible(o, at); got != (pass >= 0) {
		t.Errorf("Visible(%+v, %d) = %v", o, at, got)
	}
	if got := impl.PassOf(o, at); got != pass {
		t.Errorf("PassOf(%+v, %d) = %d, want %d", o, at, got, pass)
	}
}

func checkNextVisible(t *testing.T, o impl.Orbit, at, want int) {
	t.Helper()
	if got := impl.NextVisible(o, at); got != want {
		t.Errorf("NextVisible(%+v, %d) = %d, want %d", o, at, got, want)
	}
}

func checkVisibleCount(t *testing.T, o impl.Orbit, a, b, want int) {
	t.Helper()
	if got := impl.VisibleCount(o, a, b); got != want {
		t.Errorf("VisibleCount(%+v, %d, %d) = %d, want %d", o, a, b, got, want)
	}
}

// checkOrbitOk checks an orbit, and that nothing is visible from one that is not valid.
func checkOrbitOk(t *testing.T, o impl.Orbit, want bool) {
	t.Helper()
	if got := impl.OrbitOk(o); got != want {
		t.Errorf("OrbitOk(%+v) = %v", o, got)
	}
	if want {
		return
	}
	for _, at := range []int{-1, 0, 1, 2, 999, 1000, 123456, 1000000, 1000001, o.Start, o.Period} {
		checkVisible(t, o, at, -1)
		checkNextVisible(t, o, at, -1)
		checkVisibleCount(t, o, 0, at, 0)
		checkVisibleCount(t, o, at, 1000000, 0)
		checkVisibleCount(t, o, at, at, 0)
	}
}

func TestOrbitOk(t *testing.T) {
	for _, o := range sampleOrbits {
		checkOrbitOk(t, o, true)
	}
	for _, o := range badOrbits {
		checkOrbitOk(t, o, false)
	}
}

func TestNumbersOfOrbits(t *testing.T) {
	for _, n := range numbersAround(1, 1000) {
		checkOrbitOk(t, orbit(n, 0, 1), within(n, 1, 1000))
	}
	for _, period := range []int{1, 2, 3, 10, 999, 1000} {
		for _, n := range append(numbersAround(0, period-1), period) {
			checkOrbitOk(t, orbit(period, n, 1), within(n, 0, period-1))
			checkOrbitOk(t, orbit(period, n, period), within(n, 0, period-1))
		}
		for _, n := range append(numbersAround(1, period), 0) {
			checkOrbitOk(t, orbit(period, 0, n), within(n, 1, period))
			checkOrbitOk(t, orbit(period, period-1, n), within(n, 1, period))
		}
	}
	for period := -2; period <= 6; period++ {
		for start := -2; start <= 7; start++ {
			for length := -2; length <= 7; length++ {
				checkOrbitOk(t, orbit(period, start, length), within(period, 1, 1000) && within(start, 0, period-1) && within(length, 1, period))
			}
		}
	}
	for _, period := range farNumbers {
		for _, n := range farNumbers {
			checkOrbitOk(t, orbit(period, n, n), false)
			checkOrbitOk(t, orbit(period, 0, n), false)
			checkOrbitOk(t, orbit(period, n, 1), false)
		}
	}
}

func TestKnownPasses(t *testing.T) {
	o := orbit(10, 2, 3)
	for at, pass := range map[int]int{
		-1: -1, 0: -1, 1: -1, 2: 0, 3: 0, 4: 0, 5: -1, 11: -1, 12: 1, 13: 1, 14: 1, 15: -1, 999992: 99999, 999994: 99999, 999995: -1, 1000000: -1, 1000001: -1, 1000002: -1,
	} {
		checkVisible(t, o, at, pass)
	}
	for at, next := range map[int]int{
		-1: -1, 0: 2, 1: 2, 2: 2, 3: 3, 4: 4, 5: 12, 11: 12, 12: 12, 15: 22, 999991: 999992, 999994: 999994, 999995: -1, 1000000: -1, 1000001: -1,
	} {
		checkNextVisible(t, o, at, next)
	}
	for stretch, count := range map[[2]int]int{
		{0, 0}: 0, {0, 1}: 0, {0, 2}: 1, {0, 4}: 3, {0, 13}: 5, {2, 4}: 3, {3, 3}: 1, {3, 4}: 2, {4, 12}: 2, {5, 11}: 0, {3, 23}: 7,
		{4, 3}: 0, {1000, 0}: 0, {14, 2}: 0, {-1, 4}: 0, {0, 1000001}: 0, {0, 1000000}: 300000, {999992, 1000000}: 3, {1000000, 1000000}: 0,
	} {
		checkVisibleCount(t, o, stretch[0], stretch[1], count)
	}
}

func TestVisibleAtEachTime(t *testing.T) {
	for _, o := range sampleOrbits {
		passes := passesBy(o)
		for at := range passes {
			if impl.Visible(o, at) != (passes[at] >= 0) || impl.PassOf(o, at) != passes[at] {
				checkVisible(t, o, at, passes[at])
				break
			}
		}
		for _, at := range timesAround(o) {
			if within(at, 0, 1000000) {
				checkVisible(t, o, at, passes[at])
			} else {
				checkVisible(t, o, at, -1)
			}
		}
	}
}

func TestNextVisibleAtEachTime(t *testing.T) {
	for _, o := range sampleOrbits {
		next, passes := -1, passesBy(o)
		for at := 1000000; at >= 0; at-- {
			if passes[at] >= 0 {
				next = at
			}
			if impl.NextVisible(o, at) != next {
				checkNextVisible(t, o, at, next)
				break
			}
		}
		for _, at := range timesAround(o) {
			if !within(at, 0, 1000000) {
				checkNextVisible(t, o, at, -1)
			}
		}
	}
}

// Every time is visible that Visible tells, and counted once.
func TestVisibleCountIsThatOfVisible(t *testing.T) {
	for _, o := range sampleOrbits {
		before := make([]int, 1000002) // how many times less than each one are visible
		for at := range 1000001 {
			before[at+1] = before[at]
			if impl.Visible(o, at) {
				before[at+1]++
			}
		}
		for _, a := range timesAround(o) {
			for _, b := range timesAround(o) {
				want := 0
				if within(a, 0, 1000000) && within(b, a, 1000000) {
					want = before[b+1] - before[a]
				}
				checkVisibleCount(t, o, a, b, want)
			}
		}
		checkVisibleCount(t, o, 0, 1000000, before[1000001])
	}
}

func TestVisibleCountOfShortStretches(t *testing.T) {
	for _, o := range []impl.Orbit{orbit(1, 0, 1), orbit(3, 2, 1), orbit(5, 3, 2), orbit(5, 1, 5), orbit(6, 5, 4)} {
		for a := range 25 {
			count := 0
			for b := a; b < 40; b++ {
				if impl.Visible(o, b) {
					count++
				}
				checkVisibleCount(t, o, a, b, count)
				if b > a {
					checkVisibleCount(t, o, b, a, 0)
				}
			}
		}
	}
}
