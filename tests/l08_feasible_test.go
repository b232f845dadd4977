package tests

import (
	"slices"
	"testing"

	"loop.example/g03316/impl"
)

func checkDemandOf(t *testing.T, list []impl.Request, a, b, want int) {
	t.Helper()
	if got := impl.DemandOf(list, a, b); got != want {
		t.Errorf("DemandOf(%s) = %d, want %d", shown(list, a, b), got, want)
	}
}

func checkFeasible(t *testing.T, o impl.Orbit, list []impl.Request, want bool) {
	t.Helper()
	if got := impl.Feasible(o, list); got != want {
		t.Errorf("Feasible(%s) = %v", shown(o, list), got)
	}
}

// checkPlanAgainstDemand checks that the plan misses nothing exactly if no stretch of time is asked
// for more than it has.
func checkPlanAgainstDemand(t *testing.T, o impl.Orbit, list []impl.Request) {
	t.Helper()
	overAsked := false
	for _, x := range list {
		for _, y := range list {
			demand, visible := 0, 0
			for _, z := range list {
				if z.Ready >= x.Ready && z.Deadline <= y.Deadline {
					demand += z.Need
				}
			}
			for at := impl.NextVisible(o, x.Ready); demand > visible && within(at, 0, y.Deadline); at = impl.NextVisible(o, at+1) {
				visible++
			}
			overAsked = overAsked || demand > visible
		}
	}
	checkFeasible(t, o, list, !overAsked)
	if missed := impl.MissedOf(list, impl.PlanPasses(o, list)); (len(missed) == 0) == overAsked {
		t.Errorf("MissedOf the plan for %s = %v", shown(o, list), missed)
	}
}

// The Needs are powers of 2, so that a sum tells which requests are in it.
func TestDemandOf(t *testing.T) {
	list := []impl.Request{request(0, 0, 0, 1), request(1, 0, 20, 2), request(2, 3, 4, 4), request(3, 3, 20, 8), request(4, 10, 1000, 16), request(5, 998000, 1000000, 32), request(6, 1000000, 1000000, 64)}
	for stretch, want := range map[[2]int]int{
		{0, 0}: 1, {0, 1}: 1, {0, 3}: 1, {0, 4}: 1 + 4, {0, 5}: 1 + 4, {0, 10}: 1 + 4, {0, 19}: 1 + 4, {0, 20}: 1 + 2 + 4 + 8, {0, 21}: 1 + 2 + 4 + 8,
		{1, 20}: 4 + 8, {2, 4}: 4, {3, 4}: 4, {4, 4}: 0, {3, 3}: 0, {4, 20}: 0, {3, 20}: 4 + 8, {3, 999}: 4 + 8, {3, 1000}: 4 + 8 + 16, {10, 1000}: 16,
		{11, 1000}: 0, {10, 999}: 0, {0, 1000}: 31, {0, 1000000}: 127, {998000, 1000000}: 32 + 64, {997999, 1000000}: 32 + 64, {998001, 1000000}: 64,
		{998000, 999999}: 0, {1000000, 1000000}: 64, {999999, 1000001}: 64, {1000001, 1000000}: 0, {1000001, 2000000}: 0, {20, 0}: 0, {1, 0}: 0,
		{0, -1}: 0, {-1, 0}: 1, {-1, -1}: 0, {-1, 20}: 15, {-1000, 2000000}: 127, {5, 4}: 0, {4, 3}: 0,
	} {
		checkDemandOf(t, list, stretch[0], stretch[1], want)
	}
	for _, n := range farNumbers {
		checkDemandOf(t, list, n, 1000000, map[bool]int{true: 127}[n < 0])
		checkDemandOf(t, list, 0, n, map[bool]int{true: 127}[n > 0])
	}
	checkDemandOf(t, nil, 0, 1000000, 0)
	checkDemandOf(t, []impl.Request{}, -1, 2000000, 0)
	checkDemandOf(t, []impl.Request{request(9, 5, 8, 100)}, 5, 8, 100)
}

func TestDemandAtTheEndsOfRequests(t *testing.T) {
	for _, x := range []impl.Request{request(9, 0, 0, 7), request(9, 0, 2000, 7), request(9, 500, 700, 7), request(9, 998000, 1000000, 7), request(9, 1000000, 1000000, 7)} {
		other := request(3, 400000, 400000, 50)
		for byA := -2; byA <= 2; byA++ {
			for byB := -2; byB <= 2; byB++ {
				want := 0
				if byA <= 0 && byB >= 0 {
					want = 7
				}
				checkDemandOf(t, []impl.Request{x}, x.Ready+byA, x.Deadline+byB, want)
				checkDemandOf(t, []impl.Request{other, x}, x.Ready+byA, x.Deadline+byB, want)
			}
		}
	}
}

// The demand is as much as is visible, or one more.
func TestFeasibleAtItsLimit(t *testing.T) {
	for _, o := range []impl.Orbit{orbit(1, 0, 1), orbit(2, 1, 1), orbit(10, 2, 3), orbit(97, 13, 40)} {
		for ready := range 30 {
			for deadline := ready; deadline < ready+60; deadline++ {
				count := 0
				for at := ready; at <= deadline; at++ {
					if impl.Visible(o, at) {
						count++
					}
				}
				checkFeasible(t, o, []impl.Request{request(0, ready, deadline, count+1)}, false)
				if count == 0 {
					continue
				}
				checkFeasible(t, o, []impl.Request{request(0, ready, deadline, count)}, true)
				checkFeasible(t, o, []impl.Request{request(1, ready, deadline, count), request(2, ready, deadline, 1)}, false)
				if count > 1 {
					checkFeasible(t, o, []impl.Request{request(1, ready, deadline, count-1), request(2, ready, deadline, 1)}, true)
				}
			}
		}
	}
}

func TestFeasible(t *testing.T) {
	o, all := orbit(10, 2, 3), orbit(1, 0, 1)
	for _, c := range []struct {
		o    impl.Orbit
		list []impl.Request
		want bool
	}{
		{o, nil, true},
		{o, []impl.Request{request(1, 0, 20, 3), request(2, 3, 4, 2)}, true},
		{o, []impl.Request{request(1, 0, 20, 4), request(2, 3, 4, 2)}, true},
		{o, []impl.Request{request(1, 0, 20, 5), request(2, 3, 4, 2)}, false},
		{o, []impl.Request{request(1, 0, 20, 1), request(2, 3, 4, 3)}, false},
		{o, []impl.Request{request(1, 0, 1, 1)}, false},
		{o, []impl.Request{request(1, 5, 11, 1), request(2, 0, 2000, 1)}, false},
		{o, []impl.Request{request(1, 999994, 1000000, 1)}, true},
		{o, []impl.Request{request(1, 999994, 1000000, 2)}, false},
		{all, []impl.Request{request(1, 1000000, 1000000, 1), request(2, 0, 0, 1)}, true},
		{all, []impl.Request{request(1, 1000000, 1000000, 2), request(2, 0, 0, 1)}, false},
		// Each request alone has enough, but not from the Ready of one to the Deadline of another.
		{all, []impl.Request{request(1, 0, 5, 6), request(2, 3, 9, 4)}, true},
		{all, []impl.Request{request(1, 0, 5, 6), request(2, 3, 9, 5)}, false},
		{all, []impl.Request{request(2, 3, 9, 5), request(1, 0, 5, 6)}, false},
		{all, []impl.Request{request(1, 0, 3, 2), request(2, 2, 5, 2), request(3, 4, 7, 2), request(4, 1, 6, 2)}, true},
		{all, []impl.Request{request(1, 0, 3, 3), request(2, 2, 5, 2), request(3, 4, 7, 3), request(4, 1, 6, 1)}, false},
		// Too much in a stretch within that of others, which have enough.
		{all, []impl.Request{request(1, 0, 100, 1), request(2, 50, 52, 2), request(3, 51, 52, 1)}, true},
		{all, []impl.Request{request(1, 0, 100, 1), request(2, 50, 52, 2), request(3, 51, 52, 2)}, false},
	} {
		checkFeasible(t, c.o, c.list, c.want)
		checkPlanAgainstDemand(t, c.o, c.list)
		back := slices.Clone(c.list)
		slices.Reverse(back)
		checkFeasible(t, c.o, back, c.want)
	}
}

// mostSlots returns how many slots a plan can have at most, in another way: each unit that a request
// needs looks for a time, and one that has it gives it up if it finds another.
func mostSlots(o impl.Orbit, list []impl.Request) int {
	count, owner := 0, map[int]int{}
	var find func(i int, seen map[int]bool) bool
	find = func(i int, seen map[int]bool) bool {
		for at := list[i].Ready; at <= list[i].Deadline; at++ {
			if seen[at] || at < o.Start || (at-o.Start)%o.Period >= o.Length {
				continue
			}
			seen[at] = true
			if other, taken := owner[at]; !taken || find(other, seen) {
				owner[at] = i
				return true
			}
		}
		return false
	}
	for i, x := range list {
		for range x.Need {
			if find(i, map[int]bool{}) {
				count++
			}
		}
	}
	return count
}

// No plan serves more than PlanPasses does, and if any plan misses nothing, its plan does so.
func TestNoPlanServesMore(t *testing.T) {
	d := &drawing{state: 404}
	missing, whole := 0, 0
	for range 3000 {
		o, list := d.orbit(5), d.requests(d.number(1, 7), 0, d.number(0, 15), d.number(0, 15), d.number(1, 4))
		plan, most, asked := impl.PlanPasses(o, list), mostSlots(o, list), impl.DemandOf(list, 0, 1000000)
		if len(plan) != most {
			t.Errorf("the plan for %s has %d slots of %d", shown(o, list), len(plan), most)
		}
		checkFeasible(t, o, list, most == asked)
		if missed := impl.MissedOf(list, plan); (len(missed) == 0) != (most == asked) {
			t.Errorf("MissedOf the plan for %s = %v", shown(o, list), missed)
		}
		if most == asked {
			whole++
		} else {
			missing++
		}
	}
	if missing < 500 || whole < 500 {
		t.Errorf("%d plans miss something, and %d nothing: the samples are too much alike", missing, whole)
	}
}

// If the requests are feasible, no stretch is asked for more than it has, also if it begins and ends
// elsewhere than they do.
func TestAllStretchesHaveEnough(t *testing.T) {
	d := &drawing{state: 77}
	for range 400 {
		o, list := d.orbit(5), d.requests(d.number(1, 6), 0, 15, 15, 3)
		enough := true
		for a := range 35 {
			for b := range 35 {
				enough = enough && impl.DemandOf(list, a, b) <= impl.VisibleCount(o, a, b)
			}
		}
		checkFeasible(t, o, list, enough)
	}
}
