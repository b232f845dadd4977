package tests

import (
	"slices"
	"testing"

	"loop.example/g03316/impl"
)

// planBy plans in another way: at each time that some request allows, in order, it looks at all
// requests, and counts the slots that they have.
func planBy(o impl.Orbit, list []impl.Request) []impl.Slot {
	times := []int{}
	for _, x := range list {
		for at := x.Ready; at <= x.Deadline; at++ {
			times = append(times, at)
		}
	}
	slices.Sort(times)
	plan, got := []impl.Slot{}, make([]int, len(list))
	for _, at := range slices.Compact(times) {
		if at < o.Start || (at-o.Start)%o.Period >= o.Length {
			continue
		}
		best := -1
		for i, x := range list {
			if !within(at, x.Ready, x.Deadline) || got[i] == x.Need {
				continue
			}
			if best < 0 || x.Deadline < list[best].Deadline || x.Deadline == list[best].Deadline && x.Id < list[best].Id {
				best = i
			}
		}
		if best >= 0 {
			got[best]++
			plan = append(plan, impl.Slot{Time: at, Id: list[best].Id})
		}
	}
	return plan
}

func checkPlanned(t *testing.T, o impl.Orbit, list []impl.Request, want []impl.Slot) {
	t.Helper()
	if got := impl.PlanPasses(o, list); !slices.Equal(got, want) {
		t.Errorf("PlanPasses(%s) = %s, want %s", shown(o, list), shown(got), shown(want))
	}
}

// checkPlan checks the plan for valid arguments: that it is this one, in whatever order the requests
// come, that it keeps its rules, and that no time is left over that a request could use.
func checkPlan(t *testing.T, o impl.Orbit, list []impl.Request, want []impl.Slot) {
	t.Helper()
	checkPlanned(t, o, list, want)
	checkPlanOk(t, o, list, want, true)
	back := slices.Clone(list)
	slices.Reverse(back)
	checkPlanned(t, o, back, want)
	slices.SortFunc(back, func(x, y impl.Request) int { return x.Need - y.Need })
	checkPlanned(t, o, back, want)
	checkNothingLeftOver(t, o, list, want)
}

// checkNothingLeftOver checks that where a visible time has no slot, each request that allows this
// time has all of its slots before it.
func checkNothingLeftOver(t *testing.T, o impl.Orbit, list []impl.Request, plan []impl.Slot) {
	t.Helper()
	used := map[int]bool{}
	for _, slot := range plan {
		used[slot.Time] = true
	}
	for _, x := range list {
		got, next := 0, 0
		for at := x.Ready; at <= x.Deadline; at++ {
			for ; next < len(plan) && plan[next].Time < at; next++ {
				if plan[next].Id == x.Id {
					got++
				}
			}
			if impl.Visible(o, at) && !used[at] && got < x.Need {
				t.Errorf("the time %d is left over by the plan for %s", at, shown(o, list))
				return
			}
		}
	}
}

func TestPlanOfNoRequest(t *testing.T) {
	for _, o := range sampleOrbits {
		checkPlan(t, o, nil, nil)
		checkPlan(t, o, []impl.Request{}, nil)
	}
}

func TestPlanWithoutAnOrbit(t *testing.T) {
	for _, o := range badOrbits {
		for _, list := range [][]impl.Request{nil, {request(1, 0, 20, 3)}, requestsUpTo(12), requestsUpTo(13)} {
			checkPlanned(t, o, list, nil)
			checkPlanOk(t, o, list, nil, false)
			checkFeasible(t, o, list, false)
		}
	}
}

func TestPlanOfOneRequest(t *testing.T) {
	o := orbit(10, 2, 3)
	for _, c := range []struct {
		x    impl.Request
		want []int
	}{
		{request(7, 0, 0, 1), nil},
		{request(7, 2, 2, 1), []int{2}},
		{request(7, 2, 2, 2), []int{2}},
		{request(7, 0, 2, 1), []int{2}},
		{request(7, 4, 4, 1), []int{4}},
		{request(7, 5, 5, 1), nil},
		{request(7, 5, 11, 1), nil},
		{request(7, 5, 12, 1), []int{12}},
		{request(7, 4, 12, 100), []int{4, 12}},
		{request(0, 0, 20, 3), []int{2, 3, 4}},
		{request(0, 0, 20, 4), []int{2, 3, 4, 12}},
		{request(255, 3, 13, 3), []int{3, 4, 12}},
		{request(255, 3, 13, 4), []int{3, 4, 12, 13}},
		{request(255, 3, 13, 5), []int{3, 4, 12, 13}},
		{request(7, 999993, 1000000, 5), []int{999993, 999994}},
		{request(7, 999995, 1000000, 5), nil},
		{request(7, 1000000, 1000000, 5), nil},
	} {
		want := []impl.Slot{}
		for _, at := range c.want {
			want = append(want, impl.Slot{Time: at, Id: c.x.Id})
		}
		checkPlan(t, o, []impl.Request{c.x}, want)
	}
	checkPlan(t, orbit(1, 0, 1), []impl.Request{request(7, 999998, 1000000, 5)}, slotsOf(999998, 7, 999999, 7, 1000000, 7))
	checkPlan(t, orbit(1, 0, 1), []impl.Request{request(7, 0, 0, 5)}, slotsOf(0, 7))
	checkPlan(t, orbit(1000, 999, 1), []impl.Request{request(7, 0, 2000, 100)}, slotsOf(999, 7, 1999, 7))
	checkPlan(t, orbit(1000, 999, 1), []impl.Request{request(7, 0, 998, 1)}, nil)
}

func TestPlanOfManyRequests(t *testing.T) {
	o, all := orbit(10, 2, 3), orbit(1, 0, 1)
	for _, c := range []struct {
		o    impl.Orbit
		list []impl.Request
		want []impl.Slot
	}{
		// The least Deadline comes first, also if its request is ready later.
		{o, []impl.Request{request(1, 0, 20, 3), request(2, 3, 4, 2)}, slotsOf(2, 1, 3, 2, 4, 2, 12, 1, 13, 1)},
		{all, []impl.Request{request(1, 0, 9, 4), request(2, 2, 8, 2)}, slotsOf(0, 1, 1, 1, 2, 2, 3, 2, 4, 1, 5, 1)},
		{all, []impl.Request{request(1, 0, 9, 4), request(2, 2, 10, 2)}, slotsOf(0, 1, 1, 1, 2, 1, 3, 1, 4, 2, 5, 2)},
		{all, []impl.Request{request(1, 0, 9, 3), request(2, 1, 8, 3), request(3, 2, 7, 3)}, slotsOf(0, 1, 1, 2, 2, 3, 3, 3, 4, 3, 5, 2, 6, 2, 7, 1, 8, 1)},
		// With equal Deadlines, the least Id comes first, also if its request is ready later.
		{all, []impl.Request{request(5, 0, 9, 2), request(3, 0, 9, 2), request(4, 0, 9, 1)}, slotsOf(0, 3, 1, 3, 2, 4, 3, 5, 4, 5)},
		{all, []impl.Request{request(5, 0, 9, 3), request(3, 1, 9, 2)}, slotsOf(0, 5, 1, 3, 2, 3, 3, 5, 4, 5)},
		{all, []impl.Request{request(3, 0, 9, 3), request(5, 1, 9, 2)}, slotsOf(0, 3, 1, 3, 2, 3, 3, 5, 4, 5)},
		{all, []impl.Request{request(255, 4, 4, 1), request(0, 4, 4, 1)}, slotsOf(4, 0)},
		// One that ends at its Deadline gets no more, and what is left goes on.
		{all, []impl.Request{request(1, 0, 2, 5), request(2, 0, 4, 5)}, slotsOf(0, 1, 1, 1, 2, 1, 3, 2, 4, 2)},
		{all, []impl.Request{request(1, 0, 5, 4), request(2, 0, 5, 4), request(3, 0, 5, 4), request(4, 0, 7, 4)}, slotsOf(0, 1, 1, 1, 2, 1, 3, 1, 4, 2, 5, 2, 6, 4, 7, 4)},
		{o, []impl.Request{request(1, 0, 8, 5), request(2, 0, 9, 5), request(3, 0, 30, 2)}, slotsOf(2, 1, 3, 1, 4, 1, 12, 3, 13, 3)},
		{o, []impl.Request{request(1, 5, 11, 5), request(2, 4, 11, 1), request(3, 0, 1, 2)}, slotsOf(4, 2)},
		// Stretches that are far apart.
		{o, []impl.Request{request(1, 999980, 1000000, 3), request(2, 0, 3, 3), request(3, 500000, 500001, 9), request(4, 500001, 500003, 2)},
			slotsOf(2, 2, 3, 2, 500002, 4, 500003, 4, 999982, 1, 999983, 1, 999984, 1)},
		{all, []impl.Request{request(1, 999999, 1000000, 3), request(2, 0, 0, 3), request(3, 2, 2, 1)}, slotsOf(0, 2, 2, 3, 999999, 1, 1000000, 1)},
	} {
		checkPlan(t, c.o, c.list, c.want)
		checkPlan(t, c.o, c.list, planBy(c.o, c.list))
	}
}

// As many slots as there can be: 12 requests that need 100 times each.
func TestPlanOfTheMost(t *testing.T) {
	list, want := []impl.Request{}, []impl.Slot{}
	for i := range 12 {
		list = append(list, request(200+i, 998000, 1000000, 100))
	}
	for i := range 1200 {
		want = append(want, impl.Slot{Time: 998000 + i, Id: 200 + i/100})
	}
	checkPlan(t, orbit(1, 0, 1), list, want)
	checkMissedOf(t, list, want)
	for i := range list {
		list[i] = request(11-i, 1000*i, 1000*i+2000, 100)
	}
	for _, o := range sampleOrbits {
		checkPlan(t, o, list, planBy(o, list))
	}
	checkPlan(t, sampleOrbits[0], requestsUpTo(12), planBy(sampleOrbits[0], requestsUpTo(12)))
}

// drawing draws numbers and what is made from them.
type drawing struct{ state int }

// number returns a number from low to high.
func (d *drawing) number(low, high int) int {
	var first, second int
	d.state, first = draw(d.state, 2000)
	d.state, second = draw(d.state, 2000)
	return low + (first*2000+second)%(high-low+1)
}

// orbit returns a valid orbit with a period of at most this one.
func (d *drawing) orbit(period int) impl.Orbit {
	o := impl.Orbit{Period: d.number(1, period)}
	o.Start, o.Length = d.number(0, o.Period-1), d.number(1, o.Period)
	return o
}

// requests returns n valid requests that are ready from a time on, within a stretch, wait at most so
// long, and need at most so much.
func (d *drawing) requests(n, from, stretch, wait, need int) []impl.Request {
	list := []impl.Request{}
	for len(list) < n {
		x := impl.Request{Id: d.number(0, 255), Ready: min(d.number(from, from+stretch), 1000000), Need: d.number(1, need)}
		x.Deadline = min(d.number(x.Ready, x.Ready+wait), 1000000)
		if !slices.ContainsFunc(list, func(y impl.Request) bool { return x.Id == y.Id }) {
			list = append(list, x)
		}
	}
	return list
}

func TestDrawnPlans(t *testing.T) {
	d := &drawing{state: 8}
	for range 6000 {
		o, list := d.orbit(12), d.requests(d.number(1, 12), d.number(0, 40), d.number(0, 40), d.number(0, 40), d.number(1, 10))
		checkPlan(t, o, list, planBy(o, list))
		checkPlanAgainstDemand(t, o, list)
	}
	for range 300 {
		from := []int{0, 300000, 998000}[d.number(0, 2)]
		o, list := d.orbit(1000), d.requests(d.number(1, 12), from, d.number(0, 3000), d.number(0, 2000), d.number(1, 100))
		checkPlan(t, o, list, planBy(o, list))
		checkPlanAgainstDemand(t, o, list)
	}
	for range 300 {
		o, list := d.orbit(60), d.requests(12, 0, 1000000, 2000, 100)
		checkPlan(t, o, list, planBy(o, list))
		checkPlanAgainstDemand(t, o, list)
	}
}
