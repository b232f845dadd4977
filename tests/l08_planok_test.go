package tests

import (
	"slices"
	"testing"

	"loop.example/g03316/impl"
)

func checkPlanOk(t *testing.T, o impl.Orbit, list []impl.Request, plan []impl.Slot, want bool) {
	t.Helper()
	if got := impl.PlanOk(o, list, plan); got != want {
		t.Errorf("PlanOk(%s) = %v", shown(o, list, plan), got)
	}
}

// keepsRules tells in another way whether a plan for a valid orbit and valid requests keeps its
// rules: each slot is looked at for itself, and taken from what its request needs.
func keepsRules(o impl.Orbit, list []impl.Request, plan []impl.Slot) bool {
	left, times := map[int]int{}, map[int]bool{}
	for _, x := range list {
		left[x.Id] = x.Need
	}
	for _, slot := range plan {
		left[slot.Id]--
		at := slices.IndexFunc(list, func(x impl.Request) bool { return x.Id == slot.Id && within(slot.Time, x.Ready, x.Deadline) })
		if at < 0 || left[slot.Id] < 0 || times[slot.Time] || slot.Time < o.Start || (slot.Time-o.Start)%o.Period >= o.Length {
			return false
		}
		times[slot.Time] = true
	}
	return slices.IsSortedFunc(plan, func(a, b impl.Slot) int { return a.Time - b.Time })
}

func TestPlanOkWithoutSlots(t *testing.T) {
	for _, o := range sampleOrbits {
		checkPlanOk(t, o, nil, nil, true)
		checkPlanOk(t, o, []impl.Request{}, []impl.Slot{}, true)
		checkPlanOk(t, o, requestsUpTo(12), nil, true)
		checkPlanOk(t, o, nil, slotsOf(o.Start, 0), false)
	}
}

// A plan that keeps its rules needs not be the one that PlanPasses makes.
func TestPlansThatKeepTheirRules(t *testing.T) {
	o := orbit(10, 2, 3)
	list := []impl.Request{request(1, 0, 20, 3), request(2, 3, 13, 2), request(0, 4, 4, 1)}
	for _, plan := range [][]impl.Slot{
		slotsOf(2, 1), slotsOf(14, 1), slotsOf(3, 2), slotsOf(13, 2), slotsOf(4, 0), slotsOf(2, 1, 3, 1, 4, 1), slotsOf(12, 2, 13, 2, 14, 1),
		slotsOf(2, 1, 3, 2, 4, 0, 12, 1, 13, 2, 14, 1), slotsOf(3, 2, 13, 2),
	} {
		checkPlanOk(t, o, list, plan, true)
	}
}

func TestPlansThatBreakOneRule(t *testing.T) {
	o := orbit(10, 2, 3)
	list := []impl.Request{request(1, 0, 20, 3), request(2, 3, 13, 2), request(3, 5, 40, 100)}
	plan := slotsOf(2, 1, 3, 2, 12, 1, 14, 3)
	checkPlanOk(t, o, list, plan, true)
	for _, bad := range badOrbits {
		checkPlanOk(t, bad, list, plan, false)
		checkPlanOk(t, bad, list, nil, false)
		checkPlanOk(t, bad, nil, nil, false)
	}
	for _, x := range []impl.Request{request(1, 0, 20, 3), request(9, 0, 20, 0), request(9, 0, 2001, 1), request(256, 0, 20, 1), request(9, 9, 8, 1)} {
		checkPlanOk(t, o, append(slices.Clone(list), x), plan, false)
		checkPlanOk(t, o, append([]impl.Request{x}, list...), plan, false)
		checkPlanOk(t, o, append(slices.Clone(list), x), nil, false)
	}
	for _, broken := range [][]impl.Slot{
		slotsOf(2, 1, 2, 1), slotsOf(3, 1, 3, 2), slotsOf(2, 1, 3, 2, 12, 1, 12, 3), // equal times
		slotsOf(3, 2, 2, 1), slotsOf(12, 1, 3, 2), slotsOf(2, 1, 12, 1, 4, 1), slotsOf(2, 1, 3, 2, 14, 3, 12, 1), // a time that descends
		slotsOf(0, 1), slotsOf(1, 1), slotsOf(5, 1), slotsOf(11, 2), slotsOf(15, 1), slotsOf(2, 1, 5, 2), slotsOf(2, 1, 20, 3), // a time that is not visible
		slotsOf(-1, 1), slotsOf(-8, 1), slotsOf(1000002, 3), slotsOf(1000001, 1), // no time
		slotsOf(2, 0), slotsOf(2, 4), slotsOf(2, -1), slotsOf(2, 256), slotsOf(2, 1, 3, 2, 12, 1, 14, 5), slotsOf(2, 5, 3, 2), // no request
		slotsOf(2, 2), slotsOf(2, 2, 3, 2), slotsOf(2, 3), slotsOf(4, 3), slotsOf(2, 1, 3, 3), // before Ready
		slotsOf(14, 2), slotsOf(3, 2, 14, 2), slotsOf(22, 1), slotsOf(2, 1, 42, 3), slotsOf(22, 2), // behind Deadline
		slotsOf(2, 1, 3, 1, 4, 1, 12, 1), slotsOf(3, 2, 4, 2, 12, 2), slotsOf(2, 1, 3, 2, 4, 2, 12, 2, 14, 3), slotsOf(2, 1, 3, 1, 12, 1, 13, 1), // one slot more
	} {
		checkPlanOk(t, o, list, broken, false)
	}
}

// At the ends of Ready and Deadline, and one time further, where all times are visible.
func TestSlotsAtTheEndsOfRequests(t *testing.T) {
	all := orbit(1, 0, 1)
	for _, x := range []impl.Request{request(9, 0, 0, 1), request(9, 0, 10, 1), request(9, 5, 5, 2), request(9, 500, 2500, 3), request(9, 999990, 1000000, 1), request(9, 1000000, 1000000, 1)} {
		list := []impl.Request{x}
		for _, at := range []int{x.Ready - 1, x.Ready, x.Ready + 1, x.Deadline - 1, x.Deadline, x.Deadline + 1} {
			checkPlanOk(t, all, list, slotsOf(at, 9), within(at, x.Ready, x.Deadline))
		}
	}
	for need := 1; need <= 100; need++ {
		list := []impl.Request{request(9, 0, 200, need)}
		plan := []impl.Slot{}
		for at := range 102 {
			checkPlanOk(t, all, list, plan, len(plan) <= need)
			plan = append(plan, impl.Slot{Time: 2 * at, Id: 9})
		}
	}
}

// All plans with up to three slots at few times, for two requests.
func TestPlanOkForAllSmallPlans(t *testing.T) {
	for _, o := range []impl.Orbit{orbit(1, 0, 1), orbit(3, 1, 2), orbit(4, 0, 3)} {
		for _, list := range [][]impl.Request{{request(0, 1, 4, 2), request(1, 0, 3, 1)}, {request(1, 2, 5, 1), request(0, 4, 5, 2)}} {
			var extend func(plan []impl.Slot)
			extend = func(plan []impl.Slot) {
				checkPlanOk(t, o, list, plan, keepsRules(o, list, plan))
				if len(plan) == 3 {
					return
				}
				for at := range 7 {
					for id := range 3 {
						extend(append(slices.Clone(plan), impl.Slot{Time: at, Id: id}))
					}
				}
			}
			extend(nil)
		}
	}
}

// Plans that PlanPasses makes, and what becomes of them when one slot is changed, added or left out.
func TestPlanOkForChangedPlans(t *testing.T) {
	d := &drawing{state: 31}
	for range 1500 {
		o, list := d.orbit(6), d.requests(d.number(1, 8), 0, 20, 20, 5)
		plan := impl.PlanPasses(o, list)
		if len(plan) == 0 {
			continue
		}
		check := func(changed []impl.Slot) {
			t.Helper()
			checkPlanOk(t, o, list, changed, keepsRules(o, list, changed))
		}
		check(plan)
		for range 10 {
			at := d.number(0, len(plan)-1)
			changed := slices.Clone(plan)
			changed[at].Time += d.number(-6, 6)
			check(changed)
			changed = slices.Clone(plan)
			changed[at].Id = list[d.number(0, len(list)-1)].Id
			check(changed)
			check(slices.Insert(slices.Clone(plan), at, impl.Slot{Time: plan[at].Time - 1, Id: list[d.number(0, len(list)-1)].Id}))
			check(slices.Delete(slices.Clone(plan), at, at+1))
		}
	}
}
