package tests

import (
	"slices"
	"testing"

	"loop.example/g03316/impl"
)

// slotsOf makes a plan from numbers that are in turn a time and an Id.
func slotsOf(numbers ...int) []impl.Slot {
	plan := []impl.Slot{}
	for i := 0; i < len(numbers); i += 2 {
		plan = append(plan, impl.Slot{Time: numbers[i], Id: numbers[i+1]})
	}
	return plan
}

func checkSlotAt(t *testing.T, plan []impl.Slot, at, want int) {
	t.Helper()
	if got := impl.SlotAt(plan, at); got != want {
		t.Errorf("SlotAt(%s) = %d, want %d", shown(plan, at), got, want)
	}
}

func checkSlotsOf(t *testing.T, plan []impl.Slot, id, want int) {
	t.Helper()
	if got := impl.SlotsOf(plan, id); got != want {
		t.Errorf("SlotsOf(%s) = %d, want %d", shown(plan, id), got, want)
	}
}

func checkMissedOf(t *testing.T, list []impl.Request, plan []impl.Slot, want ...int) {
	t.Helper()
	if got := impl.MissedOf(list, plan); !slices.Equal(got, want) {
		t.Errorf("MissedOf(%s) = %v, want %v", shown(list, plan), got, want)
	}
}

func TestPlansWithoutSlots(t *testing.T) {
	for _, plan := range [][]impl.Slot{nil, {}} {
		for _, n := range append([]int{0, 1, 255, 1000000}, farNumbers...) {
			checkSlotAt(t, plan, n, -1)
			checkSlotsOf(t, plan, n, 0)
		}
		checkMissedOf(t, nil, plan)
		checkMissedOf(t, []impl.Request{}, plan)
		checkMissedOf(t, []impl.Request{request(7, 0, 9, 1), request(0, 0, 9, 100), request(255, 5, 6, 3)}, plan, 7, 0, 255)
	}
}

func TestPlansWithSlots(t *testing.T) {
	plan := slotsOf(2, 7, 3, 0, 4, 7, 12, 255, 13, 7)
	for at, id := range map[int]int{-1: -1, 0: -1, 1: -1, 2: 7, 3: 0, 4: 7, 5: -1, 11: -1, 12: 255, 13: 7, 14: -1, 1000000: -1} {
		checkSlotAt(t, plan, at, id)
	}
	for id, count := range map[int]int{-1: 0, 0: 1, 1: 0, 2: 0, 7: 3, 8: 0, 254: 0, 255: 1, 256: 0} {
		checkSlotsOf(t, plan, id, count)
	}
	for _, n := range farNumbers {
		checkSlotAt(t, plan, n, -1)
		checkSlotsOf(t, plan, n, 0)
	}
	checkMissedOf(t, nil, plan)
	for need := range 6 {
		missed := []int{}
		if need > 3 {
			missed = []int{7}
		}
		checkMissedOf(t, []impl.Request{request(7, 0, 20, need)}, plan, missed...)
	}
	// The order is that of the list, and not that of the Ids or of the slots.
	checkMissedOf(t, []impl.Request{request(255, 0, 20, 2), request(7, 0, 20, 4), request(0, 0, 20, 2)}, plan, 255, 7, 0)
	checkMissedOf(t, []impl.Request{request(0, 0, 20, 2), request(7, 0, 20, 3), request(255, 0, 20, 2)}, plan, 0, 255)
	checkMissedOf(t, []impl.Request{request(0, 0, 20, 1), request(7, 0, 20, 3), request(255, 0, 20, 1)}, plan)
	checkMissedOf(t, []impl.Request{request(9, 0, 20, 1), request(7, 0, 20, 1), request(8, 0, 20, 1)}, plan, 9, 8)
}

// Nothing needs to be valid: the first slot with a time counts, and each slot and each request.
func TestSlotsThatAreNoPlan(t *testing.T) {
	plan := slotsOf(9, 3, 5, 300, 9, 4, 5, 3, -2, -7, 2000000, 3, -1, -1)
	for at, id := range map[int]int{9: 3, 5: 300, -2: -7, 2000000: 3, -1: -1, 0: -1, 3: -1} {
		checkSlotAt(t, plan, at, id)
	}
	for id, count := range map[int]int{3: 3, 4: 1, 300: 1, -7: 1, -1: 1, 0: 0, 9: 0} {
		checkSlotsOf(t, plan, id, count)
	}
	// Slots count wherever they lie, also before Ready and behind Deadline.
	checkMissedOf(t, []impl.Request{request(3, 100, 200, 3), request(3, 100, 200, 4), request(4, 9, 0, 2), request(3, 0, 0, 5)}, plan, 3, 4, 3)
	checkMissedOf(t, []impl.Request{request(8, 0, 9, 0), request(9, 0, 9, -1), request(-7, 0, 9, 1), request(300, 0, 9, 2), request(-9, 0, 9, 1)}, plan, 300, -9)
	many := requestsUpTo(40)
	ids := []int{}
	for _, x := range many {
		ids = append(ids, x.Id)
	}
	checkMissedOf(t, many, slotsOf(1, 1), ids...)
}

func TestPlansKeepTheirMemory(t *testing.T) {
	lists := [][]impl.Request{nil, requestsUpTo(1), requestsUpTo(5), requestsUpTo(12), requestsUpTo(13), {request(3, 5, 40, 9), request(2, 1, 30, 9), request(1, 0, 30, 9)}}
	plans := [][]impl.Slot{nil, slotsOf(2, 7), slotsOf(12, 1, 4, 1, 4, 2)}
	for _, o := range []impl.Orbit{orbit(1, 0, 1), orbit(10, 2, 3), {}} {
		for _, plain := range lists {
			for _, slots := range append(plans, impl.PlanPasses(o, slices.Clone(plain))) {
				list, listAsBefore := guarded(plain, request(77, 0, 9, 1), request(78, 0, 9, 1))
				plan, planAsBefore := guarded(slots, slotsOf(12, 77, 13, 78)...)
				asBefore := func() bool { return listAsBefore() && planAsBefore() }
				impl.RequestsOk(list)
				impl.PlanOk(o, list, plan)
				impl.DemandOf(list, 0, 1000)
				impl.Feasible(o, list)
				impl.SlotAt(plan, 12)
				impl.SlotsOf(plan, 1)
				made, again := impl.PlanPasses(o, list), impl.PlanPasses(o, list)
				missed, missedAgain := impl.MissedOf(list, plan), impl.MissedOf(list, plan)
				overwrite(made, impl.Slot{Time: -9, Id: -9})
				overwrite(missed, -9)
				if !asBefore() {
					t.Errorf("arguments are changed: %s", shown(o, plain, slots))
				}
				if !slices.Equal(again, impl.PlanPasses(o, list)) || !slices.Equal(missedAgain, impl.MissedOf(list, plan)) {
					t.Errorf("two results share memory: %s", shown(o, plain, slots))
				}
			}
		}
	}
}
