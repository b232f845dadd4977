package tests

import (
	"reflect"
	"slices"
	"strings"
	"testing"

	"loop.example/g03316/impl"
)

// A begin has the arguments of NewMission.
type begin struct {
	light    int
	drift    impl.Drift
	orbit    impl.Orbit
	requests []impl.Request
	up, down impl.Channel
	room     int
	limits   []impl.Limit
	files    []string
}

func sampleBegin() begin {
	return begin{
		light: 3, drift: impl.Drift{Rate: 20, Offset: 5}, orbit: orbit(10, 2, 3),
		requests: []impl.Request{request(1, 0, 20, 3), request(2, 3, 4, 2)},
		up:       impl.Channel{Seed: 7, Burst: 30, Loss: 20}, down: impl.Channel{Seed: 99, Burst: 40, Loss: 10},
		room: 100, limits: []impl.Limit{{Param: 2, Low: 10, High: 20}, {Param: 7, High: 65535}}, files: missionTexts(),
	}
}

func beginWith(change func(x *begin)) begin {
	x := sampleBegin()
	change(&x)
	return x
}

func (x begin) mission() (impl.Mission, bool) {
	return impl.NewMission(x.light, x.drift, x.orbit, x.requests, x.up, x.down, x.room, x.limits, x.files)
}

// wanted returns the mission that begins so, with every field that is not 0, false or empty.
func (x begin) wanted() impl.Mission {
	m := impl.Mission{Light: x.light, Drift: x.drift, Orbit: x.orbit, Up: x.up, Down: x.down}
	if impl.RequestsOk(x.requests) {
		m.Plan = planBy(x.orbit, x.requests)
	}
	m.Ground.Sender.Window = 5
	m.Ground.Unpacker.Next = -1
	m.Ground.Told = make([]bool, 8)
	m.Space.Board = impl.Board{Clock: x.drift.Offset, Params: make([]int, 8), Limits: x.limits, Recorder: impl.Recorder{Room: x.room}}
	m.Space.Files = x.files
	for i, text := range x.files {
		m.Ground.Files = append(m.Ground.Files, impl.FileIn{File: i, Size: -1, Check: -1, Parts: make([]string, 25)})
		m.Space.Outs = append(m.Space.Outs, impl.FileOut{File: i, Data: text, Done: true})
	}
	return m
}

func checkBegin(t *testing.T, name string, x begin) {
	t.Helper()
	m, ok := x.mission()
	if !ok || !sameMissions(m, x.wanted()) {
		t.Errorf("NewMission with %s returns %v:\n%s", name, ok, difference(m, x.wanted()))
	}
	if !impl.MissionOk(m) || !impl.LedgerOk(m) {
		t.Errorf("NewMission with %s is not valid, or its ledger does not hold", name)
	}
}

func checkNoBegin(t *testing.T, name string, x begin) {
	t.Helper()
	if m, ok := x.mission(); ok || !sameMissions(m, impl.Mission{}) {
		t.Errorf("NewMission with %s returns %v:\n%s", name, ok, difference(m, impl.Mission{}))
	}
}

// checkBeginNumbers checks numbers around the ends of a range in one place of the arguments.
func checkBeginNumbers(t *testing.T, name string, low, high int, place func(x *begin) *int) {
	t.Helper()
	for _, n := range numbersAround(low, high) {
		x := sampleBegin()
		*place(&x) = n
		if within(n, low, high) {
			checkBegin(t, shown(name, n), x)
		} else {
			checkNoBegin(t, shown(name, n), x)
		}
	}
}

func TestNewMissions(t *testing.T) {
	checkBegin(t, "the sample", sampleBegin())
	least := begin{orbit: orbit(1, 0, 1), files: make([]string, 8)}
	checkBegin(t, "the least of all", least)
	most := begin{
		light: 50, drift: impl.Drift{Rate: 100, Offset: 1000}, orbit: orbit(1000, 999, 1000), requests: requestsUpTo(12),
		up: impl.Channel{Seed: 65535, Burst: 100, Loss: 100}, down: impl.Channel{Seed: 65535, Burst: 100, Loss: 100},
		room: 4000, limits: slices.Repeat([]impl.Limit{{Param: 7, Low: 65535, High: 65535}}, 8), files: slices.Repeat([]string{mixedBytes(600)}, 8),
	}
	checkBegin(t, "the most of all", most)
	checkBegin(t, "a clock that goes slower", beginWith(func(x *begin) { x.drift.Rate = -100 }))
	for n := range 13 {
		checkBegin(t, shown("requests", n), beginWith(func(x *begin) { x.requests, x.orbit = requestsUpTo(n), orbit(10, 2, 9) }))
	}
}

// The document refuses no requests: where they are not valid, there is no plan.
func TestNewMissionsWithoutAPlan(t *testing.T) {
	for name, list := range map[string][]impl.Request{
		"no request": nil, "equal Ids": {request(1, 0, 9, 1), request(1, 0, 9, 1)}, "13 requests": requestsUpTo(13), "a Need of 0": {request(1, 0, 9, 0)},
	} {
		x := beginWith(func(x *begin) { x.requests = list })
		checkBegin(t, name, x)
		if m, _ := x.mission(); len(m.Plan) != 0 {
			t.Errorf("with %s, there is a plan", name)
		}
	}
	if m, _ := sampleBegin().mission(); len(m.Plan) != 5 {
		t.Error("the plan of the sample has other slots than 5")
	}
}

func TestNumbersOfNewMissions(t *testing.T) {
	checkBeginNumbers(t, "light", 0, 50, func(x *begin) *int { return &x.light })
	checkBeginNumbers(t, "room", 0, 4000, func(x *begin) *int { return &x.room })
	checkBeginNumbers(t, "Rate", -100, 100, func(x *begin) *int { return &x.drift.Rate })
	checkBeginNumbers(t, "Offset", 0, 1000, func(x *begin) *int { return &x.drift.Offset })
	checkBeginNumbers(t, "Period", 3, 1000, func(x *begin) *int { return &x.orbit.Period })
	checkBeginNumbers(t, "Start", 0, 9, func(x *begin) *int { return &x.orbit.Start })
	checkBeginNumbers(t, "Length", 1, 10, func(x *begin) *int { return &x.orbit.Length })
	for name, channel := range map[string]func(x *begin) *impl.Channel{
		"up": func(x *begin) *impl.Channel { return &x.up }, "down": func(x *begin) *impl.Channel { return &x.down },
	} {
		checkBeginNumbers(t, name+" Seed", 0, 65535, func(x *begin) *int { return &channel(x).Seed })
		checkBeginNumbers(t, name+" Burst", 0, 100, func(x *begin) *int { return &channel(x).Burst })
		checkBeginNumbers(t, name+" Loss", 0, 100, func(x *begin) *int { return &channel(x).Loss })
	}
}

func TestListsOfNewMissions(t *testing.T) {
	for _, n := range []int{0, 1, 7, 9, 16} {
		checkNoBegin(t, shown("files", n), beginWith(func(x *begin) { x.files = make([]string, n) }))
	}
	for at := range 8 {
		for _, n := range []int{0, 1, 600, 601, 1000} {
			x := beginWith(func(x *begin) { x.files[at] = strings.Repeat("z", n) })
			if n <= 600 {
				checkBegin(t, shown("file", at, n), x)
			} else {
				checkNoBegin(t, shown("file", at, n), x)
			}
		}
	}
	checkBegin(t, "8 limits", beginWith(func(x *begin) { x.limits = make([]impl.Limit, 8) }))
	for _, limits := range [][]impl.Limit{make([]impl.Limit, 9), {{Param: 8}}, {{Low: 65536}}, {{Param: 3}, {High: -1}}} {
		checkNoBegin(t, shown(limits), beginWith(func(x *begin) { x.limits = limits }))
	}
	// More than one argument can be bad.
	checkNoBegin(t, "nothing", begin{})
	checkNoBegin(t, "bad files and a bad room", beginWith(func(x *begin) { x.files, x.room = nil, -1 }))
}

func TestNewMissionsKeepTheirMemory(t *testing.T) {
	for _, x := range []begin{sampleBegin(), beginWith(func(x *begin) { x.files = x.files[:7] }), beginWith(func(x *begin) { x.room = -1 }), beginWith(func(x *begin) { x.light = 51 })} {
		requests, requestsAsBefore := guarded(x.requests, request(9, 0, 9, 1), request(8, 0, 9, 1))
		limits, limitsAsBefore := guarded(x.limits, impl.Limit{Param: 1}, impl.Limit{Param: 2})
		files, filesAsBefore := guarded(x.files, "71", "72")
		x.requests, x.limits, x.files = requests, limits, files
		m, ok := x.mission()
		again, _ := x.mission()
		if !requestsAsBefore() || !limitsAsBefore() || !filesAsBefore() {
			t.Error("NewMission changes its arguments")
		}
		if !areApart(m, again, requests, limits, files) {
			t.Error("NewMission shares memory")
		}
		if spoil(reflect.ValueOf(&m).Elem()); ok && !sameMissions(again, x.wanted()) {
			t.Error("a new mission is spoiled with another one")
		}
	}
}
