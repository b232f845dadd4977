package tests

import (
	"testing"

	"loop.example/g03316/impl"
)

// stepBySteps does what StepMission is to do, one step after the other.
func stepBySteps(m impl.Mission) impl.Mission {
	if m.Time == 1000000 {
		return m
	}
	return impl.SendUp(impl.AskMissing(impl.HearDown(impl.SendDown(impl.HearUplink(impl.AdvanceBoard(m))))))
}

// busyMission returns a mission that begins with orders of all kinds and files, under a sky that
// loses so many percent.
func busyMission(t *testing.T, seed, light, loss int) impl.Mission {
	t.Helper()
	d := impl.Drift{Rate: 50*(seed%5) - 100, Offset: 3 * (seed % 7)}
	list := []impl.Request{request(3, 20, 300, 30), request(4, 0, 100, 20), request(200, 50, 80, 5)}
	sky := impl.Channel{Seed: 97 * seed, Burst: 50, Loss: loss}
	m, ok := impl.NewMission(light, d, orbit(40, seed%40, 25), list, sky, sky, 60, []impl.Limit{{Param: 1, Low: 10, High: 60000}}, missionTexts())
	if !ok {
		t.Fatal("the mission is not valid")
	}
	for i := range 30 {
		x := impl.Order{Kind: []int{1, 3, 0, 1, 4, 3, 2}[i%7], At: 11 * i % 97}
		switch x.Kind {
		case impl.OrderSet:
			x.A, x.B = i%8, 2100*i
		case impl.OrderRecord:
			x.A = i % 4
		case impl.OrderFile:
			x.A = i / 2 % 8
		case impl.OrderCancel:
			x.A = i - 3
		}
		m, _ = impl.GiveOrder(m, x)
	}
	return m
}

func TestStepsOfMissions(t *testing.T) {
	for seed := range 10 {
		m := busyMission(t, seed, seed*seed%12, 15*(seed%4))
		for at := range 150 {
			checkStep(t, shown("StepMission", seed, at), impl.StepMission, m, stepBySteps(copyOfMission(m)))
			m = impl.StepMission(m)
		}
		if len(m.Took) < 3 || len(m.Ground.Pairs) < 3 || m.Bad != 0 {
			t.Errorf("in the mission %d, too little happens", seed)
		}
	}
	m := sampleMission()
	checkStep(t, "StepMission of the sample", impl.StepMission, m, stepBySteps(copyOfMission(m)))
}

// run performs so many steps one after the other.
func run(m impl.Mission, n int) impl.Mission {
	for range n {
		m = stepBySteps(m)
	}
	return m
}

func checkRun(t *testing.T, name string, m impl.Mission, n int, want impl.Mission) {
	t.Helper()
	checkStep(t, shown("RunMission", name, n), func(m impl.Mission) impl.Mission { return impl.RunMission(m, n) }, m, want)
}

func TestRunsOfMissions(t *testing.T) {
	for seed := range 4 {
		m := busyMission(t, seed, 2*seed, 20)
		for _, n := range append(farNumbers, -1, 0, 1001, 1002) {
			checkRun(t, "none", m, n, m)
		}
		for _, n := range []int{1, 2, 7, 100, 999, 1000} {
			checkRun(t, "some", m, n, run(copyOfMission(m), n))
		}
		if got := impl.RunMission(m, 1000); got.Time != 1000 || !impl.LedgerOk(got) {
			t.Errorf("the mission %d goes on to the time %d", seed, got.Time)
		}
	}
	bad := missionWith(func(m *impl.Mission) { m.Ground.Told = nil })
	for _, n := range []int{-1, 0, 1, 1000, 1001} {
		checkRun(t, "not valid", bad, n, bad)
	}
	checkRun(t, "the sample", sampleMission(), 30, run(sampleMission(), 30))
	checkRun(t, "the sample", sampleMission(), 1001, sampleMission())
}

// At MaxTime, nothing is done at all, although blocks arrive and offers wait.
func TestStepsAtTheEndOfTime(t *testing.T) {
	for _, at := range []int{999998, 999999, 1000000} {
		m := busyMission(t, 0, 3, 0)
		m.Time = at
		m.Ups, m.Downs = []impl.Flight{commandFlight(at, 0, "z")}, frameFlights(at, framesWith(0, impl.Packet{Apid: 4}))
		if at == 1000000 {
			checkChange(t, "StepMission at MaxTime", impl.StepMission, m, noChange)
		} else if got := impl.StepMission(m); got.Time != at+1 || got.Bad != 2 || len(got.Offered) != 5 {
			t.Errorf("the step from %d leads to %d, with %d bad", at, got.Time, got.Bad)
		}
		for _, n := range []int{0, 1, 2, 3, 10, 1000} {
			checkRun(t, shown("to MaxTime", at), m, n, run(copyOfMission(m), n))
		}
		if got := impl.RunMission(m, 5); got.Time != 1000000 {
			t.Errorf("the mission goes on from %d to %d", at, got.Time)
		}
	}
}

// A mission that a step makes invalid, because a list is at its limit, stays as this step leaves it.
func TestStepsThatLeaveLimits(t *testing.T) {
	m := busyMission(t, 0, 0, 0)
	m.Took = make([]string, 5000)
	m.Ups = []impl.Flight{commandFlight(0, 0, missingPayload(3, 1))}
	want := impl.HearUplink(impl.AdvanceBoard(m))
	if len(want.Took) != 5001 || impl.MissionOk(want) {
		t.Error("the mission is valid")
	}
	checkStep(t, "StepMission", impl.StepMission, m, want)
	checkRun(t, "beyond a limit", m, 10, want)
}

func TestClearSky(t *testing.T) {
	for _, m := range []impl.Mission{calmMission(t, 40, 4), sampleMission(), busyMission(t, 3, 5, 100), missionWith(func(m *impl.Mission) {
		m.Up, m.Down = impl.Channel{Seed: 5, Burst: 100, Loss: 100}, impl.Channel{Seed: 65535, Burst: 1, Loss: 1}
		m.Orbit = orbit(1000, 999, 1)
	})} {
		checkChange(t, "ClearSky", impl.ClearSky, m, func(w *impl.Mission) {
			w.Up, w.Down = clearChannel(m.Up.Seed), clearChannel(m.Down.Seed)
			w.Orbit.Length = m.Orbit.Period
		})
		if got := impl.ClearSky(m); !impl.MissionOk(got) {
			t.Error("the mission is not valid under a clear sky")
		}
	}
}
