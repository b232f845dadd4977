package tests

import (
	"reflect"
	"slices"
	"testing"

	"loop.example/g03316/impl"
)

// memoryMissions are missions of which some of everything changes in each step, and such as are not
// valid.
func memoryMissions(t *testing.T) map[string]impl.Mission {
	t.Helper()
	locked := busyMission(t, 2, 0, 0)
	locked.Ground.Notice.Locked = true
	asking := askingMission(t, 39)
	asking.Orbit = orbit(10, 9, 1)
	return map[string]impl.Mission{
		"the sample": sampleMission(), "zero": {}, "calm": calmMission(t, 19, 0), "loaded": loadedMission(t), "flown": flownMission(t), "locked": locked, "asking": asking,
		"MaxTime": missionWith(func(m *impl.Mission) { m.Time = 1000000 }), "200 offers": missionWith(func(m *impl.Mission) { m.Ground.Offers = slices.Repeat([]string{"z"}, 200) }),
		"no files": missionWith(func(m *impl.Mission) { m.Ground.Files = nil }), "bad pairs": missionWith(func(m *impl.Mission) { m.Ground.Pairs = pairsOf(9, 9, 8, 8) }),
		"a bad board": missionWith(func(m *impl.Mission) { m.Space.Board.Made = 0 }), "a bad light": missionWith(func(m *impl.Mission) { m.Light = 51 }),
	}
}

// Whatever is done with a result, neither the argument nor another result changes, and no two lists
// of a result are the same memory.
func TestMissionsShareNoMemory(t *testing.T) {
	for name, m := range memoryMissions(t) {
		for step, perform := range missionSteps {
			given, asBefore := guardedMission(m)
			one, two := perform(given), perform(given)
			was := copyOfMission(two)
			if !areApart(given, one, two) {
				t.Errorf("%s of %s: results share memory", step, name)
			}
			spoil(reflect.ValueOf(&one).Elem())
			if !asBefore() || !sameMissions(two, was) || !sameMissions(perform(m), was) {
				t.Errorf("%s of %s: memory is changed", step, name)
			}
			spoil(reflect.ValueOf(&given).Elem())
			if !sameMissions(two, was) {
				t.Errorf("%s of %s: the argument is kept", step, name)
			}
		}
	}
}

// The ledger is examined by several goroutines: what it says does not depend on them, and it can be
// asked for by many at once.
func TestLedgersAtOnce(t *testing.T) {
	m := flownMission(t)
	broken := flownMission(t)
	broken.Space.Board.Made++
	answers := make(chan bool)
	for i := range 64 {
		go func() {
			if i%2 == 0 {
				answers <- impl.LedgerOk(m)
			} else {
				answers <- !impl.LedgerOk(broken)
			}
		}()
	}
	for range 64 {
		if !<-answers {
			t.Error("the ledger of a mission is not always the same")
		}
	}
}
