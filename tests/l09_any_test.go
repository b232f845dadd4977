package tests

import (
	"math"
	"reflect"
	"testing"

	"loop.example/g03316/impl"
)

// visitParts calls a function with each number and each list in a value.
func visitParts(v reflect.Value, visit func(part reflect.Value)) {
	switch v.Kind() {
	case reflect.Struct:
		for i := range v.NumField() {
			visitParts(v.Field(i), visit)
		}
	case reflect.Slice:
		visit(v)
		for i := range v.Len() {
			visitParts(v.Index(i), visit)
		}
	case reflect.Int:
		visit(v)
	}
}

// checkAny performs everything with any mission: it returns, and one that is not valid unchanged.
func checkAny(t *testing.T, m impl.Mission) {
	t.Helper()
	for _, part := range ledgerParts {
		part(m)
	}
	if impl.LedgerOk(m) && !impl.MissionOk(m) {
		t.Error("the ledger of a mission that is not valid holds")
	}
	for step, perform := range missionSteps {
		if got := perform(m); !impl.MissionOk(m) && !sameMissions(got, m) {
			t.Errorf("%s:\n%s", step, difference(got, m))
		}
	}
}

func TestMissionsWithAnyNumbers(t *testing.T) {
	for _, m := range []impl.Mission{sampleMission(), calmMission(t, 40, 4)} {
		visitParts(reflect.ValueOf(&m).Elem(), func(part reflect.Value) {
			if part.Kind() != reflect.Int {
				return
			}
			was := part.Int()
			for _, n := range []int64{math.MinInt64, -1 << 40, -1, 0, 1, 7, 1 << 32, math.MaxInt64} {
				part.SetInt(n)
				checkAny(t, m)
			}
			part.SetInt(was)
		})
	}
}

func TestMissionsWithAnyLists(t *testing.T) {
	for _, m := range []impl.Mission{sampleMission(), calmMission(t, 40, 4), flownMission(t)} {
		visitParts(reflect.ValueOf(&m).Elem(), func(part reflect.Value) {
			if part.Kind() != reflect.Slice {
				return
			}
			was := part.Interface()
			part.SetZero()
			checkAny(t, m)
			part.Set(reflect.MakeSlice(part.Type(), 1, 1))
			checkAny(t, m)
			part.Set(reflect.MakeSlice(part.Type(), 9, 9))
			checkAny(t, m)
			spoil(part)
			checkAny(t, m)
			part.Set(reflect.ValueOf(was))
		})
	}
}
