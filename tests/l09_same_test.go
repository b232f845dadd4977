package tests

import (
	"fmt"
	"reflect"
	"slices"
	"strings"
	"testing"

	"loop.example/g03316/impl"
)

// sameValues reports whether two values of one type are equal; a nil slice and an empty one are.
func sameValues(a, b reflect.Value) bool {
	switch a.Kind() {
	case reflect.Struct:
		for i := range a.NumField() {
			if !sameValues(a.Field(i), b.Field(i)) {
				return false
			}
		}
		return true
	case reflect.Slice:
		if a.Len() != b.Len() {
			return false
		}
		for i := range a.Len() {
			if !sameValues(a.Index(i), b.Index(i)) {
				return false
			}
		}
		return true
	default:
		return a.Equal(b)
	}
}

func sameMissions(a, b impl.Mission) bool {
	return sameValues(reflect.ValueOf(a), reflect.ValueOf(b))
}

// linesOf lists the numbers, truth values and texts in a value, each with the way to it.
func linesOf(way string, v reflect.Value) []string {
	list := []string{}
	switch v.Kind() {
	case reflect.Struct:
		for i := range v.NumField() {
			list = append(list, linesOf(way+"."+v.Type().Field(i).Name, v.Field(i))...)
		}
	case reflect.Slice:
		list = append(list, fmt.Sprintf("%s has %d", way, v.Len()))
		for i := range v.Len() {
			list = append(list, linesOf(fmt.Sprintf("%s[%d]", way, i), v.Index(i))...)
		}
	default:
		list = append(list, way+" = "+shown(v.Interface()))
	}
	return list
}

// difference tells the first lines in which two missions differ, so that the message of a failed
// test is short.
func difference(got, want impl.Mission) string {
	found := []string{}
	is, wanted := linesOf("", reflect.ValueOf(got)), linesOf("", reflect.ValueOf(want))
	for _, line := range is {
		if len(found) < 6 && !slices.Contains(wanted, line) {
			found = append(found, "got "+line)
		}
	}
	for _, line := range wanted {
		if len(found) < 12 && !slices.Contains(is, line) {
			found = append(found, "want "+line)
		}
	}
	return strings.Join(found, "\n")
}

// copyDeep returns an equal value in new memory, with so many spare elements behind each slice.
func copyDeep(v reflect.Value, spare int) reflect.Value {
	made := reflect.New(v.Type()).Elem()
	switch v.Kind() {
	case reflect.Struct:
		for i := range v.NumField() {
			made.Field(i).Set(copyDeep(v.Field(i), spare))
		}
	case reflect.Slice:
		made.Set(reflect.MakeSlice(v.Type(), v.Len()+spare, v.Len()+spare))
		for i := range made.Len() {
			if i < v.Len() {
				made.Index(i).Set(copyDeep(v.Index(i), spare))
			} else {
				spoil(made.Index(i))
			}
		}
		made = made.Slice(0, v.Len())
	default:
		made.Set(v)
	}
	return made
}

// spoil writes unlikely numbers, texts and truth values into a value.
func spoil(v reflect.Value) {
	switch v.Kind() {
	case reflect.Struct:
		for i := range v.NumField() {
			spoil(v.Field(i))
		}
	case reflect.Slice:
		v.SetLen(v.Cap())
		for i := range v.Len() {
			spoil(v.Index(i))
		}
	case reflect.Int:
		v.SetInt(-97)
	case reflect.String:
		v.SetString("-97")
	case reflect.Bool:
		v.SetBool(!v.Bool())
	}
}

func copyOfMission(m impl.Mission) impl.Mission {
	return copyDeep(reflect.ValueOf(m), 0).Interface().(impl.Mission)
}

// stretched returns a value in which each slice reaches to the end of its capacity.
func stretched(v reflect.Value) reflect.Value {
	made := reflect.New(v.Type()).Elem()
	made.Set(v)
	switch v.Kind() {
	case reflect.Struct:
		for i := range v.NumField() {
			made.Field(i).Set(stretched(v.Field(i)))
		}
	case reflect.Slice:
		made.Set(reflect.MakeSlice(v.Type(), v.Cap(), v.Cap()))
		for i := range v.Cap() {
			made.Index(i).Set(stretched(v.Slice(0, v.Cap()).Index(i)))
		}
	}
	return made
}

// guardedMission returns an equal mission with spare elements behind each slice, and a function that
// tells whether all of its memory is as it was.
func guardedMission(m impl.Mission) (impl.Mission, func() bool) {
	guarded := copyDeep(reflect.ValueOf(m), 3)
	was := stretched(guarded)
	return guarded.Interface().(impl.Mission), func() bool { return sameValues(stretched(guarded), was) }
}

// A stretch is the memory of a slice, with its capacity.
type stretch struct{ from, to uintptr }

func stretchesOf(v reflect.Value) []stretch {
	list := []stretch{}
	switch v.Kind() {
	case reflect.Struct:
		for i := range v.NumField() {
			list = append(list, stretchesOf(v.Field(i))...)
		}
	case reflect.Slice:
		if v.Cap() > 0 {
			list = append(list, stretch{v.Pointer(), v.Pointer() + uintptr(v.Cap())*v.Type().Elem().Size()})
		}
		for i := range v.Len() {
			list = append(list, stretchesOf(v.Index(i))...)
		}
	}
	return list
}

// areApart reports whether no two slices in some values share memory.
func areApart(values ...any) bool {
	list := []stretch{}
	for _, x := range values {
		list = append(list, stretchesOf(reflect.ValueOf(x))...)
	}
	slices.SortFunc(list, func(a, b stretch) int { return int(a.from) - int(b.from) })
	for i := range list {
		if i > 0 && list[i].from < list[i-1].to {
			return false
		}
	}
	return true
}

// checkStep checks what a step makes of a mission, that it changes nothing of what it was given, and
// that its result has its own memory.
func checkStep(t *testing.T, name string, step func(m impl.Mission) impl.Mission, m, want impl.Mission) {
	t.Helper()
	given, asBefore := guardedMission(m)
	got := step(given)
	if !sameMissions(got, want) {
		t.Errorf("%s:\n%s", name, difference(got, want))
	}
	if !asBefore() {
		t.Errorf("%s changes its argument", name)
	}
	if !areApart(given, got) {
		t.Errorf("the result of %s shares memory", name)
	}
}

// checkChange checks that a step makes such changes and no others.
func checkChange(t *testing.T, name string, step func(m impl.Mission) impl.Mission, m impl.Mission, change func(w *impl.Mission)) {
	t.Helper()
	want := copyOfMission(m)
	change(&want)
	checkStep(t, name, step, m, want)
}

func noChange(w *impl.Mission) {}

// These helpers would pass everything if they did not see what they are to see.
func TestHelpersForMissions(t *testing.T) {
	m, again := sampleMission(), sampleMission()
	if !sameMissions(m, again) || difference(m, again) != "" || !areApart(m, again) || areApart(m, m) {
		t.Error("two sample missions are not equal, or not apart")
	}
	for _, change := range []func(w *impl.Mission){
		func(w *impl.Mission) { w.Bad++ }, func(w *impl.Mission) { w.Ground.Told[7] = !w.Ground.Told[7] },
		func(w *impl.Mission) { w.Space.Outs[4].Queue[0]++ }, func(w *impl.Mission) { w.Took = w.Took[1:] },
		func(w *impl.Mission) { w.Space.Board.Recorder.Records[1].Data += "z" },
	} {
		changed := copyOfMission(m)
		change(&changed)
		if sameMissions(m, changed) || sameMissions(changed, m) || difference(m, changed) == "" || difference(changed, m) == "" {
			t.Error("a change is not seen")
		}
	}
	for _, change := range []func(w *impl.Mission){
		func(w *impl.Mission) { w.Ground.Files[7].Parts[24] = "z" }, func(w *impl.Mission) { w.Ups = append(w.Ups, impl.Flight{At: 7}) },
		func(w *impl.Mission) { w.Space.Outs[4].Queue = append(w.Space.Outs[4].Queue, 2) },
	} {
		guarded, asBefore := guardedMission(m)
		if !asBefore() || !sameMissions(guarded, m) {
			t.Error("a guarded mission is not as it was")
		}
		if change(&guarded); asBefore() {
			t.Error("a change of guarded memory is not seen")
		}
	}
	shares := copyOfMission(m)
	shares.Space.Outs[4].Queue = m.Space.Outs[4].Queue[:1]
	if areApart(m, shares) {
		t.Error("shared memory is not seen")
	}
	if spoil(reflect.ValueOf(&again).Elem()); sameMissions(m, again) || again.Space.Outs[4].Queue[0] != -97 {
		t.Error("a spoiled mission is as it was")
	}
}
