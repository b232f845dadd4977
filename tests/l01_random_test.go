package tests

import (
	"testing"

	"loop.example/g03316/impl"
)

func checkRandomBelow(t *testing.T, state, n, wantState, want int) {
	t.Helper()
	if next, got := impl.RandomBelow(state, n); next != wantState || got != want {
		t.Errorf("RandomBelow(%d, %d) = %d, %d, want %d, %d", state, n, next, got, wantState, want)
	}
}

func TestNextRandomOfKnownStates(t *testing.T) {
	for state, want := range map[int]int{0: 13849, 1: 39022, 2: 64195, 3: 23832, 39022: 61087, 65534: 29039, 65535: 54212} {
		if got := impl.NextRandom(state); got != want {
			t.Errorf("NextRandom(%d) = %d, want %d", state, got, want)
		}
	}
}

// The sequence goes through all states before it comes back to the first one.
func TestNextRandomOfAllStates(t *testing.T) {
	seen := map[int]bool{}
	state := 0
	for range 65536 {
		next := impl.NextRandom(state)
		if want := (state*25173 + 13849) % 65536; next != want {
			t.Fatalf("NextRandom(%d) = %d, want %d", state, next, want)
		}
		seen[next] = true
		state = next
	}
	if len(seen) != 65536 || state != 0 {
		t.Errorf("%d states, the last one %d", len(seen), state)
	}
}

func TestNextRandomOutOfRange(t *testing.T) {
	for _, state := range append([]int{65536, 65537, -2, 131072}, farNumbers...) {
		if got := impl.NextRandom(state); got != 0 {
			t.Errorf("NextRandom(%d) = %d, want 0", state, got)
		}
	}
}

func TestRandomBelowOfKnownStates(t *testing.T) {
	checkRandomBelow(t, 1, 100, 39022, 38)
	checkRandomBelow(t, 0, 1, 13849, 0)
	checkRandomBelow(t, 0, 2, 13849, 1)
	checkRandomBelow(t, 0, 100, 13849, 65)
	checkRandomBelow(t, 0, 4096, 13849, 865)
	checkRandomBelow(t, 65535, 4096, 54212, 3388)
	checkRandomBelow(t, 65535, 4095, 54212, 3388)
	checkRandomBelow(t, 65535, 1000, 54212, 388)
	checkRandomBelow(t, 65535, 1, 54212, 0)
	checkRandomBelow(t, 2, 3388, 64195, 624)
}

func TestRandomBelowOfAllStates(t *testing.T) {
	for state := range 65536 {
		next := (state*25173 + 13849) % 65536
		for _, n := range []int{1, 7, 100, 365, 4095, 4096} {
			checkRandomBelow(t, state, n, next, next/16%n)
		}
	}
	for n := 1; n <= 4096; n++ {
		checkRandomBelow(t, 1, n, 39022, 2438%n)
	}
}

func TestRandomBelowOutOfRange(t *testing.T) {
	for _, state := range append([]int{65536, 65537, -2}, farNumbers...) {
		for _, n := range []int{1, 100, 4096, 0, -1, 4097} {
			checkRandomBelow(t, state, n, 0, 0)
		}
	}
	for _, n := range append([]int{0, 4097, 4098, 65536, -2, -100}, farNumbers...) {
		for _, state := range []int{0, 1, 65535} {
			checkRandomBelow(t, state, n, 0, 0)
		}
	}
}
