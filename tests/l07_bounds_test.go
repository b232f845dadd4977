package tests

import (
	"testing"

	"loop.example/g03316/impl"
)

// boundsBy computes bounds in another way: each pair alone says what times are too early or too late.
func boundsBy(list []impl.Pair, b int) (int, int) {
	low, high := 0, 1000000
	for _, p := range list {
		if p.Board < b {
			low = max(low, p.True+1)
		}
		if p.Board > b {
			high = min(high, p.True-1)
		}
	}
	return low, high
}

func checkBounds(t *testing.T, list []impl.Pair, b, low, high int) {
	t.Helper()
	if gotLow, gotHigh, ok := impl.BoundsOf(list, b); gotLow != low || gotHigh != high || !ok {
		t.Errorf("BoundsOf(%s) = %d, %d, %v, want %d, %d", shown(list, b), gotLow, gotHigh, ok, low, high)
	}
}

func checkNoBounds(t *testing.T, list []impl.Pair, b int) {
	t.Helper()
	if low, high, ok := impl.BoundsOf(list, b); low != 0 || high != 0 || ok {
		t.Errorf("BoundsOf(%s) = %d, %d, %v, want none", shown(list, b), low, high, ok)
	}
}

// valuesAround returns what a clock can show at the limits, and at, before and behind each pair.
func valuesAround(list []impl.Pair) []int {
	values := []int{0, 1, 2, 999999, 1000000, 1000001, 1999999, 2000000}
	for _, p := range list {
		for by := -2; by <= 2; by++ {
			if within(p.Board+by, 0, 2000000) {
				values = append(values, p.Board+by)
			}
		}
	}
	return values
}

func TestBoundsWithoutPairs(t *testing.T) {
	for _, b := range valuesAround(nil) {
		checkBounds(t, nil, b, 0, 1000000)
		checkBounds(t, []impl.Pair{}, b, 0, 1000000)
	}
}

func TestBoundsWithOnePair(t *testing.T) {
	list := pairsOf(50, 60)
	for b, want := range map[int][2]int{
		0: {0, 59}, 1: {0, 59}, 49: {0, 59}, 50: {0, 1000000}, 51: {61, 1000000}, 2000000: {61, 1000000},
	} {
		checkBounds(t, list, b, want[0], want[1])
	}
	checkBounds(t, pairsOf(0, 0), 0, 0, 1000000)
	checkBounds(t, pairsOf(0, 0), 1, 1, 1000000)
	checkBounds(t, pairsOf(2000000, 1000000), 2000000, 0, 1000000)
	checkBounds(t, pairsOf(2000000, 1000000), 1999999, 0, 999999)
}

func TestBoundsWithManyPairs(t *testing.T) {
	list := pairsOf(10, 7, 20, 14, 40, 30, 47, 33)
	for b, want := range map[int][2]int{
		0: {0, 6}, 9: {0, 6}, 10: {0, 13}, 11: {8, 13}, 15: {8, 13}, 19: {8, 13}, 20: {8, 29}, 21: {15, 29}, 39: {15, 29},
		40: {15, 32}, 41: {31, 32}, 46: {31, 32}, 47: {31, 1000000}, 48: {34, 1000000}, 2000000: {34, 1000000},
	} {
		checkBounds(t, list, b, want[0], want[1])
	}
}

// Where no time is left, the first bound is greater than the second one.
func TestBoundsOfNoTime(t *testing.T) {
	checkBounds(t, pairsOf(10, 7, 20, 8), 15, 8, 7)
	checkBounds(t, pairsOf(10, 7, 20, 8), 11, 8, 7)
	checkBounds(t, pairsOf(10, 7, 20, 8), 19, 8, 7)
	checkBounds(t, pairsOf(5, 0), 4, 0, -1)
	checkBounds(t, pairsOf(5, 0), 0, 0, -1)
	checkBounds(t, pairsOf(5, 1000000), 6, 1000001, 1000000)
	checkBounds(t, pairsOf(5, 1000000), 2000000, 1000001, 1000000)
	checkBounds(t, pairsOf(0, 0, 1, 1, 3, 2), 2, 2, 1)
	checkBounds(t, pairsOf(10, 7, 20, 9), 15, 8, 8)
}

func TestBoundsAroundEachPair(t *testing.T) {
	for _, list := range samplePairs() {
		for _, b := range valuesAround(list) {
			low, high := boundsBy(list, b)
			checkBounds(t, list, b, low, high)
		}
	}
}

func TestBoundsOutOfRange(t *testing.T) {
	for _, list := range samplePairs() {
		for _, b := range append([]int{-2000000, -2, -1, 2000001, 2000002, 4000000}, farNumbers...) {
			checkNoBounds(t, list, b)
		}
	}
}
