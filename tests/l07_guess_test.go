package tests

import (
	"sort"
	"testing"

	"loop.example/g03316/impl"
)

// guessBy computes an estimate in another way: a search for the second pair, and a division of
// numbers of any length.
func guessBy(list []impl.Pair, b int) int {
	second := sort.Search(len(list), func(i int) bool { return i > 0 && list[i].Board >= b })
	second = min(second, len(list)-1)
	p, q := list[second-1], list[second]
	return p.True + roundedDown((b-p.Board)*(q.True-p.True), q.Board-p.Board)
}

func checkGuess(t *testing.T, list []impl.Pair, b, want int) {
	t.Helper()
	if got, ok := impl.GuessTrue(list, b); got != want || !ok {
		t.Errorf("GuessTrue(%s) = %d, %v, want %d", shown(list, b), got, ok, want)
	}
}

func checkNoGuess(t *testing.T, list []impl.Pair, b int) {
	t.Helper()
	if got, ok := impl.GuessTrue(list, b); got != 0 || ok {
		t.Errorf("GuessTrue(%s) = %d, %v, want none", shown(list, b), got, ok)
	}
}

func checkRate(t *testing.T, list []impl.Pair, want int) {
	t.Helper()
	if got, ok := impl.RateOf(list); got != want || !ok {
		t.Errorf("RateOf(%s) = %d, %v, want %d", shown(list), got, ok, want)
	}
}

func checkNoRate(t *testing.T, list []impl.Pair) {
	t.Helper()
	if got, ok := impl.RateOf(list); got != 0 || ok {
		t.Errorf("RateOf(%s) = %d, %v, want none", shown(list), got, ok)
	}
}

func TestTooFewPairs(t *testing.T) {
	for _, list := range [][]impl.Pair{nil, {}, pairsOf(0, 0), pairsOf(50, 60), pairsOf(2000000, 1000000)} {
		for _, b := range append(valuesAround(list), -1, 2000001) {
			checkNoGuess(t, list, b)
		}
		checkNoRate(t, list)
	}
}

func TestGuessWithTwoPairs(t *testing.T) {
	list := pairsOf(10, 20, 40, 30)
	for b, want := range map[int]int{
		0: 16, 1: 17, 4: 18, 6: 18, 7: 19, 9: 19, 10: 20, 11: 20, 12: 20, 13: 21, 25: 25, 37: 29, 39: 29, 40: 30, 41: 30, 43: 31,
		2000000: 666683,
	} {
		checkGuess(t, list, b, want)
	}
}

// An estimate is rounded down and not towards 0, and can lie before the first and behind the last
// of all times.
func TestGuessIsRoundedDown(t *testing.T) {
	for b, want := range map[int]int{
		0: -8, 1: -8, 2: -7, 3: -6, 4: -6, 5: -5, 6: -4, 7: -4, 8: -3, 9: -2, 10: -2, 11: -1, 12: 0, 13: 0, 14: 1, 15: 2,
	} {
		checkGuess(t, pairsOf(12, 0, 15, 2), b, want)
	}
	checkGuess(t, pairsOf(100, 5, 107, 8), 87, -1)
	checkGuess(t, pairsOf(100, 5, 107, 8), 88, -1)
	checkGuess(t, pairsOf(100, 5, 107, 8), 89, 0)
	checkGuess(t, pairsOf(1999999, 0, 2000000, 1000000), 0, -1999999*1000000)
	checkGuess(t, pairsOf(0, 0, 1, 1000000), 2000000, 2000000*1000000)
	checkGuess(t, pairsOf(1, 0, 2000000, 1), 0, -1)
	checkGuess(t, pairsOf(0, 999999, 1999999, 1000000), 2000000, 1000000)
}

// The first two pairs count whose second one has a Board of at least b: at a pair, those that end there.
func TestGuessWithManyPairs(t *testing.T) {
	list := pairsOf(100, 10, 110, 110, 120, 115, 200, 120)
	for b, want := range map[int]int{
		0: -990, 99: 0, 100: 10, 101: 20, 109: 100, 110: 110, 111: 110, 112: 111, 119: 114, 120: 115, 121: 115, 135: 115, 136: 116,
		199: 119, 200: 120, 201: 120, 215: 120, 216: 121, 2000000: 125107,
	} {
		checkGuess(t, list, b, want)
	}
}

func TestGuessAroundEachPair(t *testing.T) {
	for _, list := range samplePairs() {
		if len(list) < 2 {
			continue
		}
		for _, b := range valuesAround(list) {
			checkGuess(t, list, b, guessBy(list, b))
		}
		for _, p := range list {
			checkGuess(t, list, p.Board, p.True)
		}
	}
}

func TestGuessOutOfRange(t *testing.T) {
	for _, list := range samplePairs() {
		for _, b := range append([]int{-2000000, -2, -1, 2000001, 2000002, 4000000}, farNumbers...) {
			checkNoGuess(t, list, b)
		}
	}
}

func TestRateOf(t *testing.T) {
	for _, list := range samplePairs() {
		if len(list) < 2 {
			continue
		}
		p, q := list[0], list[len(list)-1]
		checkRate(t, list, roundedDown((q.Board-p.Board-q.True+p.True)*1000, q.True-p.True))
	}
	checkRate(t, pairsOf(5, 0, 95, 100), -100)
	checkRate(t, pairsOf(5, 0, 105, 100), 0)
	checkRate(t, pairsOf(5, 0, 115, 100), 100)
	checkRate(t, pairsOf(0, 0, 2000000, 1), 1999999000)
	checkRate(t, pairsOf(0, 0, 1, 1000000), -1000)
	// The pairs between the first and the last one do not count.
	checkRate(t, pairsOf(5, 0, 6, 70, 7, 99, 95, 100), -100)
	checkRate(t, pairsOf(5, 0, 93, 2, 94, 99, 115, 100), 100)
}

// A rate is rounded down, and not towards 0.
func TestRateIsRoundedDown(t *testing.T) {
	checkRate(t, pairsOf(0, 0, 2, 3), -334)
	checkRate(t, pairsOf(0, 0, 1, 3), -667)
	checkRate(t, pairsOf(0, 0, 4, 3), 333)
	checkRate(t, pairsOf(0, 0, 5, 3), 666)
	checkRate(t, pairsOf(0, 0, 6, 7), -143)
	checkRate(t, pairsOf(0, 0, 999999, 1000000), -1)
	checkRate(t, pairsOf(0, 0, 998999, 1000000), -2)
	checkRate(t, pairsOf(0, 0, 1000001, 1000000), 0)
	checkRate(t, pairsOf(0, 0, 1000999, 1000000), 0)
	checkRate(t, pairsOf(0, 0, 1001000, 1000000), 1)
}
