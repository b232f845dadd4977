package tests

import (
	"slices"
	"testing"

	"loop.example/g03316/impl"
)

// pair makes a pair from what the clock showed and the true time.
func pair(board, at int) impl.Pair { return impl.Pair{Board: board, True: at} }

// pairsOf makes a list of pairs from numbers that are in turn what the clock showed and a true time.
func pairsOf(numbers ...int) []impl.Pair {
	list := []impl.Pair{}
	for i := 0; i < len(numbers); i += 2 {
		list = append(list, pair(numbers[i], numbers[i+1]))
	}
	return list
}

// pairsUpTo returns n valid pairs that reach from the least to the greatest values.
func pairsUpTo(n int) []impl.Pair {
	list := make([]impl.Pair, n)
	for i := range list {
		list[i] = pair(i*2000000/max(1, n-1), i*1000000/max(1, n-1))
	}
	return list
}

// samplePairs returns valid lists of pairs.
func samplePairs() [][]impl.Pair {
	return [][]impl.Pair{
		nil, {}, pairsOf(0, 0), pairsOf(2000000, 1000000), pairsOf(2000000, 0), pairsOf(0, 1000000), pairsOf(5, 100),
		pairsOf(0, 0, 1, 1), pairsOf(0, 0, 2000000, 1000000), pairsOf(0, 0, 1, 1000000), pairsOf(0, 0, 2000000, 1),
		pairsOf(1999999, 999999, 2000000, 1000000), pairsOf(10, 20, 40, 30), pairsOf(5, 0, 95, 100),
		pairsOf(100, 10, 101, 20, 150, 21, 151, 70), pairsOf(10, 7, 20, 14, 40, 15, 47, 33, 48, 99),
		pairsUpTo(3), pairsUpTo(7), pairsUpTo(199), pairsUpTo(200),
	}
}

// checkPairsOk checks a list of pairs, and that nothing is told by one that is not valid.
func checkPairsOk(t *testing.T, list []impl.Pair, want bool) {
	t.Helper()
	if got := impl.PairsOk(list); got != want {
		t.Errorf("PairsOk(%s) = %v", shown(list), got)
	}
	if want {
		return
	}
	for _, p := range []impl.Pair{{}, pair(1, 1), pair(2000000, 1000000)} {
		checkAddPair(t, list, p, list)
	}
	for _, b := range []int{-1, 0, 1, 50, 1000000, 2000000, 2000001} {
		checkNoBounds(t, list, b)
		checkNoGuess(t, list, b)
	}
	checkNoRate(t, list)
}

func checkAddPair(t *testing.T, list []impl.Pair, p impl.Pair, want []impl.Pair) {
	t.Helper()
	if got := impl.AddPair(list, p); !slices.Equal(got, want) {
		t.Errorf("AddPair(%s) = %s, want %s", shown(list, p), shown(got), shown(want))
	}
}

func TestListsOfPairs(t *testing.T) {
	for _, list := range samplePairs() {
		checkPairsOk(t, list, true)
	}
}

func TestNumbersOfOnePair(t *testing.T) {
	for _, n := range append(numbersAround(0, 2*impl.MaxTime), impl.MaxTime, impl.MaxTime+1) {
		checkPairsOk(t, pairsOf(n, 0), within(n, 0, 2000000))
		checkPairsOk(t, pairsOf(n, 1000000), within(n, 0, 2000000))
		checkPairsOk(t, pairsOf(0, n), within(n, 0, 1000000))
		checkPairsOk(t, pairsOf(2000000, n), within(n, 0, 1000000))
	}
	for _, n := range numbersAround(0, impl.MaxTime) {
		checkPairsOk(t, pairsOf(7, n), within(n, 0, 1000000))
		checkPairsOk(t, pairsOf(n, n), within(n, 0, 1000000))
	}
}

func TestNumbersOfTheFirstAndTheLastPair(t *testing.T) {
	for _, n := range []int{-1, 0} {
		checkPairsOk(t, pairsOf(n, 0, 1000, 500, 2000000, 1000000), n == 0)
		checkPairsOk(t, pairsOf(0, n, 1000, 500, 2000000, 1000000), n == 0)
	}
	for _, n := range []int{0, 1} {
		checkPairsOk(t, pairsOf(0, 0, 1000, 500, 2000000+n, 1000000), n == 0)
		checkPairsOk(t, pairsOf(0, 0, 1000, 500, 2000000, 1000000+n), n == 0)
	}
	for at := range 200 {
		list := pairsUpTo(200)
		list[at].Board = -1
		checkPairsOk(t, list, false)
		list[at].Board = 2000001
		checkPairsOk(t, list, false)
		list = pairsUpTo(200)
		list[at].True = -1
		checkPairsOk(t, list, false)
		list[at].True = 1000001
		checkPairsOk(t, list, false)
	}
}

func TestNumbersOfPairs(t *testing.T) {
	for _, n := range []int{0, 1, 2, 3, 100, 198, 199, 200, 201, 202, 256, 456, 5000} {
		list := pairsUpTo(n)
		checkPairsOk(t, list, n <= 200)
		for i := range list {
			list[i] = pair(i, i)
		}
		checkPairsOk(t, list, n <= 200)
	}
}

func TestPairsAscend(t *testing.T) {
	for _, first := range []int{0, 1, 500, 999999} {
		for by := -2; by <= 2; by++ {
			next := first + by
			if !within(next, 0, 1000000) {
				continue
			}
			checkPairsOk(t, pairsOf(first, 3, next, 4), by > 0)
			checkPairsOk(t, pairsOf(3, first, 4, next), by > 0)
			checkPairsOk(t, pairsOf(first, first, next, next), by > 0)
			checkPairsOk(t, pairsOf(first, next, next, first), false)
		}
	}
	for at := range 199 {
		for by := range 3 {
			list := pairsUpTo(200)
			list[at+1].Board = list[at].Board - by
			checkPairsOk(t, list, false)
			list = pairsUpTo(200)
			list[at+1].True = list[at].True - by
			checkPairsOk(t, list, false)
			list = pairsUpTo(200)
			list[at+1].Board, list[at+1].True = list[at].Board+1+by, list[at].True+1+by
			checkPairsOk(t, list, true)
		}
	}
	// All pairs that follow one another ascend, but for one place.
	checkPairsOk(t, pairsOf(0, 0, 10, 10, 5, 11, 20, 20), false)
	checkPairsOk(t, pairsOf(0, 0, 10, 10, 11, 5, 20, 20), false)
	checkPairsOk(t, pairsOf(3, 3, 4, 4, 0, 0), false)
}

func TestAddPair(t *testing.T) {
	for _, list := range samplePairs() {
		last := impl.Pair{Board: -1, True: -1}
		if len(list) > 0 {
			last = list[len(list)-1]
		}
		boards := append(numbersAround(0, 2000000), last.Board-1, last.Board, last.Board+1)
		trues := append(numbersAround(0, 1000000), last.True-1, last.True, last.True+1)
		for _, board := range boards {
			for _, at := range trues {
				want := slices.Clone(list)
				if len(list) < 200 && within(board, last.Board+1, 2000000) && within(at, last.True+1, 1000000) {
					want = append(want, pair(board, at))
				}
				checkAddPair(t, list, pair(board, at), want)
			}
		}
	}
}

func TestAddPairUpToTheLimit(t *testing.T) {
	var list []impl.Pair
	for i := range 250 {
		list = impl.AddPair(list, pair(10*i, 7*i))
		if len(list) != min(i+1, 200) || !impl.PairsOk(list) {
			t.Fatalf("after %d pairs there are %d", i+1, len(list))
		}
	}
	for i, p := range list {
		if p != pair(10*i, 7*i) {
			t.Errorf("the pair %d is %+v", i, p)
		}
	}
}

func TestAddPairToListsThatAreNotValid(t *testing.T) {
	for _, list := range [][]impl.Pair{
		pairsOf(-1, 0), pairsOf(0, -1), pairsOf(5, 5, 5, 6), pairsOf(5, 5, 6, 5), pairsOf(9, 9, 3, 3), pairsUpTo(201), pairsUpTo(300),
	} {
		for _, p := range []impl.Pair{{}, pair(7, 7), pair(100, 100), pair(2000000, 1000000), pair(-1, -1)} {
			checkAddPair(t, list, p, list)
		}
	}
}

func TestPairsKeepTheirMemory(t *testing.T) {
	spare := []impl.Pair{pair(7777, 8888), pair(-1, -2)}
	lists := append(samplePairs(), pairsOf(5, 5, 5, 6), pairsOf(-1, 0), pairsUpTo(201))
	for _, plain := range lists {
		for _, p := range []impl.Pair{{}, pair(12, 12), pair(2000000, 1000000), pair(-1, 5)} {
			list, asBefore := guarded(plain, spare...)
			impl.PairsOk(list)
			impl.BoundsOf(list, p.Board)
			impl.GuessTrue(list, p.Board)
			impl.RateOf(list)
			got := impl.AddPair(list, p)
			if !asBefore() {
				t.Errorf("a list is changed: %s", shown(plain, p))
			}
			overwrite(got, pair(1, 2))
			overwrite(append(got, spare...), pair(3, 4))
			if !asBefore() {
				t.Errorf("AddPair(%s) shares memory with the list", shown(plain, p))
			}
		}
	}
}

// A list keeps its pairs when two others are made from it.
func TestTwoListsFromOne(t *testing.T) {
	list := impl.AddPair(impl.AddPair(impl.AddPair(nil, pair(1, 1)), pair(2, 2)), pair(3, 3))
	one, other := impl.AddPair(list, pair(4, 4)), impl.AddPair(list, pair(5, 5))
	same := impl.AddPair(list, pair(3, 3))
	third := impl.AddPair(same, pair(6, 6))
	for _, c := range []struct{ got, want []impl.Pair }{
		{list, pairsOf(1, 1, 2, 2, 3, 3)}, {one, pairsOf(1, 1, 2, 2, 3, 3, 4, 4)}, {other, pairsOf(1, 1, 2, 2, 3, 3, 5, 5)},
		{same, pairsOf(1, 1, 2, 2, 3, 3)}, {third, pairsOf(1, 1, 2, 2, 3, 3, 6, 6)},
	} {
		if !slices.Equal(c.got, c.want) {
			t.Errorf("the list is %s, want %s", shown(c.got), shown(c.want))
		}
	}
}
