package tests

import (
	"slices"
	"testing"

	"loop.example/g03316/impl"
)

func sameFileOuts(a, b impl.FileOut) bool {
	return a.File == b.File && a.Data == b.Data && a.Done == b.Done && slices.Equal(a.Queue, b.Queue)
}

// fileOutOf returns a sender of a file of some bytes that is to send some segments.
func fileOutOf(size int, queue ...int) impl.FileOut {
	return impl.FileOut{File: 3, Data: mixedBytes(size), Queue: queue}
}

// checkFileOutOk checks a sender, and that nothing is done with one that is not valid.
func checkFileOutOk(t *testing.T, o impl.FileOut, want bool) {
	t.Helper()
	if got := impl.FileOutOk(o); got != want {
		t.Errorf("FileOutOk(%s) = %v", shown(o), got)
	}
	if want {
		return
	}
	checkNoPart(t, o)
	for _, list := range [][]int{nil, {}, {0}, {0, 1, 24}, {-1}, {25}} {
		checkHearMissing(t, o, o.File, list, o)
	}
}

func checkNoPart(t *testing.T, o impl.FileOut) {
	t.Helper()
	if got, part, ok := impl.NextPart(o); ok || part != "" || !sameFileOuts(got, o) {
		t.Errorf("NextPart(%s) = %s, want none", shown(o), shown(got, part, ok))
	}
}

// checkNextPart checks the next part, and that what was removed is the first element of Queue alone.
func checkNextPart(t *testing.T, o impl.FileOut, want string) impl.FileOut {
	t.Helper()
	after := o
	after.Queue = slices.Clone(o.Queue[1:])
	got, part, ok := impl.NextPart(o)
	if !ok || part != want || !sameFileOuts(got, after) {
		t.Errorf("NextPart(%s) = %s, want %.60q", shown(o), shown(got, part, ok), want)
	}
	return got
}

func checkHearMissing(t *testing.T, o impl.FileOut, file int, list []int, want impl.FileOut) {
	t.Helper()
	if got := impl.HearMissing(o, file, list); !sameFileOuts(got, want) {
		t.Errorf("HearMissing(%s) = %s, want %s", shown(o, file, list), shown(got), shown(want))
	}
}

func TestFilesAndLengthsOfSenders(t *testing.T) {
	checkFileOutOk(t, impl.FileOut{}, true)
	for _, done := range []bool{false, true} {
		for _, n := range append(numbersAround(0, 7), 255, 263) {
			o := fileOutOf(100, 0, 4, -1)
			o.File, o.Done = n, done
			checkFileOutOk(t, o, within(n, 0, 7))
			checkFileOutOk(t, impl.FileOut{File: n, Done: done}, within(n, 0, 7))
		}
		for _, size := range append([]int{601, 602, 624, 625, 65536, 65560}, fileSizes...) {
			o := fileOutOf(size)
			o.Done = done
			checkFileOutOk(t, o, size <= 600)
			o.Queue = []int{-1}
			checkFileOutOk(t, o, size <= 600)
		}
	}
}

func TestElementsOfQueues(t *testing.T) {
	for _, size := range fileSizes {
		count := len(segmentsByCutting(mixedBytes(size)))
		for _, n := range append([]int{-2, -1, 0, 1, 2, count - 1, count, count + 1, 24, 25, 254, 255, 256}, farNumbers...) {
			checkFileOutOk(t, fileOutOf(size, n), within(n, -1, count-1))
			checkFileOutOk(t, fileOutOf(size, -1, n), within(n, -1, count-1))
			checkFileOutOk(t, fileOutOf(size, n, -1), within(n, -1, count-1))
			checkFileOutOk(t, fileOutOf(size, -1, n, n, -1), within(n, -1, count-1))
		}
	}
	for at := range 30 {
		for _, n := range []int{-2, 5, 25, 1 << 40} {
			queue := slices.Repeat([]int{4, -1, 0}, 10)
			queue[at] = n
			checkFileOutOk(t, fileOutOf(120, queue...), false)
		}
	}
}

func TestLengthsOfQueues(t *testing.T) {
	for _, n := range []int{0, 1, 20, 998, 999, 1000, 1001, 1002, 5000, 65536} {
		checkFileOutOk(t, fileOutOf(600, slices.Repeat([]int{24}, n)...), n <= 1000)
		checkFileOutOk(t, fileOutOf(0, slices.Repeat([]int{-1}, n)...), n <= 1000)
		checkFileOutOk(t, fileOutOf(25, slices.Repeat([]int{0, -1}, (n+1)/2)...), n <= 1000)
	}
}

func TestNewFileOut(t *testing.T) {
	check := func(file int, data string) {
		t.Helper()
		want := impl.FileOut{File: file, Data: data, Queue: append(upTo(len(segmentsByCutting(data))), -1)}
		ok := within(file, 0, 7) && len(data) <= 600
		if !ok {
			want = impl.FileOut{}
		}
		if got, valid := impl.NewFileOut(file, data); !sameFileOuts(got, want) || valid != ok {
			t.Errorf("NewFileOut(%s) = %s, want %s", shown(file, data), shown(got, valid), shown(want, ok))
		}
	}
	for size := range 604 {
		check(size%8, mixedBytes(size))
	}
	for _, n := range append(numbersAround(0, 7), 255, 263) {
		for _, size := range []int{0, 1, 24, 25, 600, 601, 65560} {
			check(n, mixedBytes(size))
		}
	}
	for _, s := range sampleTexts() {
		check(6, s)
	}
}

func TestNextPartOfKnownSenders(t *testing.T) {
	o := impl.FileOut{File: 3, Data: "0123456789abcdefghijklmnopqrst", Queue: []int{1, -1, 0, 1, 1}}
	for _, want := range []string{
		"\x00\x03\x01opqrst", endText(3, o.Data), "\x00\x03\x000123456789abcdefghijklmn", "\x00\x03\x01opqrst", "\x00\x03\x01opqrst",
	} {
		o = checkNextPart(t, o, want)
	}
	checkNoPart(t, o)
	o.Done = true
	checkNoPart(t, o)
	o.Queue = []int{-1}
	checkNoPart(t, checkNextPart(t, o, endText(3, o.Data)))
}

func TestNextPartOfFilesOfAllSizes(t *testing.T) {
	for size := range 601 {
		data := mixedBytes(size)
		o, _ := impl.NewFileOut(size%8, data)
		for k, segment := range segmentsByCutting(data) {
			o = checkNextPart(t, o, segmentText(size%8, k, segment))
		}
		o = checkNextPart(t, o, endText(size%8, data))
		checkNoPart(t, o)
	}
}

func TestNextPartOfLongQueues(t *testing.T) {
	data := mixedBytes(600)
	segments := segmentsByCutting(data)
	o := fileOutOf(600, append(slices.Repeat(append(upTo(25), -1), 38), drawnList(8, 12)...)...)
	for _, k := range slices.Clone(o.Queue) {
		want := endText(3, data)
		if k >= 0 {
			want = segmentText(3, k, segments[k])
		}
		o = checkNextPart(t, o, want)
	}
	checkNoPart(t, o)
}

func TestHearKnownLists(t *testing.T) {
	for _, c := range []struct{ list, want []int }{
		{[]int{0}, []int{1, -1, 0, -1}}, {[]int{1, 0}, []int{1, -1, 1, 0, -1}}, {[]int{1, 1, 0, 1}, []int{1, -1, 1, 1, 0, 1, -1}},
		{[]int{2}, []int{1, -1, -1}}, {[]int{-1}, []int{1, -1, -1}}, {[]int{-1, -1}, []int{1, -1, -1}}, {[]int{24, 2, 25, 1000, -2}, []int{1, -1, -1}},
		{[]int{2, 1, -1, 0, 3}, []int{1, -1, 1, 0, -1}}, {farNumbers, []int{1, -1, -1}}, {[]int{0, 256, 1}, []int{1, -1, 0, 1, -1}},
	} {
		o := fileOutOf(30, 1, -1)
		checkHearMissing(t, o, 3, c.list, fileOutOf(30, c.want...))
		// What is asked for behind an empty list is sent, too.
		o.Done = true
		want := fileOutOf(30, c.want...)
		want.Done = true
		checkHearMissing(t, o, 3, c.list, want)
		for _, file := range append(numbersAround(0, 7), 2, 4, 259) {
			checkHearMissing(t, o, file, c.list, o)
		}
	}
}

func TestHearEmptyLists(t *testing.T) {
	for _, size := range fileSizes {
		for _, queue := range [][]int{nil, {-1}, append(upTo(len(segmentsByCutting(mixedBytes(size)))), -1), slices.Repeat([]int{-1}, 1000)} {
			for _, list := range [][]int{nil, {}} {
				o := fileOutOf(size, queue...)
				want := fileOutOf(size)
				want.Done = true
				checkHearMissing(t, o, 3, list, want)
				checkHearMissing(t, want, 3, list, want)
				checkHearMissing(t, o, 2, list, o)
				checkHearMissing(t, o, -1, list, o)
				checkHearMissing(t, o, 3+1<<32, list, o)
			}
		}
	}
}

func TestHearListsOfAllLengths(t *testing.T) {
	for _, size := range fileSizes {
		count := len(segmentsByCutting(mixedBytes(size)))
		for n := 1; n < 60; n++ {
			list := drawnList(n, n)
			want := fileOutOf(size, -1)
			for _, k := range list {
				if k < count {
					want.Queue = append(want.Queue, k)
				}
			}
			want.Queue = append(want.Queue, -1)
			checkHearMissing(t, fileOutOf(size, -1), 3, list, want)
		}
	}
}

func TestHearListsForWhichTheQueueIsTooLong(t *testing.T) {
	for _, waiting := range []int{0, 1, 500, 978, 979, 980, 997, 998, 999, 1000} {
		for _, done := range []bool{false, true} {
			o := fileOutOf(48, slices.Repeat([]int{1}, waiting)...)
			o.Done = done
			for _, n := range []int{1, 2, 20, 21, 499, 500, 998, 999, 1000, 1001, 5000} {
				// Numbers that are none of a segment of this file need no room.
				for _, list := range [][]int{make([]int, n), append(slices.Repeat([]int{2}, 700), make([]int, n)...)} {
					want := o
					if waiting+n+1 <= 1000 {
						want.Queue = slices.Concat(o.Queue, make([]int, n), []int{-1})
					}
					checkHearMissing(t, o, 3, list, want)
				}
			}
			want := o
			if waiting+1 <= 1000 {
				want.Queue = append(slices.Clone(o.Queue), -1)
			}
			checkHearMissing(t, o, 3, slices.Repeat([]int{2}, 1500), want)
		}
	}
}
