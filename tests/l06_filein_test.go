package tests

import (
	"slices"
	"strings"
	"testing"

	"loop.example/g03316/impl"
)

func sameFileIns(a, b impl.FileIn) bool {
	return a.File == b.File && a.Size == b.Size && a.Check == b.Check && slices.Equal(a.Parts, b.Parts)
}

// fileInOf returns a receiver that has all of a file but some segments, with its end.
func fileInOf(file int, data string, without ...int) impl.FileIn {
	f := impl.FileIn{File: file, Size: len(data), Check: remainder(data), Parts: make([]string, 25)}
	for k, segment := range segmentsByCutting(data) {
		if !slices.Contains(without, k) {
			f.Parts[k] = segment
		}
	}
	return f
}

// fileInWith returns a receiver of the file 3 that lacks one segment and is changed.
func fileInWith(change func(f *impl.FileIn)) impl.FileIn {
	f := fileInOf(3, mixedBytes(100), 2)
	change(&f)
	return f
}

// textsFor returns parts of several files.
func textsFor(file int) []string {
	return []string{
		segmentText(0, 2, "zz"), segmentText(3, 2, mixedBytes(24)), segmentText(7, 2, "z"), segmentText(3, 24, "z"), segmentText(0, 0, "z"),
		segmentText(file, 2, "az"), segmentText(file, 20, "az"), endText(0, "z"), endText(3, "zz"), endText(7, "zzz"), endText(file, "az"),
	}
}

// checkFileInOk checks a receiver, and that nothing is done with one that is not valid.
func checkFileInOk(t *testing.T, f impl.FileIn, want bool) {
	t.Helper()
	if got := impl.FileInOk(f); got != want {
		t.Errorf("FileInOk(%s) = %v", shown(f), got)
	}
	if want {
		return
	}
	checkMissingOf(t, f)
	checkNoFileText(t, f)
	for _, s := range append(textsFor(f.File), "", "\x00") {
		checkHearPart(t, f, s, f)
	}
}

func checkHearPart(t *testing.T, f impl.FileIn, s string, want impl.FileIn) {
	t.Helper()
	if got := impl.HearPart(f, s); !sameFileIns(got, want) {
		t.Errorf("HearPart(%.400q, %.60q) = %.400q, want %.400q", shown(f), s, shown(got), shown(want))
	}
}

func checkMissingOf(t *testing.T, f impl.FileIn, want ...int) {
	t.Helper()
	if got := impl.MissingOf(f); !slices.Equal(got, want) {
		t.Errorf("MissingOf(%s) = %v, want %v", shown(f), got, want)
	}
}

func checkFileText(t *testing.T, f impl.FileIn, want string) {
	t.Helper()
	if got, ok := impl.FileText(f); got != want || !ok {
		t.Errorf("FileText(%s) = %s, want %.60q", shown(f), shown(got, ok), want)
	}
}

func checkNoFileText(t *testing.T, f impl.FileIn) {
	t.Helper()
	if got, ok := impl.FileText(f); got != "" || ok {
		t.Errorf("FileText(%s) = %s, want none", shown(f), shown(got, ok))
	}
}

func TestNumbersOfReceivers(t *testing.T) {
	checkFileInOk(t, impl.FileIn{}, false)
	checkFileInOk(t, impl.FileIn{Parts: make([]string, 25)}, true)
	for _, n := range append(numbersAround(0, 7), 255, 263) {
		checkFileInOk(t, fileInWith(func(f *impl.FileIn) { f.File = n }), within(n, 0, 7))
		checkFileInOk(t, fileInWith(func(f *impl.FileIn) { f.File, f.Size, f.Check = n, -1, -1 }), within(n, 0, 7))
	}
	for _, n := range append(numbersAround(0, 600), 24, 25, 65535) {
		checkFileInOk(t, fileInWith(func(f *impl.FileIn) { f.Size = n }), within(n, 0, 600))
		checkFileInOk(t, fileInWith(func(f *impl.FileIn) { f.Size, f.Check = n, -1 }), n == -1)
	}
	for _, n := range append(numbersAround(0, 65535), 255, 256) {
		checkFileInOk(t, fileInWith(func(f *impl.FileIn) { f.Check = n }), within(n, 0, 65535))
		checkFileInOk(t, fileInWith(func(f *impl.FileIn) { f.Size, f.Check = 0, n }), within(n, 0, 65535))
		checkFileInOk(t, fileInWith(func(f *impl.FileIn) { f.Size, f.Check = -1, n }), n == -1)
	}
}

func TestPartsOfReceivers(t *testing.T) {
	for n := range 52 {
		checkFileInOk(t, fileInWith(func(f *impl.FileIn) { f.Parts = make([]string, n) }), n == 25)
		checkFileInOk(t, fileInWith(func(f *impl.FileIn) { f.Parts, f.Size, f.Check = make([]string, n), -1, -1 }), n == 25)
		checkFileInOk(t, fileInWith(func(f *impl.FileIn) { f.Parts = slices.Repeat([]string{"az"}, n) }), n == 25)
	}
	for at := range 25 {
		for _, n := range append(dataLengths(), 600) {
			checkFileInOk(t, fileInWith(func(f *impl.FileIn) { f.Parts[at] = mixedBytes(n) }), n <= 24)
			checkFileInOk(t, fileInWith(func(f *impl.FileIn) { f.Parts[at], f.Size, f.Check = mixedBytes(n), -1, -1 }), n <= 24)
		}
	}
	// Bytes are counted, not characters.
	checkFileInOk(t, fileInWith(func(f *impl.FileIn) { f.Parts[3] = strings.Repeat("\u20ac", 8) }), true)
	checkFileInOk(t, fileInWith(func(f *impl.FileIn) { f.Parts[3] = strings.Repeat("\u20ac", 8) + "z" }), false)
	checkFileInOk(t, fileInWith(func(f *impl.FileIn) { f.Parts = slices.Repeat([]string{mixedBytes(24)}, 25) }), true)
}

func TestNewFileIn(t *testing.T) {
	for _, n := range append(numbersAround(0, 7), 3, 255, 263) {
		f := impl.NewFileIn(n)
		if want := (impl.FileIn{File: n, Size: -1, Check: -1, Parts: make([]string, 25)}); !sameFileIns(f, want) {
			t.Errorf("NewFileIn(%d) = %s", n, shown(f))
		}
		checkFileInOk(t, f, within(n, 0, 7))
	}
}

func TestHearKnownParts(t *testing.T) {
	data := "0123456789abcdefghijklmnopqrst"
	f := impl.HearPart(impl.NewFileIn(3), "\x00\x03\x01opqrst")
	want := impl.FileIn{File: 3, Size: -1, Check: -1, Parts: make([]string, 25)}
	want.Parts[1] = "opqrst"
	if !sameFileIns(f, want) {
		t.Errorf("unexpected receiver %s", shown(f))
	}
	checkMissingOf(t, f)
	checkNoFileText(t, f)
	f = impl.HearPart(f, endText(3, data))
	want.Size, want.Check = 30, remainder(data)
	if !sameFileIns(f, want) {
		t.Errorf("unexpected receiver %s", shown(f))
	}
	checkMissingOf(t, f, 0)
	checkNoFileText(t, f)
	f = impl.HearPart(f, "\x00\x03\x000123456789abcdefghijklmn")
	want.Parts[0] = "0123456789abcdefghijklmn"
	if !sameFileIns(f, want) {
		t.Errorf("unexpected receiver %s", shown(f))
	}
	checkMissingOf(t, f)
	checkFileText(t, f, data)
}

func TestHearEachSegment(t *testing.T) {
	for file := range 8 {
		for _, without := range [][]int{{}, {0}, {3, 4}, upTo(25)} {
			f := fileInOf(file, mixedBytes(130), without...)
			for k := range 25 {
				for _, n := range []int{1, 2, 23, 24} {
					data := mixedBytes(n + 30)[30:]
					want := fileInOf(file, mixedBytes(130), without...)
					if want.Parts[k] == "" {
						want.Parts[k] = data
					}
					checkHearPart(t, f, segmentText(file, k, data), want)
					// That of another file is none for this receiver.
					checkHearPart(t, f, segmentText((file+1)%8, k, data), f)
					checkHearPart(t, f, segmentText((file+7)%8, k, data), f)
					checkHearPart(t, f, "\x01"+segmentText(file, k, data)[1:], f)
				}
			}
		}
	}
}

func TestHearSegmentsTwice(t *testing.T) {
	for k := range 25 {
		for _, heardEnd := range []bool{false, true} {
			f := impl.NewFileIn(5)
			if heardEnd {
				f = impl.HearPart(f, endText(5, mixedBytes(50)))
			}
			once := impl.HearPart(f, segmentText(5, k, "first"))
			if once.Parts[k] != "first" {
				t.Errorf("the segment %d is %q", k, once.Parts[k])
			}
			for _, data := range []string{"first", "other", "f", mixedBytes(24)} {
				checkHearPart(t, once, segmentText(5, k, data), once)
			}
		}
	}
}

func TestHearEnds(t *testing.T) {
	for _, size := range append([]int{601, 602, 700, 65535}, fileSizes...) {
		for _, check := range []int{0, 1, 255, 256, 65535} {
			s := "\x01\x05" + string([]byte{byte(size / 256), byte(size % 256), byte(check / 256), byte(check % 256)})
			for _, f := range []impl.FileIn{impl.NewFileIn(5), impl.HearPart(impl.NewFileIn(5), segmentText(5, 24, "z"))} {
				want := f
				if size <= 600 {
					want.Size, want.Check = size, check
				}
				checkHearPart(t, f, s, want)
				checkHearPart(t, f, s+"\x00", f)
				checkHearPart(t, f, s[:5], f)
				checkHearPart(t, f, changed(s, 1, 1), f)
				checkHearPart(t, f, changed(s, 0, 2), f)
				// A second end changes nothing, whatever it tells.
				for _, end := range []string{s, endText(5, "z"), endText(5, ""), endText(5, mixedBytes(600)), endText(4, "z")} {
					if size <= 600 {
						checkHearPart(t, want, end, want)
					}
				}
			}
		}
	}
}

// What is in no file of the length of the end is kept, but is no part of the file.
func TestSegmentsBehindTheLastOne(t *testing.T) {
	for _, size := range fileSizes {
		data := mixedBytes(size)
		for k := len(segmentsByCutting(data)); k < 25; k++ {
			after := impl.HearPart(fileInOf(2, data), segmentText(2, k, "behind"))
			if after.Parts[k] != "behind" {
				t.Errorf("the segment %d of %d bytes is %q", k, size, after.Parts[k])
			}
			before := impl.HearPart(impl.HearPart(impl.NewFileIn(2), segmentText(2, k, "behind")), endText(2, data))
			for n, segment := range segmentsByCutting(data) {
				before = impl.HearPart(before, segmentText(2, n, segment))
			}
			for _, f := range []impl.FileIn{after, before} {
				checkMissingOf(t, f)
				checkFileText(t, f, data)
			}
		}
	}
}

func TestTextsThatAreNoParts(t *testing.T) {
	receivers := []impl.FileIn{impl.NewFileIn(0), impl.NewFileIn(1), impl.NewFileIn(7), fileInOf(3, mixedBytes(70)), fileInOf(3, mixedBytes(70), 0, 1)}
	texts := append(sampleTexts(), "\x00\x03\x19a", "\x00\x03\x00", "\x02\x03\x00a", "\x00\x08\x00a", "\x01\x03\x02\x59\x00\x00", "\x02\x03\x00\x09\x00\x00", "\x03\x00")
	for _, f := range receivers {
		for _, s := range texts {
			want := f
			want.Parts = slices.Clone(f.Parts)
			if file, k, data, ok := segmentIn(s); ok && file == f.File && f.Parts[k] == "" {
				want.Parts[k] = data
			} else if file, size, check, ok := endIn(s); ok && file == f.File && f.Size == -1 {
				want.Size, want.Check = size, check
			}
			checkHearPart(t, f, s, want)
		}
	}
}

func TestMissingOfManyFiles(t *testing.T) {
	for _, size := range fileSizes {
		data := mixedBytes(size)
		all := upTo(len(segmentsByCutting(data)))
		checkMissingOf(t, fileInOf(1, data))
		checkMissingOf(t, fileInOf(1, data, all...), all[:min(len(all), 20)]...)
		for k := range all {
			checkMissingOf(t, fileInOf(1, data, k), k)
			checkMissingOf(t, fileInOf(1, data, all[:k]...), all[:min(k, 20)]...)
			checkMissingOf(t, fileInOf(1, data, all[k:]...), all[k:min(len(all), k+20)]...)
			// Before the end was heard, nothing is known to be missing.
			f := fileInOf(1, data, k)
			f.Size, f.Check = -1, -1
			checkMissingOf(t, f)
		}
	}
	f := fileInOf(1, mixedBytes(600), upTo(25)...)
	for n := 25; n > 0; n-- {
		checkMissingOf(t, f, upTo(25)[25-n:min(25, 45-n)]...)
		f.Parts[25-n] = "z"
	}
	checkMissingOf(t, f)
}

// The order of the numbers does not depend on where they are kept.
func TestMissingOfIsTheSameEachTime(t *testing.T) {
	for i := range 200 {
		without := slices.Compact(slices.Sorted(slices.Values(drawnList(i, 1+i%60))))
		f := fileInOf(6, mixedBytes(600), without...)
		for range 5 {
			checkMissingOf(t, f, without[:min(len(without), 20)]...)
		}
	}
}

func TestFileTextOfAllSizes(t *testing.T) {
	for size := range 601 {
		data := mixedBytes(size)
		f := fileInOf(size%8, data)
		checkFileText(t, f, data)
		f.Size, f.Check = -1, -1
		checkNoFileText(t, f)
		for k := range segmentsByCutting(data) {
			checkNoFileText(t, fileInOf(size%8, data, k))
		}
	}
	for _, s := range sampleTexts() {
		if len(s) <= 600 {
			checkFileText(t, fileInOf(4, s), s)
		}
	}
}

func TestFileTextWithAWrongEnd(t *testing.T) {
	for _, size := range fileSizes {
		data := mixedBytes(size)
		for wrong := range 601 {
			f := fileInOf(4, data)
			f.Size = wrong
			if wrong != size {
				checkNoFileText(t, f)
			}
		}
		for bit := range 16 {
			f := fileInOf(4, data)
			f.Check ^= 1 << bit
			checkNoFileText(t, f)
		}
	}
}

func TestFileTextWithWrongParts(t *testing.T) {
	for _, size := range fileSizes {
		data := mixedBytes(size)
		for k, segment := range segmentsByCutting(data) {
			for _, part := range []string{segment[1:], segment[:len(segment)-1], changed(segment, 0, 1), changed(segment, len(segment)-1, 128), segment + "z"} {
				f := fileInOf(4, data)
				f.Parts[k] = part
				checkNoFileText(t, f)
			}
		}
	}
	// The length and the check are those of the whole text, wherever its parts end.
	f := fileInOf(4, mixedBytes(40))
	f.Parts[0], f.Parts[1] = mixedBytes(40)[:20], mixedBytes(40)[20:]
	checkFileText(t, f, mixedBytes(40))
	// A text with the right check has another length than the end tells.
	f.Size, f.Check, f.Parts[1] = 41, remainder(mixedBytes(40)[:20]+"z"), "z"
	checkNoFileText(t, f)
	f.Size = 25
	checkNoFileText(t, f)
	f.Size = 21
	checkNoFileText(t, f)
	f.Parts[0] += "z"
	checkFileText(t, f, mixedBytes(40)[:20]+"z")
}

func TestFileTextOfAnEmptyFile(t *testing.T) {
	f := impl.HearPart(impl.NewFileIn(0), endText(0, ""))
	checkFileText(t, f, "")
	checkMissingOf(t, f)
	f.Check = 0
	checkNoFileText(t, f)
	f.Check = 65534
	checkNoFileText(t, f)
}
