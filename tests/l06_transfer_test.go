package tests

import (
	"slices"
	"testing"

	"loop.example/g03316/impl"
)

// A station has the senders and the receivers of some files.
type station struct {
	files    []string
	segments [][]string
	outs     []impl.FileOut
	ins      []impl.FileIn
}

func newStation(t *testing.T, files []string) *station {
	t.Helper()
	x := &station{files: files}
	for i, data := range files {
		o, ok := impl.NewFileOut(i, data)
		if !ok {
			t.Fatalf("NewFileOut of %d and %d bytes is not valid", i, len(data))
		}
		x.segments = append(x.segments, segmentsByCutting(data))
		x.outs = append(x.outs, o)
		x.ins = append(x.ins, impl.NewFileIn(i))
	}
	return x
}

// parts takes all parts that the senders are to send, one of each file after the other.
func (x *station) parts() []string {
	list := []string{}
	for sent := true; sent; {
		sent = false
		for i := range x.outs {
			o, part, ok := impl.NextPart(x.outs[i])
			x.outs[i] = o
			if ok {
				list = append(list, part)
				sent = true
			}
		}
	}
	return list
}

// hear gives each part that came to all receivers.
func (x *station) hear(came []string) {
	for _, s := range came {
		for i, f := range x.ins {
			x.ins[i] = impl.HearPart(f, s)
		}
	}
}

// asks returns what the receivers ask for: an empty list if the file is there. One that has not
// heard the end does not know what is missing, and asks for a segment behind every file, so that
// the end is sent again.
func (x *station) asks() []string {
	list := []string{}
	for i, f := range x.ins {
		missing := impl.MissingOf(f)
		if _, ok := impl.FileText(f); !ok && len(missing) == 0 {
			missing = []int{24}
		}
		list = append(list, impl.EncodeMissing(i, missing))
	}
	return list
}

// answer gives each list that came to all senders.
func (x *station) answer(came []string) {
	for _, s := range came {
		file, list, ok := impl.DecodeMissing(s)
		for i, o := range x.outs {
			if ok {
				x.outs[i] = impl.HearMissing(o, file, list)
			}
		}
	}
}

// check checks that no part is another one than that of its file, and that each file that is there
// is the one that was sent.
func (x *station) check(t *testing.T) {
	t.Helper()
	for i, f := range x.ins {
		segments := x.segments[i]
		if !impl.FileInOk(f) || !impl.FileOutOk(x.outs[i]) || f.File != i || f.Size != -1 && f.Size != len(x.files[i]) {
			t.Fatalf("the file %d of %d bytes: %s", i, len(x.files[i]), shown(f, x.outs[i]))
		}
		missing := []int{}
		for k, part := range f.Parts {
			if part == "" && k < len(segments) && f.Size != -1 {
				missing = append(missing, k)
			}
			if part != "" && (k >= len(segments) || part != segments[k]) {
				t.Fatalf("the part %d of the file %d is %q", k, i, part)
			}
		}
		if got := impl.MissingOf(f); !slices.Equal(got, missing[:min(len(missing), 20)]) {
			t.Fatalf("of the file %d, %v are missing, and it asks for %v", i, missing, got)
		}
		text, ok := impl.FileText(f)
		if want := f.Size != -1 && len(missing) == 0; ok != want || ok && text != x.files[i] || !ok && text != "" {
			t.Fatalf("the file %d with %v missing is %.60q, %v", i, missing, text, ok)
		}
		if x.outs[i].Done && !ok {
			t.Fatalf("the sender believes that the file %d is there", i)
		}
	}
}

// isOver reports whether all senders know that their files are there.
func (x *station) isOver() bool {
	return !slices.ContainsFunc(x.outs, func(o impl.FileOut) bool { return !o.Done })
}

// transfer sends the files until all of them are there and known to be, and returns the rounds.
func (x *station) transfer(t *testing.T, down, up func([]string) []string, most int) int {
	t.Helper()
	rounds := 0
	for ; !x.isOver(); rounds++ {
		if rounds > most {
			t.Fatalf("after %d rounds: %s", rounds, shown(x.ins))
		}
		x.hear(down(x.parts()))
		x.check(t)
		x.answer(up(x.asks()))
		x.check(t)
	}
	return rounds
}

// filesOf returns eight files, of which the first one has some bytes. Segments with the same number
// differ, and some files are alike in their beginnings.
func filesOf(size int) []string {
	list := []string{}
	for i := range 8 {
		n := (size + 83*i*i) % 601
		list = append(list, mixedBytes(n))
		if i%3 == 2 {
			list[i] = mixedBytes(601)[:n]
		}
	}
	return list
}

func clearSky(texts []string) []string { return texts }

func TestFilesOfAllSizesUnderAClearSky(t *testing.T) {
	for size := range 601 {
		x := newStation(t, filesOf(size))
		if rounds := x.transfer(t, clearSky, clearSky, 2); rounds != 1 {
			t.Errorf("files of %d bytes and others took %d rounds", size, rounds)
		}
	}
}

func TestFilesOfAllSizesOverLosses(t *testing.T) {
	losses := []wire{
		{loss: 10}, {loss: 50}, {loss: 90}, {twice: 100}, {late: 60, longest: 5}, {loss: 30, twice: 30, late: 30, longest: 9}, {loss: 70, twice: 50, late: 20, longest: 3},
	}
	for size := range 601 {
		down, up := losses[size%len(losses)], losses[size/7%len(losses)]
		down.state, up.state = 31*size, 65535-77*size
		newStation(t, filesOf(size)).transfer(t, down.carry, up.carry, 5000)
	}
}

// At each choice of lost parts, exactly those are asked for, and one further round is enough.
func TestAllChoicesOfLostSegments(t *testing.T) {
	for size := 97; size <= 120; size++ {
		for lost := range 1 << 6 {
			x := newStation(t, []string{mixedBytes(size)})
			parts := x.parts()
			x.hear(slices.DeleteFunc(slices.Clone(parts), func(s string) bool { return lost>>slices.Index(parts, s)&1 == 1 }))
			x.check(t)
			missing := impl.MissingOf(x.ins[0])
			for k := range 5 {
				if asks := slices.Contains(missing, k); asks != (lost>>k&1 == 1 && lost>>5 == 0) {
					t.Fatalf("with the lost parts %b, %v are missing", lost, missing)
				}
			}
			x.transfer(t, clearSky, clearSky, 4)
		}
	}
}

// Whatever order the parts come in, the file is there when the last one came, and not before.
func TestPartsInEachOrder(t *testing.T) {
	data := mixedBytes(60)
	parts := newStation(t, []string{data}).parts()
	var permute func(came, rest []string)
	permute = func(came, rest []string) {
		x := newStation(t, []string{data})
		x.hear(came)
		x.check(t)
		if _, ok := impl.FileText(x.ins[0]); ok != (len(rest) == 0) {
			t.Fatalf("with %d parts left, the file is there: %v", len(rest), ok)
		}
		for i := range rest {
			permute(append(slices.Clone(came), rest[i]), slices.Delete(slices.Clone(rest), i, i+1))
		}
	}
	permute(nil, parts)
}

// channelOf returns what carries texts as blocks through a channel with bursts and losses.
func channelOf(c impl.Channel) func([]string) []string {
	return func(texts []string) []string {
		came := []string{}
		for _, s := range texts {
			next, block := impl.SendBlock(c, impl.MakeBlock(impl.SealText(s)))
			c = next
			if block == "" {
				continue
			}
			if sealed, _, ok := impl.ReadBlock(block[len(impl.SyncMark):]); ok {
				if text, ok := impl.OpenText(sealed); ok {
					came = append(came, text)
				}
			}
		}
		return came
	}
}

func TestFilesThroughAChannel(t *testing.T) {
	for _, loss := range []int{0, 10, 40} {
		for _, size := range fileSizes {
			down := channelOf(impl.Channel{Seed: 7 + loss, Burst: 60, Loss: loss})
			up := channelOf(impl.Channel{Seed: 5 * size, Burst: 60, Loss: loss})
			newStation(t, filesOf(size)).transfer(t, down, up, 500)
		}
	}
}

func TestReceiversShareNoMemory(t *testing.T) {
	texts := append(textsFor(3), "", "zz")
	for _, x := range []impl.FileIn{
		{}, {Parts: []string{"a"}}, impl.NewFileIn(3), impl.NewFileIn(8), fileInOf(3, mixedBytes(600)), fileInOf(3, mixedBytes(600), upTo(25)...), fileInOf(3, mixedBytes(50), 1),
	} {
		parts, asBefore := guarded(x.Parts, "71", "72", "73")
		f := x
		f.Parts = parts
		for _, s := range texts {
			got, again := impl.HearPart(f, s), impl.HearPart(f, s)
			overwrite(got.Parts, "-9")
			if want := impl.HearPart(f, s); !asBefore() || !sameFileIns(again, want) || !sameFileIns(impl.HearPart(x, s), want) {
				t.Errorf("HearPart(%s) shares its memory", shown(x, s))
			}
		}
		got, again := impl.MissingOf(f), impl.MissingOf(f)
		overwrite(got, -9)
		impl.FileText(f)
		impl.FileInOk(f)
		if !asBefore() || !slices.Equal(again, impl.MissingOf(x)) {
			t.Errorf("MissingOf(%s) shares its memory", shown(x))
		}
	}
	f, again := impl.NewFileIn(3), impl.NewFileIn(3)
	overwrite(f.Parts, "-9")
	if !sameFileIns(again, impl.NewFileIn(3)) || !sameFileIns(again, impl.FileIn{File: 3, Size: -1, Check: -1, Parts: make([]string, 25)}) {
		t.Error("NewFileIn shares its memory")
	}
}

// fileOutsOf returns what each function that returns a sender does for o and a list.
func fileOutsOf(o impl.FileOut, list []int) []impl.FileOut {
	next, _, _ := impl.NextPart(o)
	return []impl.FileOut{next, impl.HearMissing(o, o.File, list), impl.HearMissing(o, o.File+1, list)}
}

func TestFileSendersShareNoMemory(t *testing.T) {
	whole, _ := impl.NewFileOut(3, mixedBytes(100))
	for _, x := range []impl.FileOut{
		{}, whole, fileOutOf(100), fileOutOf(100, -1), fileOutOf(100, 3, 2, 4), fileOutOf(100, 5), fileOutOf(601, 0), fileOutOf(100, slices.Repeat([]int{3}, 998)...), fileOutOf(100, make([]int, 1000)...),
	} {
		for _, missing := range [][]int{nil, {3}, {0, 0, 4, 9, -1}, {9}, drawnList(3, 30)} {
			queue, queueAsBefore := guarded(x.Queue, 71, 72, 73, 74, 75, 76)
			list, listAsBefore := guarded(missing, 71, 72, 73)
			o := x
			o.Queue = queue
			was := fileOutsOf(x, missing)
			for i, got := range fileOutsOf(o, list) {
				again := fileOutsOf(o, list)[i]
				overwrite(got.Queue, -9)
				if !queueAsBefore() || !listAsBefore() || !sameFileOuts(again, was[i]) || !sameFileOuts(fileOutsOf(o, list)[i], was[i]) {
					t.Errorf("the result %d of %s shares its memory", i, shown(x, missing))
				}
			}
			impl.FileOutOk(o)
			if !queueAsBefore() {
				t.Errorf("FileOutOk(%s) changes its argument", shown(x))
			}
		}
	}
	one, _ := impl.NewFileOut(3, mixedBytes(100))
	overwrite(one.Queue, -9)
	if again, _ := impl.NewFileOut(3, mixedBytes(100)); !sameFileOuts(again, whole) {
		t.Error("NewFileOut shares its memory")
	}
	// Also if the list is the Queue itself.
	o := fileOutOf(100, 3, 2, 4)
	got := impl.HearMissing(o, 3, o.Queue)
	overwrite(got.Queue, -9)
	if !slices.Equal(o.Queue, []int{3, 2, 4}) {
		t.Error("HearMissing shares the memory of its list")
	}
}
