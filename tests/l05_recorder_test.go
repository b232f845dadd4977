package tests

import (
	"cmp"
	"slices"
	"testing"

	"loop.example/g03316/impl"
)

func sameRecorders(a, b impl.Recorder) bool {
	return a.Room == b.Room && slices.Equal(a.Records, b.Records) && slices.Equal(a.Dropped, b.Dropped)
}

// recordOf returns a record whose EncodeRecord has some bytes.
func recordOf(id, priority, size int) impl.Record {
	return impl.Record{Id: id, Priority: priority, Time: 100 * id % 1000001, Data: mixedBytes(size - 6)}
}

// recorderOf returns a recorder with records of these priorities and sizes, two numbers for each
// record, whose Ids are 10, 20, 30 and so on.
func recorderOf(room int, numbers ...int) impl.Recorder {
	r := impl.Recorder{Room: room, Dropped: []int{4}}
	for i := 0; i < len(numbers); i += 2 {
		r.Records = append(r.Records, recordOf(10+5*i, numbers[i], numbers[i+1]))
	}
	return r
}

func sizesOf(list []impl.Record) int {
	sum := 0
	for _, x := range list {
		sum += 6 + len(x.Data)
	}
	return sum
}

// checkRecorderOk checks a recorder, and that nothing is done with one that is not valid.
func checkRecorderOk(t *testing.T, r impl.Recorder, want bool) {
	t.Helper()
	if got := impl.RecorderOk(r); got != want {
		t.Errorf("RecorderOk(%s) = %v", shown(r), got)
	}
	left := 0
	if want {
		left = r.Room - sizesOf(r.Records)
	}
	if got := impl.RoomLeft(r); got != left {
		t.Errorf("RoomLeft(%s) = %d, want %d", shown(r), got, left)
	}
	if want {
		return
	}
	for _, x := range []impl.Record{{}, recordOf(200, 3, 40), recordOf(65535, 3, 6), recordOf(30000, 0, 40)} {
		checkKeepRecord(t, r, x, r)
	}
	for _, n := range []int{-1, 0, 1, 2, 100} {
		checkTakeRecords(t, r, n, r)
	}
}

func checkKeepRecord(t *testing.T, r impl.Recorder, x impl.Record, want impl.Recorder) {
	t.Helper()
	if got := impl.KeepRecord(r, x); !sameRecorders(got, want) {
		t.Errorf("KeepRecord(%s) = %s, want %s", shown(r, x), shown(got), shown(want))
	}
}

func checkTakeRecords(t *testing.T, r impl.Recorder, n int, want impl.Recorder, taken ...impl.Record) {
	t.Helper()
	if got, list := impl.TakeRecords(r, n); !sameRecorders(got, want) || !slices.Equal(list, taken) {
		t.Errorf("TakeRecords(%s) = %s, want %s", shown(r, n), shown(got, list), shown(want, taken))
	}
}

func TestRoomOfRecorders(t *testing.T) {
	checkRecorderOk(t, impl.Recorder{}, true)
	for _, n := range append(numbersAround(0, 4000), 39, 40, 41) {
		checkRecorderOk(t, impl.Recorder{Room: n}, within(n, 0, 4000))
		checkRecorderOk(t, recorderOf(n, 0, 40), within(n, 40, 4000))
		checkRecorderOk(t, recorderOf(n, 3, 6), within(n, 6, 4000))
	}
	for size := 6; size <= 40; size++ {
		for _, other := range []int{6, 7, 39, 40} {
			sum := size + other
			for _, room := range []int{sum - 1, sum, sum + 1, other, size} {
				checkRecorderOk(t, recorderOf(room, 1, size, 2, other), room >= sum)
			}
		}
	}
}

func TestFullRecorders(t *testing.T) {
	many := impl.Recorder{Room: 4000}
	for i := range 666 {
		many.Records = append(many.Records, recordOf(i, i%4, 6))
	}
	checkRecorderOk(t, many, true)
	checkRecorderOk(t, impl.Recorder{Room: 3996, Records: many.Records}, true)
	checkRecorderOk(t, impl.Recorder{Room: 3995, Records: many.Records}, false)
	many.Records[100] = recordOf(100, 0, 10)
	checkRecorderOk(t, many, true)
	many.Records[100] = recordOf(100, 0, 11)
	checkRecorderOk(t, many, false)
	long := impl.Recorder{Room: 4000}
	for i := range 100 {
		long.Records = append(long.Records, recordOf(600*i, 0, 40))
	}
	checkRecorderOk(t, long, true)
	long.Room = 3999
	checkRecorderOk(t, long, false)
}

func TestIdsOfRecorders(t *testing.T) {
	for _, c := range []struct {
		ids  []int
		want bool
	}{
		{[]int{0}, true}, {[]int{65535}, true}, {[]int{0, 1, 2}, true}, {[]int{5, 100, 65535}, true}, {[]int{65534, 65535}, true},
		{[]int{-1}, false}, {[]int{65536}, false}, {[]int{0, 0}, false}, {[]int{1, 0}, false}, {[]int{7, 8, 8}, false}, {[]int{7, 7, 8}, false},
		{[]int{7, 9, 8}, false}, {[]int{9, 7, 8}, false}, {[]int{7, 8, 7}, false}, {[]int{65535, 65536}, false}, {[]int{-1, 0}, false}, {[]int{65535, 0}, false},
	} {
		r := impl.Recorder{Room: 4000, Dropped: []int{7, 7, 0}}
		for _, id := range c.ids {
			r.Records = append(r.Records, impl.Record{Id: id})
		}
		checkRecorderOk(t, r, c.want)
	}
	for at := range 4 {
		for _, n := range farNumbers {
			r := recorderOf(4000, 0, 6, 1, 7, 2, 8, 3, 40)
			r.Records[at].Id = n
			checkRecorderOk(t, r, false)
		}
		for _, x := range []impl.Record{{Priority: -1}, {Priority: 4}, {Time: -1}, {Time: 1000001}, {Data: mixedBytes(35)}} {
			r := recorderOf(4000, 0, 6, 1, 7, 2, 8, 3, 40)
			checkRecorderOk(t, r, true)
			x.Id = r.Records[at].Id
			r.Records[at] = x
			checkRecorderOk(t, r, false)
		}
	}
}

func TestDroppedOfRecorders(t *testing.T) {
	for _, n := range append(numbersAround(0, 65535), 32768) {
		for at := range 3 {
			r := recorderOf(100, 0, 6)
			r.Dropped = []int{65535, 0, 65535}
			r.Dropped[at] = n
			checkRecorderOk(t, r, within(n, 0, 65535))
		}
	}
	r := recorderOf(100, 0, 6)
	r.Dropped = upTo(65536)
	checkRecorderOk(t, r, true)
	r.Dropped = append(upTo(65536), 0)
	checkRecorderOk(t, r, false)
	r.Dropped = make([]int, 65537)
	checkRecorderOk(t, r, false)
}

func TestRecordsForWhichThereIsRoom(t *testing.T) {
	for priority := range 4 {
		for size := 6; size <= 40; size++ {
			x := recordOf(31, priority, size)
			for _, spare := range []int{0, 1, 30} {
				r := recorderOf(60+size+spare, 0, 20, 3, 10, 0, 30)
				want := recorderOf(60+size+spare, 0, 20, 3, 10, 0, 30)
				want.Records = append(want.Records, x)
				checkKeepRecord(t, r, x, want)
				empty := impl.Recorder{Room: size + spare}
				checkKeepRecord(t, empty, x, impl.Recorder{Room: size + spare, Records: []impl.Record{x}})
			}
			checkKeepRecord(t, impl.Recorder{Room: size - 1}, x, impl.Recorder{Room: size - 1, Dropped: []int{31}})
		}
	}
	checkKeepRecord(t, impl.Recorder{}, impl.Record{}, impl.Recorder{Dropped: []int{0}})
	checkKeepRecord(t, impl.Recorder{Room: 6}, impl.Record{}, impl.Recorder{Room: 6, Records: []impl.Record{{}}})
}

// checkGivenUp checks which Ids a recorder without room left drops for a record, and that it keeps
// all others in their order.
func checkGivenUp(t *testing.T, r impl.Recorder, x impl.Record, ids ...int) {
	t.Helper()
	want := impl.Recorder{Room: r.Room, Dropped: append(slices.Clone(r.Dropped), ids...)}
	for _, kept := range append(slices.Clone(r.Records), x) {
		if !slices.Contains(ids, kept.Id) {
			want.Records = append(want.Records, kept)
		}
	}
	checkKeepRecord(t, r, x, want)
}

func TestRecordsThatAreGivenUp(t *testing.T) {
	// One of lesser priority is enough.
	checkGivenUp(t, recorderOf(20, 0, 20), recordOf(11, 1, 20), 10)
	checkGivenUp(t, recorderOf(60, 1, 20, 0, 20, 1, 20), recordOf(99, 2, 20), 20)
	checkGivenUp(t, recorderOf(60, 1, 20, 1, 20, 0, 20), recordOf(99, 2, 6), 30)
	// Of the same priority it is the least Id.
	checkGivenUp(t, recorderOf(60, 1, 20, 1, 20, 1, 20), recordOf(99, 3, 20), 10)
	checkGivenUp(t, recorderOf(60, 3, 20, 1, 20, 1, 20), recordOf(99, 2, 20), 20)
	// Several, of the least priority first.
	checkGivenUp(t, recorderOf(60, 2, 20, 1, 20, 0, 20), recordOf(99, 3, 21), 30, 20)
	checkGivenUp(t, recorderOf(60, 2, 20, 1, 20, 0, 20), recordOf(99, 3, 40), 30, 20)
	checkGivenUp(t, recorderOf(30, 2, 10, 1, 10, 0, 10), recordOf(99, 3, 30), 30, 20, 10)
	checkGivenUp(t, recorderOf(50, 1, 10, 0, 10, 1, 10, 0, 10, 2, 10), recordOf(99, 2, 31), 20, 40, 10, 30)
	checkGivenUp(t, recorderOf(50, 1, 10, 0, 10, 1, 10, 0, 10, 2, 10), recordOf(99, 2, 30), 20, 40, 10)
	checkGivenUp(t, recorderOf(50, 1, 10, 0, 10, 1, 10, 0, 10, 2, 10), recordOf(99, 1, 20), 20, 40)
	// A great one goes first, even if a smaller one of a higher priority were enough.
	checkGivenUp(t, recorderOf(46, 1, 6, 0, 40), recordOf(99, 2, 6), 20)
	// There is room for all but one byte of the new record.
	checkGivenUp(t, recorderOf(59, 0, 20, 1, 20), recordOf(99, 2, 20), 10)
	checkGivenUp(t, recorderOf(60, 0, 20, 1, 20), recordOf(99, 2, 20))
	checkGivenUp(t, recorderOf(60, 0, 20, 1, 20), recordOf(99, 2, 21), 10)
}

func TestRecordsThatMatterTooLittle(t *testing.T) {
	// Equal priority is not lesser.
	for priority := range 4 {
		checkGivenUp(t, recorderOf(20, priority, 20), recordOf(11, priority, 6), 11)
		checkGivenUp(t, recorderOf(25, 3, 20), recordOf(11, priority, 6), 11)
		checkGivenUp(t, recorderOf(0), recordOf(11, priority, 6), 11)
	}
	// The priority 0 gives up nothing.
	checkGivenUp(t, recorderOf(40, 0, 20, 0, 20), recordOf(99, 0, 6), 99)
	// All of lesser priority would not be enough, and none of them is removed.
	checkGivenUp(t, recorderOf(60, 0, 10, 2, 40, 1, 10), recordOf(99, 2, 21), 99)
	checkGivenUp(t, recorderOf(60, 0, 10, 2, 40, 1, 10), recordOf(99, 2, 20), 10, 30)
	checkGivenUp(t, recorderOf(39, 0, 13, 1, 13, 2, 13), recordOf(99, 3, 40), 99)
	checkGivenUp(t, recorderOf(40, 0, 13, 1, 13, 2, 13), recordOf(99, 3, 40), 10, 20, 30)
	checkGivenUp(t, recorderOf(64, 0, 10, 2, 40, 1, 10), recordOf(99, 2, 25), 99)
	checkGivenUp(t, recorderOf(65, 0, 10, 2, 40, 1, 10), recordOf(99, 2, 25), 10, 30)
}

func TestRecordsThatAreNotKept(t *testing.T) {
	for _, r := range []impl.Recorder{recorderOf(100, 0, 10, 1, 10, 2, 10), recorderOf(30, 0, 10, 1, 10, 2, 10)} {
		for _, id := range append([]int{-1, 0, 4, 9, 10, 15, 20, 25, 29, 30, 65536}, farNumbers...) {
			checkKeepRecord(t, r, recordOf(id, 3, 10), r)
		}
		for _, x := range []impl.Record{
			{Id: 31, Priority: -1}, {Id: 31, Priority: 4}, {Id: 31, Time: -1}, {Id: 31, Time: 1000001}, {Id: 31, Priority: 3, Data: mixedBytes(35)},
		} {
			checkKeepRecord(t, r, x, r)
			checkKeepRecord(t, impl.Recorder{Room: 100}, x, impl.Recorder{Room: 100})
		}
		for _, id := range []int{31, 32, 65535} {
			if got := impl.KeepRecord(r, recordOf(id, 3, 10)); len(got.Records) == 0 || got.Records[len(got.Records)-1].Id != id {
				t.Errorf("KeepRecord(%s) with the Id %d = %s", shown(r), id, shown(got))
			}
		}
	}
	// Also if the last record would be given up for it, or it would be given up itself.
	for _, r := range []impl.Recorder{recorderOf(20, 0, 20), recorderOf(20, 3, 20), recorderOf(30, 0, 20), recorderOf(40, 3, 20, 0, 20), recorderOf(40, 0, 20, 0, 20)} {
		last := r.Records[len(r.Records)-1].Id
		for _, id := range []int{0, last - 1, last} {
			for priority := range 4 {
				checkKeepRecord(t, r, recordOf(id, priority, 20), r)
				checkKeepRecord(t, r, recordOf(id, priority, 40), r)
			}
		}
	}
	// An Id that was given up can come again: only that of the last record counts.
	checkKeepRecord(t, impl.Recorder{Room: 6, Dropped: []int{9}}, impl.Record{Id: 9}, impl.Recorder{Room: 6, Records: []impl.Record{{Id: 9}}, Dropped: []int{9}})
	checkKeepRecord(t, impl.Recorder{Room: 5, Dropped: []int{9}}, impl.Record{Id: 9}, impl.Recorder{Room: 5, Dropped: []int{9, 9}})
}

func TestRecordersThatCanDropNoMore(t *testing.T) {
	for _, spare := range []int{0, 1, 2, 3} {
		r := recorderOf(40, 0, 10, 1, 10, 2, 10, 3, 10)
		r.Dropped = upTo(65536 - spare)
		for _, c := range []struct {
			size int
			ids  []int
		}{{6, []int{10}}, {20, []int{10, 20}}, {21, []int{10, 20, 30}}, {30, []int{10, 20, 30}}, {31, []int{99}}} {
			x := recordOf(99, 3, c.size)
			if len(c.ids) > spare {
				checkKeepRecord(t, r, x, r)
			} else {
				checkGivenUp(t, r, x, c.ids...)
			}
		}
		r.Room = 50
		checkGivenUp(t, r, recordOf(99, 0, 10))
	}
}

func TestTakeRecords(t *testing.T) {
	r := recorderOf(200, 3, 10, 0, 40, 2, 6, 1, 30, 0, 9)
	for _, n := range append([]int{-2, -1, 0, 1, 2, 3, 4, 5, 6, 100}, farNumbers...) {
		first := min(max(n, 0), 5)
		want := impl.Recorder{Room: 200, Records: r.Records[first:], Dropped: r.Dropped}
		checkTakeRecords(t, r, n, want, r.Records[:first]...)
		checkTakeRecords(t, impl.Recorder{Room: 9}, n, impl.Recorder{Room: 9})
	}
	full := recorderOf(40, 3, 10, 3, 10, 3, 10, 3, 10)
	full.Dropped = upTo(65536)
	for n := range 5 {
		checkTakeRecords(t, full, n, impl.Recorder{Room: 40, Records: full.Records[n:], Dropped: full.Dropped}, full.Records[:n]...)
	}
	if _, list := impl.TakeRecords(r, -1); list != nil {
		t.Error("TakeRecords of -1 gives a list")
	}
}

// keptByRank keeps a record in another way: it puts all records of lesser priority into the order
// in which they would be given up, and counts how many of them must be.
func keptByRank(r impl.Recorder, x impl.Record) impl.Recorder {
	ranked := slices.DeleteFunc(slices.Clone(r.Records), func(y impl.Record) bool { return y.Priority >= x.Priority })
	slices.SortFunc(ranked, func(a, b impl.Record) int {
		return cmp.Or(cmp.Compare(a.Priority, b.Priority), cmp.Compare(a.Id, b.Id))
	})
	dropped := slices.Clone(r.Dropped)
	for n := range len(ranked) + 1 {
		if sizesOf(r.Records)-sizesOf(ranked[:n])+6+len(x.Data) > r.Room {
			continue
		}
		kept := slices.DeleteFunc(slices.Clone(r.Records), func(y impl.Record) bool { return slices.Contains(ranked[:n], y) })
		for _, y := range ranked[:n] {
			dropped = append(dropped, y.Id)
		}
		return impl.Recorder{Room: r.Room, Records: append(kept, x), Dropped: dropped}
	}
	return impl.Recorder{Room: r.Room, Records: r.Records, Dropped: append(dropped, x.Id)}
}

// checkLossMatters checks that what a recorder gave up for a record mattered less, and that the
// record itself was given up only if what remains matters at least as much or fills the room.
func checkLossMatters(t *testing.T, r, after impl.Recorder, x impl.Record) {
	t.Helper()
	lasting := 0
	for _, y := range r.Records {
		kept := slices.Contains(after.Records, y)
		if !kept && y.Priority >= x.Priority {
			t.Errorf("%s gave up %s for %s", shown(r), shown(y), shown(x))
		}
		if y.Priority >= x.Priority {
			lasting += 6 + len(y.Data)
		}
	}
	if !slices.Contains(after.Records, x) && lasting+6+len(x.Data) <= r.Room {
		t.Errorf("%s gave up %s", shown(r), shown(x))
	}
}

func TestManyRecorders(t *testing.T) {
	for seed := range 60 {
		r := impl.Recorder{Room: []int{0, 5, 6, 30, 60, 100, 200, 400, 1000, 4000}[seed%10]}
		state, made := seed*1001, 0
		seen := map[int]bool{}
		for range 150 {
			var skip, priority, size, take int
			state, skip = draw(state, 3)
			state, priority = draw(state, 4)
			state, size = draw(state, 35)
			state, take = draw(state, 60)
			made += 1 + skip
			x := recordOf(made, priority, 6+size)
			want := keptByRank(r, x)
			checkKeepRecord(t, r, x, want)
			checkLossMatters(t, r, want, x)
			seen[made] = true
			r = impl.KeepRecord(r, x)
			if take < 4 {
				rest, list := impl.TakeRecords(r, take)
				if !slices.Equal(append(slices.Clone(list), rest.Records...), r.Records) || len(list) != min(take, len(r.Records)) {
					t.Fatalf("TakeRecords(%s) = %s", shown(r, take), shown(rest, list))
				}
				for _, y := range list {
					delete(seen, y.Id)
				}
				r = rest
			}
			checkRecordsOnce(t, r, seen)
		}
	}
}

// checkRecordsOnce checks that the Ids in a recorder and of what it gave up are these, each once.
// What was taken is no longer among them, and what was given up remains so.
func checkRecordsOnce(t *testing.T, r impl.Recorder, ids map[int]bool) {
	t.Helper()
	list := slices.Clone(r.Dropped)
	for _, x := range r.Records {
		list = append(list, x.Id)
	}
	slices.Sort(list)
	if len(slices.Compact(slices.Clone(list))) != len(list) || len(list) != len(ids) {
		t.Fatalf("%d Ids of %d records: %s", len(list), len(ids), shown(list))
	}
	for _, id := range list {
		if !ids[id] {
			t.Fatalf("the Id %d is not one of those that were made, or was taken", id)
		}
	}
}

// recordersOf returns what each function that returns a recorder does for r.
func recordersOf(r impl.Recorder) []impl.Recorder {
	list := []impl.Recorder{
		impl.KeepRecord(r, recordOf(60000, 3, 6)), impl.KeepRecord(r, recordOf(60000, 3, 20)), impl.KeepRecord(r, recordOf(60000, 0, 40)),
		impl.KeepRecord(r, impl.Record{Id: -1}), impl.KeepRecord(r, impl.Record{}),
	}
	for _, n := range []int{-1, 0, 1, 2, 9} {
		rest, taken := impl.TakeRecords(r, n)
		list = append(list, rest, impl.Recorder{Records: taken})
	}
	return list
}

func TestRecordersShareNoMemory(t *testing.T) {
	for _, x := range []impl.Recorder{
		{}, {Room: 40}, recorderOf(20, 0, 20), recorderOf(60, 0, 20, 1, 20, 2, 20), recorderOf(60, 3, 20, 3, 20, 3, 20),
		recorderOf(100, 0, 20, 1, 20, 2, 20), recorderOf(50, 0, 20, 1, 20, 2, 20), {Room: -1, Dropped: []int{3}}, {Room: 9, Dropped: []int{1, 2}},
		{Room: 20, Records: []impl.Record{recordOf(5, 0, 20)}, Dropped: upTo(65536)},
	} {
		records, recordsAsBefore := guarded(x.Records, impl.Record{Id: 71}, impl.Record{Id: 72, Data: "x"}, impl.Record{Id: 73})
		dropped, droppedAsBefore := guarded(x.Dropped, 71, 72, 73, 74, 75)
		r := impl.Recorder{Room: x.Room, Records: records, Dropped: dropped}
		results, again := recordersOf(r), recordersOf(r)
		impl.RecorderOk(r)
		impl.RoomLeft(r)
		for i, result := range results {
			for k := range result.Records[:cap(result.Records)] {
				result.Records[:cap(result.Records)][k] = impl.Record{Id: -9}
			}
			for k := range result.Dropped[:cap(result.Dropped)] {
				result.Dropped[:cap(result.Dropped)][k] = -9
			}
			if !recordsAsBefore() || !droppedAsBefore() {
				t.Fatalf("the result %d of %s shares its memory", i, shown(x))
			}
			// Those that come later share nothing with those that were overwritten.
			for k := i + 1; k < len(results); k++ {
				if !sameRecorders(results[k], again[k]) {
					t.Fatalf("the results %d and %d of %s share memory", i, k, shown(x))
				}
			}
		}
	}
}
