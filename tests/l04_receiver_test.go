package tests

import (
	"testing"

	"loop.example/g03316/impl"
)

func checkTaken(t *testing.T, r impl.Receiver, s string, want impl.Receiver, data string) {
	t.Helper()
	if got, gotData, ok := impl.TakeCommand(r, s); got != want || gotData != data || !ok {
		t.Errorf("TakeCommand(%s) = %s, want %s", shown(r, s), shown(got, gotData, ok), shown(want, data))
	}
}

func checkNotTaken(t *testing.T, r impl.Receiver, s string, want impl.Receiver) {
	t.Helper()
	if got, data, ok := impl.TakeCommand(r, s); got != want || data != "" || ok {
		t.Errorf("TakeCommand(%s) = %s, want %s", shown(r, s), shown(got, data, ok), shown(want))
	}
}

// receiversAt returns the receivers with an Expect and a Taken, locked and not, with Again and not.
func receiversAt(expect, taken int) []impl.Receiver {
	return []impl.Receiver{
		{Expect: expect, Taken: taken},
		{Expect: expect, Again: true, Taken: taken},
		{Expect: expect, Locked: true, Taken: taken},
		{Expect: expect, Locked: true, Again: true, Taken: taken},
	}
}

// sampleReceivers returns some receivers that are valid.
func sampleReceivers() []impl.Receiver {
	return []impl.Receiver{{}, {Expect: 9, Taken: 3}, {Expect: 255, Locked: true, Again: true, Taken: 1000000}}
}

func checkReceiverOk(t *testing.T, r impl.Receiver, want bool) {
	t.Helper()
	if got := impl.ReceiverOk(r); got != want {
		t.Errorf("ReceiverOk(%s) = %v", shown(r), got)
	}
	if want {
		return
	}
	for _, seq := range []int{0, 1, 41, 100, 254, 255, r.Expect & 255, (r.Expect + 1) & 255, (r.Expect + 100) & 255} {
		checkNotTaken(t, r, impl.EncodeCommand(impl.KindData, seq, "az"), r)
		checkNotTaken(t, r, impl.EncodeCommand(impl.KindUnlock, seq, "az"), r)
	}
}

func TestReceiverOk(t *testing.T) {
	checkReceiverOk(t, impl.Receiver{}, true)
	for _, n := range append(numbersAround(0, 255), 128) {
		for _, r := range receiversAt(n, 7) {
			checkReceiverOk(t, r, within(n, 0, 255))
		}
	}
	for _, n := range append(numbersAround(0, 1000000), 999998) {
		for _, r := range receiversAt(7, n) {
			checkReceiverOk(t, r, within(n, 0, 1000000))
		}
	}
}

func TestTakeKnownCommands(t *testing.T) {
	r := impl.Receiver{Expect: 254, Taken: 510}
	two := impl.Receiver{Expect: 0, Taken: 512}
	checkTaken(t, r, impl.EncodeCommand(0, 254, "on"), impl.Receiver{Expect: 255, Taken: 511}, "on")
	checkNotTaken(t, r, impl.EncodeCommand(0, 255, "off"), impl.Receiver{Expect: 254, Again: true, Taken: 510})
	checkTaken(t, impl.Receiver{Expect: 255, Again: true, Taken: 511}, impl.EncodeCommand(0, 255, "\x00\xff"), two, "\x00\xff")
	checkNotTaken(t, two, impl.EncodeCommand(0, 255, "off"), two)
	checkNotTaken(t, two, impl.EncodeCommand(0, 40, "x"), impl.Receiver{Again: true, Taken: 512})
	checkNotTaken(t, two, impl.EncodeCommand(0, 41, "x"), impl.Receiver{Locked: true, Taken: 512})
	checkNotTaken(t, two, impl.EncodeCommand(0, 215, "x"), impl.Receiver{Locked: true, Taken: 512})
	checkNotTaken(t, two, impl.EncodeCommand(0, 216, "x"), two)
	checkNotTaken(t, impl.Receiver{Locked: true, Again: true}, impl.EncodeCommand(1, 100, "x"), impl.Receiver{})
}

// checkAllAhead gives each number from 0 to 255 to a receiver that is not locked, counted from its
// Expect on.
func checkAllAhead(t *testing.T, r impl.Receiver) {
	t.Helper()
	for d := range 256 {
		data := mixedBytes(d % 41)
		s := impl.EncodeCommand(impl.KindData, (r.Expect+d)%256, data)
		want := r
		switch {
		case d == 0 && r.Taken < 1000000:
			checkTaken(t, r, s, impl.Receiver{Expect: (r.Expect + 1) % 256, Taken: r.Taken + 1}, data)
			continue
		case d == 0:
		case d <= 40:
			want.Again = true
		case d <= 215:
			want.Locked = true
		}
		checkNotTaken(t, r, s, want)
	}
}

func TestTakeEachNumber(t *testing.T) {
	for expect := range 256 {
		for _, taken := range []int{0, 1, 255, 256, 65536, 999998, 999999, 1000000} {
			if expect%16 == 0 || expect > 250 || taken == 256 {
				checkAllAhead(t, impl.Receiver{Expect: expect, Taken: taken})
				checkAllAhead(t, impl.Receiver{Expect: expect, Again: true, Taken: taken})
			}
		}
	}
}

func TestLockedReceiversTakeNothing(t *testing.T) {
	for _, expect := range []int{0, 1, 39, 40, 41, 100, 215, 216, 254, 255} {
		for _, taken := range []int{0, 999999, 1000000} {
			for seq := range 256 {
				s := impl.EncodeCommand(impl.KindData, seq, mixedBytes(seq%41))
				for _, r := range receiversAt(expect, taken)[2:] {
					checkNotTaken(t, r, s, r)
				}
			}
		}
	}
}

// Data of each length are taken, those of 0 bytes too.
func TestTakeDataOfEachLength(t *testing.T) {
	for n := range impl.MaxCommand + 1 {
		for _, r := range receiversAt(n, n)[:2] {
			s := impl.EncodeCommand(impl.KindData, n, mixedBytes(n))
			checkTaken(t, r, s, impl.Receiver{Expect: n + 1, Taken: n + 1}, mixedBytes(n))
		}
	}
	for _, data := range sampleTexts() {
		if len(data) <= impl.MaxCommand {
			checkTaken(t, impl.Receiver{Expect: 255}, impl.EncodeCommand(0, 255, data), impl.Receiver{Taken: 1}, data)
		}
	}
}

func TestUnlockingCommands(t *testing.T) {
	for _, expect := range []int{0, 9, 128, 255} {
		for _, taken := range []int{0, 7, 999999, 1000000} {
			for seq := range 256 {
				want := impl.Receiver{Expect: expect, Taken: taken}
				for i, r := range receiversAt(expect, taken) {
					checkNotTaken(t, r, impl.EncodeCommand(impl.KindUnlock, seq, ""), want)
					checkNotTaken(t, r, impl.EncodeCommand(impl.KindUnlock, seq, mixedBytes((seq+i)%41)), want)
				}
			}
		}
	}
}

func TestNoticeOf(t *testing.T) {
	for _, expect := range append(numbersAround(0, 255), 100) {
		for _, taken := range []int{0, 7, 1000000, -1, 1000001} {
			for _, r := range receiversAt(expect, taken) {
				want := impl.Notice{Expect: expect, Locked: r.Locked, Again: r.Again}
				if got := impl.NoticeOf(r); got != want {
					t.Errorf("NoticeOf(%s) = %s", shown(r), shown(got))
				}
			}
		}
	}
}
