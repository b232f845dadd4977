package tests

import (
	"slices"
	"strings"
	"testing"

	"loop.example/g03316/impl"
)

func sameSenders(a, b impl.Sender) bool {
	return a.Next == b.Next && a.Window == b.Window && a.Done == b.Done && slices.Equal(a.Waiting, b.Waiting)
}

// commandData returns data of 1 to 40 bytes for the command with an index, with bytes of all kinds.
func commandData(i int) string { return mixedBytes(41 + i%40)[40:] }

// sentFrom returns n commands that wait, of which the first one has a number.
func sentFrom(seq, n int) []impl.Sent {
	list := []impl.Sent{}
	for i := range n {
		list = append(list, impl.Sent{Seq: (seq + i) % 256, Data: commandData(seq + i)})
	}
	return list
}

// senderFrom returns a sender in which n commands wait, of which the first one has a number.
func senderFrom(seq, n int) impl.Sender {
	return impl.Sender{Next: (seq + n) % 256, Window: impl.MaxWindow, Waiting: sentFrom(seq, n), Done: 7}
}

// checkSenderOk checks a sender, and that nothing is done with one that is not valid.
func checkSenderOk(t *testing.T, s impl.Sender, want bool) {
	t.Helper()
	if got := impl.SenderOk(s); got != want {
		t.Errorf("SenderOk(%s) = %v", shown(s), got)
	}
	blocks := impl.CommandBlocks(s)
	if want {
		if len(blocks) != len(s.Waiting) {
			t.Errorf("CommandBlocks(%s) = %s", shown(s), shown(blocks))
		}
		return
	}
	if len(blocks) != 0 {
		t.Errorf("CommandBlocks(%s) = %s", shown(s), shown(blocks))
	}
	checkNotOffered(t, s, "az")
	expects := []int{s.Next, 0, 255}
	if len(s.Waiting) > 0 {
		expects = append(expects, s.Waiting[0].Seq, s.Waiting[0].Seq+1, s.Waiting[len(s.Waiting)-1].Seq)
	}
	for _, n := range expects {
		checkHearNotice(t, s, impl.Notice{Expect: n}, s)
	}
}

func checkNotOffered(t *testing.T, s impl.Sender, data string) {
	t.Helper()
	if got, ok := impl.OfferCommand(s, data); ok || !sameSenders(got, s) {
		t.Errorf("OfferCommand(%s) = %s", shown(s, data), shown(got, ok))
	}
}

func checkOfferCommand(t *testing.T, s impl.Sender, data string, want impl.Sender) {
	t.Helper()
	if got, ok := impl.OfferCommand(s, data); !ok || !sameSenders(got, want) {
		t.Errorf("OfferCommand(%s) = %s, want %s", shown(s, data), shown(got, ok), shown(want))
	}
}

func TestSenderOk(t *testing.T) {
	checkSenderOk(t, impl.Sender{}, false)
	checkSenderOk(t, impl.Sender{Window: 1}, true)
	for _, n := range append(numbersAround(0, 255), 128) {
		checkSenderOk(t, impl.Sender{Next: n, Window: 3}, within(n, 0, 255))
		if within(n, 0, 255) {
			checkSenderOk(t, impl.Sender{Next: n, Window: 3, Waiting: sentFrom((n+254)%256, 2)}, true)
		}
	}
	// These are Seqs that would be right, if a Next out of the range were valid.
	checkSenderOk(t, impl.Sender{Next: 256, Window: 3, Waiting: []impl.Sent{{Seq: 255, Data: "a"}}}, false)
	checkSenderOk(t, impl.Sender{Next: -1, Window: 3, Waiting: []impl.Sent{{Seq: 254, Data: "a"}}}, false)
	for _, n := range append(numbersAround(1, impl.MaxWindow), 10) {
		checkSenderOk(t, impl.Sender{Next: 5, Window: n}, within(n, 1, 20))
		checkSenderOk(t, impl.Sender{Next: 5, Window: n, Waiting: sentFrom(4, 1)}, within(n, 1, 20))
	}
	for _, n := range append(numbersAround(0, 1000000), 999998) {
		checkSenderOk(t, impl.Sender{Window: 3, Done: n}, within(n, 0, 1000000))
		checkSenderOk(t, impl.Sender{Next: 2, Window: 3, Waiting: sentFrom(0, 2), Done: n}, within(n, 0, 1000000))
	}
}

func TestLengthsOfWaiting(t *testing.T) {
	for window := 1; window <= impl.MaxWindow; window++ {
		for n := range 24 {
			for _, seq := range []int{0, 9, 236, 250, 255} {
				s := senderFrom(seq, n)
				s.Window = window
				checkSenderOk(t, s, n <= window)
			}
		}
	}
	// The Seqs of these are right too, modulo 256.
	for _, n := range []int{255, 256, 257, 276} {
		checkSenderOk(t, senderFrom(3, n), false)
	}
}

func TestLengthsOfDataOfWaiting(t *testing.T) {
	for _, n := range []int{1, 2, 7, impl.MaxWindow} {
		for at := range n {
			for _, length := range dataLengths() {
				s := senderFrom(250, n)
				s.Waiting[at].Data = mixedBytes(length)
				checkSenderOk(t, s, within(length, 1, 40))
			}
		}
	}
	// Bytes are counted, not characters.
	s := senderFrom(0, 1)
	s.Waiting[0].Data = strings.Repeat("\u00e9", 20)
	checkSenderOk(t, s, true)
	s.Waiting[0].Data += "\xff"
	checkSenderOk(t, s, false)
}

func TestSeqsOfWaiting(t *testing.T) {
	for seq := range 256 {
		for _, n := range []int{0, 1, 2, 3, 19, 20} {
			checkSenderOk(t, senderFrom(seq, n), true)
		}
	}
	for _, seq := range []int{0, 1, 9, 237, 254, 255} {
		for _, n := range []int{1, 2, 5, impl.MaxWindow} {
			for at := range n {
				s := senderFrom(seq, n)
				right := s.Waiting[at].Seq
				for _, wrong := range append([]int{-1, 0, 1, 255, 256, right - 1, right + 1, right - 2, right + 2, right + 256, right - 256, -right - 1}, farNumbers...) {
					s.Waiting[at].Seq = wrong
					checkSenderOk(t, s, wrong == right)
				}
			}
		}
	}
}

// senderOf returns a sender in which commands with these numbers wait.
func senderOf(next int, seqs ...int) impl.Sender {
	s := impl.Sender{Next: next, Window: impl.MaxWindow}
	for i, seq := range seqs {
		s.Waiting = append(s.Waiting, impl.Sent{Seq: seq, Data: commandData(i)})
	}
	return s
}

func TestOrderOfSeqs(t *testing.T) {
	for _, s := range []impl.Sender{
		senderOf(4, 1, 2, 3), senderOf(0, 254, 255), senderOf(0, 255), senderOf(1, 255, 0), senderOf(2, 254, 255, 0, 1),
	} {
		checkSenderOk(t, s, true)
	}
	for _, s := range []impl.Sender{
		senderOf(4, 1, 3), senderOf(4, 0, 2, 3), senderOf(4, 2, 2, 3), senderOf(4, 3, 3), senderOf(4, 3, 2, 1), senderOf(4, 2, 1, 3),
		senderOf(4, 1, 2), senderOf(4, 2, 3, 4), senderOf(3, 1, 2, 3), senderOf(5, 1, 2, 3), senderOf(4, 4), senderOf(4, 5),
		senderOf(0, -1), senderOf(0, 254, -1), senderOf(1, -1, 0), senderOf(1, 256), senderOf(1, 255, 256), senderOf(0, 255, 0),
		senderOf(1, 0, 255), senderOf(1, 254, 0), senderOf(2, 255, 1), senderOf(0, 0, 255), senderOf(255, 255), senderOf(4, 3, 2),
	} {
		checkSenderOk(t, s, false)
	}
}

func TestNewSender(t *testing.T) {
	for _, n := range append(numbersAround(1, impl.MaxWindow), 10) {
		s, ok := impl.NewSender(n)
		want := impl.Sender{}
		if within(n, 1, 20) {
			want.Window = n
		}
		if ok != within(n, 1, 20) || !sameSenders(s, want) {
			t.Errorf("NewSender(%d) = %s", n, shown(s, ok))
		}
	}
}

func TestOfferKnownCommands(t *testing.T) {
	a, b := impl.Sent{Seq: 254, Data: "on"}, impl.Sent{Seq: 255, Data: "\x00\xff"}
	s := impl.Sender{Next: 254, Window: 2, Done: 9}
	one := impl.Sender{Next: 255, Window: 2, Waiting: []impl.Sent{a}, Done: 9}
	two := impl.Sender{Window: 2, Waiting: []impl.Sent{a, b}, Done: 9}
	checkOfferCommand(t, s, "on", one)
	checkOfferCommand(t, one, "\x00\xff", two)
	checkNotOffered(t, two, "c")
}

func TestOffersUntilTheWindowIsFull(t *testing.T) {
	for window := 1; window <= impl.MaxWindow; window++ {
		for _, next := range []int{0, 1, 235, 236, 250, 255} {
			s := impl.Sender{Next: next, Window: window, Done: 1000000}
			for i := range window {
				want := impl.Sender{Next: (next + i + 1) % 256, Window: window, Waiting: sentFrom(next, i+1), Done: 1000000}
				checkOfferCommand(t, s, commandData(next+i), want)
				s = want
			}
			for _, data := range []string{"a", "", mixedBytes(40), mixedBytes(41)} {
				checkNotOffered(t, s, data)
			}
		}
	}
}

func TestOffersOfAllLengths(t *testing.T) {
	for _, s := range []impl.Sender{{Window: 1}, {Next: 255, Window: 20}, senderFrom(250, 19), senderFrom(9, 4)} {
		for _, n := range dataLengths() {
			data := mixedBytes(n)
			if !within(n, 1, 40) {
				checkNotOffered(t, s, data)
				continue
			}
			waiting := append(slices.Clone(s.Waiting), impl.Sent{Seq: s.Next, Data: data})
			checkOfferCommand(t, s, data, impl.Sender{Next: (s.Next + 1) % 256, Window: s.Window, Waiting: waiting, Done: s.Done})
		}
	}
	for i := range 256 {
		data := string([]byte{byte(i)})
		checkOfferCommand(t, impl.Sender{Next: i, Window: 1}, data, impl.Sender{Next: (i + 1) % 256, Window: 1, Waiting: []impl.Sent{{Seq: i, Data: data}}})
	}
	checkOfferCommand(t, impl.Sender{Window: 1}, "\u20ac\xe2\x82", impl.Sender{Next: 1, Window: 1, Waiting: []impl.Sent{{Data: "\u20ac\xe2\x82"}}})
	checkNotOffered(t, impl.Sender{Window: 1}, strings.Repeat("\u00e9", 21))
}

func TestCommandBlocks(t *testing.T) {
	s := impl.Sender{Next: 1, Window: 3, Waiting: []impl.Sent{{Seq: 255, Data: "b"}, {Seq: 0, Data: "\xff\x00"}}}
	want := []string{impl.SealText("\x00\xffb"), impl.SealText("\x00\x00\xff\x00")}
	if got := impl.CommandBlocks(s); !slices.Equal(got, want) {
		t.Errorf("CommandBlocks(%s) = %q", shown(s), got)
	}
	for seq := range 256 {
		for _, n := range []int{0, 1, 2, 19, 20} {
			s := senderFrom(seq, n)
			want := []string{}
			for i := range n {
				want = append(want, impl.SealText("\x00"+string([]byte{byte(seq + i)})+commandData(seq+i)))
			}
			if got := impl.CommandBlocks(s); !slices.Equal(got, want) {
				t.Errorf("CommandBlocks(%s) = %s", shown(s), shown(got))
			}
		}
	}
}

// sendersOf returns what each function that returns a sender does for s.
func sendersOf(s impl.Sender) []impl.Sender {
	offered, _ := impl.OfferCommand(s, "az")
	notOffered, _ := impl.OfferCommand(s, "")
	list := []impl.Sender{offered, notOffered, impl.HearNotice(s, impl.Notice{Expect: -1}), impl.HearNotice(s, impl.Notice{Expect: s.Next})}
	for k := range 4 {
		list = append(list, impl.HearNotice(s, impl.Notice{Expect: (s.Next + 253 + k) % 256}))
	}
	return list
}

func TestSendersShareNoMemory(t *testing.T) {
	for _, x := range []impl.Sender{
		{Window: 1}, senderFrom(0, 1), senderFrom(254, 2), senderFrom(255, 3), senderFrom(4, 19), senderFrom(240, 20),
		{}, senderFrom(3, 21), senderOf(4, 1, 3), senderOf(4, 3, 2, 1), {Next: 256, Window: 2, Waiting: sentFrom(254, 2)},
	} {
		s := x
		waiting, asBefore := guarded(x.Waiting, impl.Sent{Seq: 71, Data: "x"}, impl.Sent{Seq: 72, Data: "y"}, impl.Sent{Seq: 73})
		s.Waiting = waiting
		results := sendersOf(s)
		again := sendersOf(s)
		if impl.CommandBlocks(s); !asBefore() {
			t.Errorf("Waiting of %s was changed", shown(x))
		}
		for i, r := range results {
			for k := range r.Waiting[:cap(r.Waiting)] {
				r.Waiting[:cap(r.Waiting)][k] = impl.Sent{Seq: -9}
			}
			if !asBefore() {
				t.Errorf("the result %d of %s shares its Waiting", i, shown(x))
			}
		}
		for i, r := range sendersOf(s) {
			if !sameSenders(r, again[i]) {
				t.Errorf("the results %d of %s differ", i, shown(x))
			}
		}
	}
}

// CommandBlocks returns new memory each time.
func TestBlocksOfCommandsShareNoMemory(t *testing.T) {
	s := senderFrom(250, 9)
	want := slices.Clone(impl.CommandBlocks(s))
	clear(impl.CommandBlocks(s))
	if got := impl.CommandBlocks(s); !slices.Equal(got, want) {
		t.Errorf("CommandBlocks(%s) = %s", shown(s), shown(got))
	}
}
