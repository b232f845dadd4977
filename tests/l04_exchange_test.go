package tests

import (
	"slices"
	"testing"

	"loop.example/g03316/impl"
)

// A heldText is on its way for some rounds already.
type heldText struct {
	text   string
	rounds int
}

// A wire loses, repeats and holds back some of what is sent, in percent.
type wire struct {
	state             int
	loss, twice, late int
	longest           int
	held              []heldText
}

func (w *wire) hits(percent int) bool {
	state, n := draw(w.state, 100)
	w.state = state
	return n < percent
}

// carry returns what arrives in a round. Behind it come texts that were held back, none of them
// for more than the longest number of rounds.
func (w *wire) carry(texts []string) []string {
	came := []string{}
	was := w.held
	w.held = nil
	for _, s := range texts {
		switch {
		case w.longest > 0 && w.hits(w.late):
			w.held = append(w.held, heldText{text: s})
		case !w.hits(w.loss):
			came = append(came, s)
			if w.hits(w.twice) {
				came = append(came, s)
			}
		}
	}
	for _, h := range was {
		h.rounds++
		if h.rounds >= w.longest || w.hits(40) {
			came = append(came, h.text)
		} else {
			w.held = append(w.held, h)
		}
	}
	return came
}

// An exchange has a sender and a receiver, and what was offered to the one and taken by the other.
type exchange struct {
	sender         impl.Sender
	receiver       impl.Receiver
	offered, taken []string
}

func newExchange(window, next int) *exchange {
	return &exchange{sender: impl.Sender{Next: next, Window: window}, receiver: impl.Receiver{Expect: next}}
}

// distinctData returns data that no other command has, with bytes of all kinds.
func distinctData(i int) string {
	return string([]byte{byte(i), byte(i >> 8)}) + mixedBytes(i%39)
}

// offer offers commands until the window is full or n were offered.
func (x *exchange) offer(n int) {
	for len(x.offered) < n {
		data := distinctData(len(x.offered))
		s, ok := impl.OfferCommand(x.sender, data)
		if !ok {
			return
		}
		x.sender = s
		x.offered = append(x.offered, data)
	}
}

func (x *exchange) take(blocks []string) {
	for _, s := range blocks {
		r, data, ok := impl.TakeCommand(x.receiver, s)
		x.receiver = r
		if ok {
			x.taken = append(x.taken, data)
		}
	}
}

func (x *exchange) hear(notices []string) {
	for _, s := range notices {
		if n, ok := impl.DecodeNotice(s); ok {
			x.sender = impl.HearNotice(x.sender, n)
		}
	}
}

// check checks that what was taken is what was offered first, once and in order, and that the
// sender knows nothing to be taken that was not.
func (x *exchange) check(t *testing.T) {
	t.Helper()
	if len(x.taken) > len(x.offered) || !slices.Equal(x.taken, x.offered[:len(x.taken)]) {
		t.Fatalf("%d commands were offered, and %d taken that are not the first ones", len(x.offered), len(x.taken))
	}
	s, r := x.sender, x.receiver
	if !impl.SenderOk(s) || !impl.ReceiverOk(r) || r.Taken != len(x.taken) || s.Done > r.Taken {
		t.Fatalf("with %d commands taken: %s", len(x.taken), shown(s, r))
	}
	if s.Done+len(s.Waiting) != len(x.offered) {
		t.Fatalf("of %d commands, %d are done and %d wait", len(x.offered), s.Done, len(s.Waiting))
	}
	for i, sent := range s.Waiting {
		if sent.Data != x.offered[s.Done+i] {
			t.Fatalf("the command %d waits as %s", s.Done+i, shown(sent))
		}
	}
}

// round sends all commands that wait through one wire, and a notice through another one.
func (x *exchange) round(t *testing.T, up, down *wire) {
	t.Helper()
	x.take(up.carry(impl.CommandBlocks(x.sender)))
	x.hear(down.carry([]string{impl.EncodeNotice(impl.NoticeOf(x.receiver))}))
	x.check(t)
}

// checkClearRound checks that one round over a clear sky is enough for all that wait; what the
// exchange has is not changed.
func (x *exchange) checkClearRound(t *testing.T) {
	t.Helper()
	y := *x
	y.taken = slices.Clone(x.taken)
	y.round(t, &wire{}, &wire{})
	if len(y.taken) != len(x.offered) || len(y.sender.Waiting) != 0 || y.receiver.Again || y.receiver.Locked {
		t.Fatalf("after a clear round: %s", shown(y.sender, y.receiver))
	}
}

// A block may be held back as long as its number is at most 40 behind the one that is expected:
// a window of commands is taken in the round in which it is sent, and one in each round behind it.
func longestLate(window int) int { return 40/window - 1 }

func TestCommandsOverAWire(t *testing.T) {
	for i, c := range []struct{ loss, twice, late int }{
		{0, 0, 0}, {50, 0, 0}, {90, 0, 0}, {0, 100, 0}, {0, 0, 100}, {0, 50, 50}, {30, 30, 30}, {70, 50, 20}, {80, 90, 80}, {10, 5, 5},
	} {
		for _, window := range []int{1, 2, 7, 19, impl.MaxWindow} {
			for _, next := range []int{0, 100, 237, 255} {
				up := &wire{state: 100*i + window, loss: c.loss, twice: c.twice, late: c.late, longest: longestLate(window)}
				down := &wire{state: 300 + next, loss: c.loss, twice: c.twice, late: c.late, longest: 10}
				x := newExchange(window, next)
				for rounds := 0; len(x.offered) < 300 || len(x.sender.Waiting) > 0; rounds++ {
					x.offer(300)
					if rounds%10 == 0 {
						x.checkClearRound(t)
					}
					x.round(t, up, down)
					if x.receiver.Locked || rounds > 100000 {
						t.Fatalf("the wire %s of the window %d after %d rounds: %s", shown(c), window, rounds, shown(x.receiver))
					}
				}
				if len(x.taken) != 300 || x.sender.Done != 300 || x.receiver.Expect != (next+300)%256 {
					t.Errorf("the wire %s of the window %d: %s", shown(c), window, shown(x.sender, x.receiver))
				}
			}
		}
	}
}

// deliver gives the blocks to a receiver in every order with repetitions, of a length. At each
// step, exactly the first command that was not taken yet is taken.
func deliver(t *testing.T, r impl.Receiver, blocks, data []string, done, length int) {
	t.Helper()
	if length == 0 {
		return
	}
	for i, s := range blocks {
		next, got, ok := impl.TakeCommand(r, s)
		want, wantData := r, ""
		if i == done {
			want = impl.Receiver{Expect: (r.Expect + 1) % 256, Taken: r.Taken + 1}
			wantData = data[i]
		} else if i > done {
			want.Again = true
		}
		if next != want || got != wantData || ok != (i == done) {
			t.Fatalf("TakeCommand(%s) = %s, want %s", shown(r, s), shown(next, got, ok), shown(want, wantData))
		}
		if ok {
			deliver(t, next, blocks, data, done+1, length-1)
		} else {
			deliver(t, next, blocks, data, done, length-1)
		}
	}
}

func TestAllOrdersOfBlocks(t *testing.T) {
	for _, next := range []int{0, 77, 252, 253, 254, 255} {
		x := newExchange(4, next)
		x.offer(4)
		deliver(t, x.receiver, impl.CommandBlocks(x.sender), x.offered, 0, 7)
	}
}

// Nothing is taken between the command with a number far off and the one that unlocks, whose
// number does not matter; afterwards, the exchange goes on where it was.
func TestFarNumbersLock(t *testing.T) {
	for d := impl.MaxAheadSeq + 1; d <= 255-impl.MaxAheadSeq; d++ {
		up, down := &wire{state: d, loss: 40, twice: 30}, &wire{state: 2 * d, loss: 40, twice: 30}
		x := newExchange(1+d%impl.MaxWindow, 7*d%256)
		for range 20 {
			x.offer(300)
			x.round(t, up, down)
		}
		before := x.receiver
		far := impl.EncodeCommand(impl.KindData, (before.Expect+d)%256, "far")
		x.take([]string{far})
		if want := (impl.Receiver{Expect: before.Expect, Locked: true, Again: before.Again, Taken: before.Taken}); x.receiver != want {
			t.Fatalf("behind a number %d further: %s, want %s", d, shown(x.receiver), shown(want))
		}
		locked := x.receiver
		for range 10 {
			x.offer(300)
			x.round(t, up, down)
			x.round(t, &wire{}, &wire{})
			x.take([]string{far})
		}
		if x.receiver != locked || !impl.NoticeOf(x.receiver).Locked {
			t.Fatalf("the receiver %s was locked, and became %s", shown(locked), shown(x.receiver))
		}
		unlock := impl.EncodeCommand(impl.KindUnlock, (3*d)%256, mixedBytes(d%41))
		x.take([]string{changed(unlock, d%len(unlock), d)})
		if x.receiver != locked {
			t.Fatalf("a changed block made %s of %s", shown(x.receiver), shown(locked))
		}
		x.take([]string{unlock, unlock})
		x.checkClearRound(t)
		for len(x.offered) < 300 || len(x.sender.Waiting) > 0 {
			x.offer(300)
			x.checkClearRound(t)
			x.round(t, &wire{}, &wire{})
		}
		if len(x.taken) != 300 {
			t.Fatalf("of 300 commands, %d were taken", len(x.taken))
		}
	}
}

// Blocks with commands and notices go through channels with bursts and losses.
func TestCommandsThroughAChannel(t *testing.T) {
	for _, loss := range []int{0, 10, 60} {
		up := impl.Channel{Seed: 3 + loss, Burst: 70, Loss: loss}
		down := impl.Channel{Seed: 9 + loss, Burst: 70, Loss: loss}
		send := func(c *impl.Channel, texts []string) []string {
			came := []string{}
			for _, s := range texts {
				next, block := impl.SendBlock(*c, impl.MakeBlock(s))
				*c = next
				if block == "" {
					continue
				}
				if text, _, ok := impl.ReadBlock(block[len(impl.SyncMark):]); ok {
					came = append(came, text)
				}
			}
			return came
		}
		x := newExchange(9, 200)
		for rounds := 0; len(x.offered) < 400 || len(x.sender.Waiting) > 0; rounds++ {
			x.offer(400)
			x.take(send(&up, impl.CommandBlocks(x.sender)))
			x.hear(send(&down, []string{impl.EncodeNotice(impl.NoticeOf(x.receiver))}))
			x.check(t)
			if rounds > 20000 {
				t.Fatalf("after %d rounds, %d commands were taken", rounds, len(x.taken))
			}
		}
		if len(x.taken) != 400 {
			t.Errorf("of 400 commands, %d were taken", len(x.taken))
		}
	}
}

// A receiver that has counted as many commands as it can takes no further one, and says so by
// the number that it expects.
func TestReceiversThatCountNoFurther(t *testing.T) {
	x := newExchange(5, 30)
	x.receiver.Taken = 999998
	x.offer(5)
	for range 3 {
		x.take(impl.CommandBlocks(x.sender))
		x.hear([]string{impl.EncodeNotice(impl.NoticeOf(x.receiver))})
	}
	if x.receiver != (impl.Receiver{Expect: 32, Again: true, Taken: 1000000}) || x.sender.Done != 2 || len(x.sender.Waiting) != 3 || !slices.Equal(x.taken, x.offered[:2]) {
		t.Errorf("unexpected exchange: %s", shown(x.sender, x.receiver, x.taken))
	}
}
