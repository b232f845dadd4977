package tests

import (
	"slices"
	"strings"
	"testing"

	"loop.example/g03316/impl"
)

// A voyage is a mission of which the tests know what was given to it and when its records were made.
type voyage struct {
	m        impl.Mission
	segments [][]string
	deck     *deck
	given    []string
	made     []int
}

// newVoyage returns a voyage with a number, which tells all else.
func newVoyage(t *testing.T, number, loss int) *voyage {
	t.Helper()
	orbits := []impl.Orbit{orbit(1, 0, 1), orbit(10, 7, 3), orbit(97, 13, 40), orbit(60, 0, 59), orbit(200, 20, 30)}
	drifts := []impl.Drift{{}, {Rate: -100, Offset: 1000}, {Rate: 100, Offset: 3}, {Rate: -37}, {Rate: 1, Offset: 77}, {Rate: 63, Offset: 500}, {Rate: -1}}
	limits := []impl.Limit{{Param: 1, Low: 3, High: 118}, {Param: 2, High: 110}, {Param: 5, Low: 9, High: 8}}
	plan := []impl.Request{request(2, 100, 300, 40), request(7, 0, 200, 10), request(0, 150, 400, 100), request(90, 20, 50, 9)}
	up := impl.Channel{Seed: 1777 * number % 65536, Burst: 25 * (number % 5), Loss: loss}
	down := impl.Channel{Seed: 31 * number % 65536, Burst: 100 - 50*(number%3), Loss: loss}
	m, ok := impl.NewMission([]int{0, 1, 2, 7, 20, 50}[number%6], drifts[number%7], orbits[number%5], plan[:number%5], up, down, []int{4000, 0, 22, 65, 130}[number/2%5], limits[:number/3%4], filesOf(11*number%600))
	if !ok {
		t.Fatalf("the mission %d is not valid", number)
	}
	kinds := [][5]int{{2, 4, 1, 2, 1}, {1, 3, 0, 5, 1}, {0, 10, 0, 0, 0}, {2, 2, 2, 2, 2}}[number%4]
	v := &voyage{m: m, deck: &deck{state: 777 * number % 65536, kinds: kinds, ahead: []int{5, 60, 300}[number%3]}}
	for _, text := range m.Space.Files {
		v.segments = append(v.segments, segmentsByCutting(text))
	}
	return v
}

// give gives an order, if there is room for it.
func (v *voyage) give(x impl.Order) {
	m, ok := impl.GiveOrder(v.m, x)
	if ok {
		v.given = append(v.given, orderPayload(x))
	}
	v.m = m
}

// step performs a step, and knows the time of what is made in it.
func (v *voyage) step() {
	v.m = impl.StepMission(v.m)
	for len(v.made) < v.m.Space.Board.Made {
		v.made = append(v.made, v.m.Time)
	}
}

// checkCommands checks that what was given is offered in its order, and taken once in its order.
func (v *voyage) checkCommands(t *testing.T) {
	t.Helper()
	m := v.m
	offered := slices.DeleteFunc(slices.Concat(m.Offered, m.Ground.Offers), func(s string) bool { return s[0] != 0 })
	if !slices.Equal(offered, v.given) {
		t.Fatalf("%d orders were given, and %d offered", len(v.given), len(offered))
	}
	r, s := m.Space.Receiver, m.Ground.Sender
	if len(m.Took) > len(m.Offered) || !slices.Equal(m.Took, m.Offered[:len(m.Took)]) || r.Taken != len(m.Took) || r.Expect != len(m.Took)%256 {
		t.Fatalf("%d commands were offered, and %d taken by %s", len(m.Offered), len(m.Took), shown(r))
	}
	if s.Done > r.Taken || s.Done+len(s.Waiting) != len(m.Offered) || r.Locked || m.Bad != 0 {
		t.Fatalf("%d commands were taken, %d are bad, and the sender is %s", r.Taken, m.Bad, shown(s))
	}
	orders := []impl.Order{}
	for _, payload := range m.Took {
		if x, ok := orderIn(payload[1:]); ok && payload[0] == 0 {
			orders = append(orders, x)
		}
	}
	if len(orders) != m.Space.Board.Taken {
		t.Fatalf("%d orders were taken, and the board has %d", len(orders), m.Space.Board.Taken)
	}
	checkOrdersOnce(t, m.Space.Board, orders)
}

// checkRecords checks that all records are somewhere once, that those on the ground were sent, and
// that their true times lie within the bounds that the pairs tell.
func (v *voyage) checkRecords(t *testing.T) {
	t.Helper()
	m, sent := v.m, []int{}
	for _, x := range m.Space.Sent {
		sent = append(sent, x.Id)
	}
	checkBoardRecords(t, m.Space.Board, sent)
	before := -1
	for _, x := range m.Ground.Records {
		at := slices.Index(m.Space.Sent, x)
		if at <= before {
			t.Fatalf("the record %s is on the ground, and was sent as %d behind %d", shown(x), at, before)
		}
		before = at
		low, high := boundsBy(m.Ground.Pairs, x.Time)
		if made := v.made[x.Id]; low > made || high < made-1 {
			t.Fatalf("the record %s was made at %d, which is not within %d and %d", shown(x), made, low, high)
		}
	}
}

// checkFiles checks that all parts on the ground are those of the files on board, and that nothing
// else was told.
func (v *voyage) checkFiles(t *testing.T) {
	t.Helper()
	for i, f := range v.m.Ground.Files {
		text, segments := v.m.Space.Files[i], v.segments[i]
		for k, part := range f.Parts {
			if part != "" && (k >= len(segments) || part != segments[k]) {
				t.Fatalf("the part %d of the file %d is %q", k, i, part)
			}
		}
		whole := f.Size == len(text) && strings.Join(f.Parts, "") == text
		if v.m.Ground.Told[i] && !whole || f.Size != -1 && f.Size != len(text) {
			t.Fatalf("the file %d of %d bytes is %s", i, len(text), shown(f))
		}
	}
}

// check checks the ledger of the mission, and that of the tests.
func (v *voyage) check(t *testing.T) {
	t.Helper()
	if !impl.LedgerOk(v.m) {
		t.Fatalf("at the time %d, the ledger does not hold", v.m.Time)
	}
	for _, p := range v.m.Ground.Pairs {
		if p.Board != shownAt(v.m.Drift, p.True) || p.True > v.m.Time {
			t.Fatalf("at the time %d, there is a pair %s", v.m.Time, shown(p))
		}
	}
	v.checkCommands(t)
	v.checkRecords(t)
	v.checkFiles(t)
}

// fly lets steps follow one another, with orders that are drawn for the first ones.
func (v *voyage) fly(t *testing.T, steps, most int) {
	t.Helper()
	for range steps {
		for range v.deck.below(most) {
			v.give(v.deck.order(v.m.Space.Board))
		}
		v.step()
		v.check(t)
	}
}

// has tells whether all commands are taken, all orders done, and all records that were sent from a
// number on and all files that were asked for are on the ground.
func (v *voyage) has(sent int) bool {
	m := v.m
	if len(m.Took) != len(v.m.Offered) || len(m.Ground.Offers)+len(m.Ground.Sender.Waiting) != 0 || len(m.Space.Board.Orders)+len(m.Space.Board.Recorder.Records) != 0 {
		return false
	}
	for _, file := range m.Space.Board.Asked {
		if text, ok := impl.FileText(m.Ground.Files[file]); !ok || text != m.Space.Files[file] {
			return false
		}
	}
	return !slices.ContainsFunc(m.Space.Sent[sent:], func(x impl.Record) bool { return !slices.Contains(m.Ground.Records, x) })
}

// flyOn lets steps follow one another until everything has arrived.
func (v *voyage) flyOn(t *testing.T, sent int) {
	t.Helper()
	for steps := 0; !v.has(sent); steps++ {
		if v.step(); steps%8 == 0 {
			v.check(t)
		}
		if steps > 6000 || !impl.LedgerOk(v.m) {
			t.Fatalf("%d steps are not enough: %s", steps, shown(v.m.Ground.Sender, v.m.Space.Board.Orders, v.m.Space.Board.Recorder, v.m.Ground.Told))
		}
	}
	v.check(t)
}

// arrive checks that everything arrives under a clear sky.
func (v *voyage) arrive(t *testing.T) {
	t.Helper()
	v.m = impl.ClearSky(v.m)
	v.flyOn(t, len(v.m.Space.Sent))
	if len(v.given) != v.m.Space.Board.Taken || len(v.m.Space.Board.Done) != len(v.given) {
		t.Fatalf("of %d orders, %d are taken and %d done", len(v.given), v.m.Space.Board.Taken, len(v.m.Space.Board.Done))
	}
}

func TestVoyagesUnderAClearSky(t *testing.T) {
	t.Parallel()
	files := 0
	for number := range 30 {
		v := newVoyage(t, number, 0)
		v.m.Orbit = orbit(1, 0, 1)
		v.fly(t, 200, 2)
		// Bursts alone do not lose anything, so that no record is missing.
		v.flyOn(t, 0)
		files += len(v.m.Space.Board.Asked)
		if len(v.m.Ground.Records) != len(v.m.Space.Sent) || len(v.given) < 40 {
			t.Errorf("in the voyage %d, %d of %d records and %d commands arrive", number, len(v.m.Ground.Records), len(v.m.Space.Sent), len(v.given))
		}
	}
	if files < 100 {
		t.Errorf("only %d files were asked for", files)
	}
}

func TestVoyagesWithLosses(t *testing.T) {
	t.Parallel()
	records, lost, dropped, files := 0, 0, 0, 0
	for number := range 60 {
		v := newVoyage(t, number, []int{10, 30, 50, 70, 90, 97}[number/5%6])
		v.fly(t, 250, 2)
		v.arrive(t)
		records, lost = records+len(v.m.Ground.Records), lost+len(v.m.Space.Sent)-len(v.m.Ground.Records)
		dropped, files = dropped+len(v.m.Space.Board.Recorder.Dropped), files+len(v.m.Space.Board.Asked)
	}
	if records < 500 || lost < 100 || dropped < 500 || files < 300 {
		t.Errorf("%d records came, %d were lost, %d given up, and %d files asked for", records, lost, dropped, files)
	}
}

// The weather changes: for some time nothing comes through in one direction or in both.
func TestVoyagesThroughWeather(t *testing.T) {
	t.Parallel()
	for number := range 40 {
		v := newVoyage(t, number, 0)
		for range 12 {
			v.m.Up.Loss = []int{0, 100, 40}[v.deck.below(3)]
			v.m.Down.Loss = []int{100, 0, 30, 80}[v.deck.below(4)]
			v.fly(t, 1+v.deck.below(40), 2)
		}
		v.arrive(t)
	}
}

// At the end of each single step, the ledger holds, too.
func TestLedgersBetweenSteps(t *testing.T) {
	t.Parallel()
	steps := []func(m impl.Mission) impl.Mission{impl.AdvanceBoard, impl.HearUplink, impl.SendDown, impl.HearDown, impl.AskMissing, impl.SendUp}
	for number := range 20 {
		v := newVoyage(t, number, 20*(number%5))
		for range 150 {
			v.give(v.deck.order(v.m.Space.Board))
			for i, step := range steps {
				if v.m = step(v.m); !impl.LedgerOk(v.m) {
					t.Fatalf("in the voyage %d at %d, the ledger does not hold after the step %d", number, v.m.Time, i)
				}
			}
		}
	}
}

// A receiver that was locked is unlocked, and goes on where it was.
func TestVoyagesOfLockedReceivers(t *testing.T) {
	t.Parallel()
	for number := range 12 {
		v := newVoyage(t, number, 10*(number%4))
		v.fly(t, 60, 2)
		before := v.m.Space.Receiver
		v.m.Ups = append(v.m.Ups, commandFlight(v.m.Time, (before.Expect+100)%256, "far"))
		if v.m = impl.HearUplink(v.m); !v.m.Space.Receiver.Locked || !impl.LedgerOk(v.m) {
			t.Fatalf("the receiver is %s", shown(v.m.Space.Receiver))
		}
		for steps := 0; v.m.Space.Receiver.Locked; steps++ {
			v.give(orderAt(30))
			if v.step(); !impl.LedgerOk(v.m) || steps > 3000 {
				t.Fatalf("in the voyage %d, the receiver is still locked", number)
			}
		}
		v.arrive(t)
	}
}
