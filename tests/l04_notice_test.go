package tests

import (
	"slices"
	"testing"

	"loop.example/g03316/impl"
)

func checkNoNotice(t *testing.T, s string) {
	t.Helper()
	if n, ok := impl.DecodeNotice(s); ok || n != (impl.Notice{}) {
		t.Errorf("DecodeNotice(%.40q of %d bytes) = %s, want none", s, len(s), shown(n, ok))
	}
}

func checkHearNotice(t *testing.T, s impl.Sender, n impl.Notice, want impl.Sender) {
	t.Helper()
	if got := impl.HearNotice(s, n); !sameSenders(got, want) {
		t.Errorf("HearNotice(%s) = %s, want %s", shown(s, n), shown(got), shown(want))
	}
}

// noticesWith returns the notices of all four kinds with an Expect.
func noticesWith(expect int) []impl.Notice {
	return []impl.Notice{
		{Expect: expect},
		{Expect: expect, Locked: true},
		{Expect: expect, Again: true},
		{Expect: expect, Locked: true, Again: true},
	}
}

func TestEncodeNotice(t *testing.T) {
	for expect := range 256 {
		for i, n := range noticesWith(expect) {
			if got := impl.EncodeNotice(n); got != string([]byte{byte(expect), byte(i)}) {
				t.Errorf("EncodeNotice(%s) = %q", shown(n), got)
			}
		}
	}
	for _, expect := range numbersAround(0, 255) {
		for _, n := range noticesWith(expect) {
			if got := impl.EncodeNotice(n); len(got) == 2 != within(expect, 0, 255) || len(got)%2 != 0 {
				t.Errorf("EncodeNotice(%s) = %q", shown(n), got)
			}
		}
	}
}

func TestDecodeNotice(t *testing.T) {
	for expect := range 256 {
		for second := range 256 {
			s := string([]byte{byte(expect), byte(second)})
			if second > 3 {
				checkNoNotice(t, s)
				continue
			}
			want := noticesWith(expect)[second]
			if n, ok := impl.DecodeNotice(s); !ok || n != want {
				t.Errorf("DecodeNotice(%q) = %s, want %s", s, shown(n, ok), shown(want))
			}
		}
	}
}

func TestTextsThatAreNoNotices(t *testing.T) {
	checkNoNotice(t, "")
	for b := range 256 {
		one := string([]byte{byte(b)})
		checkNoNotice(t, one)
		for _, n := range noticesWith(7) {
			s := impl.EncodeNotice(n)
			checkNoNotice(t, s+one)
			checkNoNotice(t, one+s)
			checkNoNotice(t, s[:1]+one+s[1:])
		}
	}
	for _, s := range sampleTexts() {
		if len(s) != 2 {
			checkNoNotice(t, s)
		}
	}
	checkNoNotice(t, "\xc3\xa9")
	checkNoNotice(t, "\x07\x04")
	checkNoNotice(t, "\x07\x00\x00\x00")
}

// heard returns what becomes of a sender when its first k commands are known to be taken.
func heard(s impl.Sender, k, done int) impl.Sender {
	return impl.Sender{Next: s.Next, Window: s.Window, Waiting: slices.Clone(s.Waiting[k:]), Done: done}
}

func TestHearKnownNotices(t *testing.T) {
	s := senderOf(2, 254, 255, 0, 1)
	s.Done = 20
	for k, expect := range []int{254, 255, 0, 1, 2} {
		for _, n := range noticesWith(expect) {
			checkHearNotice(t, s, n, heard(s, k, 20+k))
		}
	}
	for _, expect := range []int{3, 4, 22, 128, 252, 253} {
		for _, n := range noticesWith(expect) {
			checkHearNotice(t, s, n, s)
		}
	}
}

// The Expect of each notice is counted from the first one of Waiting on.
func TestHearEachNotice(t *testing.T) {
	for _, seq := range []int{0, 1, 100, 128, 200, 235, 236, 237, 254, 255} {
		for n := range impl.MaxWindow + 1 {
			s := senderFrom(seq, n)
			for d := range 256 {
				want := s
				if n > 0 && d <= n {
					want = heard(s, d, s.Done+d)
				}
				checkHearNotice(t, s, noticesWith((seq + d) % 256)[d%4], want)
			}
		}
	}
}

func TestHearNoticeOfEmptyWaiting(t *testing.T) {
	for next := range 256 {
		s := impl.Sender{Next: next, Window: 20, Done: next}
		for _, d := range []int{0, 1, 20, 255} {
			checkHearNotice(t, s, impl.Notice{Expect: (next + d) % 256}, s)
		}
	}
}

func TestHearNoticeOutOfRange(t *testing.T) {
	for _, s := range []impl.Sender{senderFrom(0, 1), senderFrom(255, 2), senderFrom(236, 20), senderFrom(0, 20)} {
		for _, expect := range append(numbersAround(0, 255), s.Next+256, s.Next-256, s.Waiting[0].Seq+256, s.Waiting[0].Seq-256) {
			if within(expect, 0, 255) {
				continue
			}
			for _, n := range noticesWith(expect) {
				checkHearNotice(t, s, n, s)
			}
		}
	}
}

func TestHearNoticeWithManyDone(t *testing.T) {
	for _, done := range []int{0, 1, 999979, 999980, 999981, 999990, 999998, 999999, 1000000} {
		for _, n := range []int{1, 2, 19, 20} {
			s := senderFrom(250, n)
			s.Done = done
			for k := range n + 1 {
				want := heard(s, k, min(done+k, 1000000))
				checkHearNotice(t, s, impl.Notice{Expect: (250 + k) % 256}, want)
				checkSenderOk(t, impl.HearNotice(s, impl.Notice{Expect: (250 + k) % 256}), true)
			}
		}
	}
	for _, done := range []int{-1, 1000001} {
		s := senderFrom(250, 3)
		s.Done = done
		checkHearNotice(t, s, impl.Notice{Expect: 252}, s)
	}
}
