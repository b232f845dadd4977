package tests

import (
	"strings"
	"testing"

	"loop.example/g03316/impl"
)

func checkDecodeCommand(t *testing.T, s string, kind, seq int, data string) {
	t.Helper()
	if gotKind, gotSeq, got, ok := impl.DecodeCommand(s); gotKind != kind || gotSeq != seq || got != data || !ok {
		t.Errorf("DecodeCommand(%q) = %s, want %s", s, shown(gotKind, gotSeq, got, ok), shown(kind, seq, data))
	}
}

// checkNoCommand checks that a string is no command block, and that no receiver takes it as one.
func checkNoCommand(t *testing.T, s string) {
	t.Helper()
	if kind, seq, data, ok := impl.DecodeCommand(s); kind != 0 || seq != 0 || data != "" || ok {
		t.Errorf("DecodeCommand(%.60q of %d bytes) = %s, want none", s, len(s), shown(kind, seq, data, ok))
	}
	for _, r := range sampleReceivers() {
		checkNotTaken(t, r, s, r)
	}
}

// commandIn reads a block in another way: it looks at its bytes.
func commandIn(s string) (int, int, string, bool) {
	end := len(s) - 2
	if end < 2 || end > 42 || s[0] > 1 || impl.SealText(s[:end]) != s {
		return 0, 0, "", false
	}
	return int(s[0]), int(s[1]), s[2:end], true
}

// checkAsRead checks that DecodeCommand reads what commandIn reads.
func checkAsRead(t *testing.T, s string) {
	t.Helper()
	if kind, seq, data, ok := commandIn(s); ok {
		checkDecodeCommand(t, s, kind, seq, data)
	} else {
		checkNoCommand(t, s)
	}
}

func checkNotEncoded(t *testing.T, kind, seq int, data string) {
	t.Helper()
	if got := impl.EncodeCommand(kind, seq, data); got != "" {
		t.Errorf("EncodeCommand(%s) = %q", shown(kind, seq, data), got)
	}
}

func TestEncodeKnownCommands(t *testing.T) {
	for _, c := range []struct {
		kind, seq  int
		data, want string
	}{
		{0, 0, "", "\x00\x00\x1d\x0f"},
		{0, 1, "b", "\x00\x01b\xb3\x49"},
		{1, 255, "", "\x01\xff\x30\xce"},
		{1, 7, "az", "\x01\x07az\x90\x22"},
		{0, 200, "\xfa\xfb\xfc\xfd\xfe\xff", "\x00\xc8\xfa\xfb\xfc\xfd\xfe\xff\x4f\xd3"},
		{0, 128, strings.Repeat("\x00", 40), "\x00\x80" + strings.Repeat("\x00", 40) + "\x55\x40"},
	} {
		if got := impl.EncodeCommand(c.kind, c.seq, c.data); got != c.want {
			t.Errorf("EncodeCommand(%s) = %q, want %q", shown(c.kind, c.seq, c.data), got, c.want)
		}
		checkDecodeCommand(t, c.want, c.kind, c.seq, c.data)
	}
}

func TestCommandsGoBack(t *testing.T) {
	for _, kind := range []int{impl.KindData, impl.KindUnlock} {
		for seq := range 256 {
			for _, data := range []string{"", "\x00", "\xff", "a", "\u20ac", mixedBytes(seq % 41), commandData(seq), mixedBytes(40)} {
				s := impl.EncodeCommand(kind, seq, data)
				if s != impl.SealText(string([]byte{byte(kind), byte(seq)})+data) {
					t.Errorf("EncodeCommand(%s) = %q", shown(kind, seq, data), s)
				}
				checkDecodeCommand(t, s, kind, seq, data)
			}
		}
		for i, data := range sampleTexts() {
			if len(data) <= impl.MaxCommand {
				checkDecodeCommand(t, impl.EncodeCommand(kind, i, data), kind, i, data)
			} else {
				checkNotEncoded(t, kind, i, data)
			}
		}
	}
}

func TestCommandsThatAreNotEncoded(t *testing.T) {
	for _, n := range append(numbersAround(0, 1), 48, 255) {
		if n != impl.KindData && n != impl.KindUnlock {
			checkNotEncoded(t, n, 5, "az")
			checkNotEncoded(t, n, 0, "")
		}
	}
	for _, n := range numbersAround(0, 255) {
		for _, kind := range []int{impl.KindData, impl.KindUnlock} {
			if within(n, 0, 255) {
				checkDecodeCommand(t, impl.EncodeCommand(kind, n, "az"), kind, n, "az")
			} else {
				checkNotEncoded(t, kind, n, "az")
			}
		}
	}
	for _, n := range dataLengths() {
		for _, kind := range []int{impl.KindData, impl.KindUnlock} {
			if n <= 40 {
				checkDecodeCommand(t, impl.EncodeCommand(kind, 9, mixedBytes(n)), kind, 9, mixedBytes(n))
			} else {
				checkNotEncoded(t, kind, 9, mixedBytes(n))
			}
		}
	}
	checkNotEncoded(t, 0, 0, strings.Repeat("\u00e9", 21))
}

// sampleBlocks returns command blocks of both kinds, with data of several lengths.
func sampleBlocks() []string {
	list := []string{}
	for kind := range 2 {
		for _, seq := range []int{0, 1, 129, 255} {
			for _, n := range []int{0, 1, 2, 17, 40} {
				list = append(list, impl.EncodeCommand(kind, seq, mixedBytes(n)))
			}
		}
	}
	return append(list, impl.EncodeCommand(0, 0, strings.Repeat("\x00", 40)), impl.EncodeCommand(1, 255, "\xff"))
}

func TestCommandsWithOneByteChanged(t *testing.T) {
	for i, s := range sampleBlocks() {
		for at := range len(s) {
			for by := 1 + i%7; by < 256; by += 7 {
				checkNoCommand(t, changed(s, at, by))
			}
		}
	}
	s := impl.EncodeCommand(0, 9, "az")
	for at := range len(s) {
		for by := 1; by < 256; by++ {
			checkNoCommand(t, changed(s, at, by))
		}
	}
}

func TestCommandsWithOneByteMissing(t *testing.T) {
	for _, s := range sampleBlocks() {
		for at := range len(s) {
			checkAsRead(t, s[:at]+s[at+1:])
		}
	}
	s := impl.EncodeCommand(0, 9, "az")
	for n := range len(s) {
		checkNoCommand(t, s[:n])
		checkNoCommand(t, s[n+1:])
	}
}

// The check of a text does not tell a byte 0 that is added at its end: such a block can be that
// of another command, as long as its data are not too long.
func TestCommandsWithOneByteAdded(t *testing.T) {
	for _, s := range sampleBlocks() {
		for at := range len(s) + 1 {
			for _, b := range []string{"\x00", "\x01", "a", "\x80", "\xff"} {
				checkAsRead(t, s[:at]+b+s[at:])
			}
		}
		for b := range 256 {
			checkAsRead(t, s+string([]byte{byte(b)}))
		}
	}
	s := impl.EncodeCommand(0, 9, "az")
	for b := 1; b < 256; b++ {
		checkNoCommand(t, s+string([]byte{byte(b)}))
		checkNoCommand(t, string([]byte{byte(b)})+s)
	}
	checkDecodeCommand(t, s+"\x00", 0, 9, s[2:5])
	checkNoCommand(t, impl.EncodeCommand(0, 9, mixedBytes(40))+"\x00")
}

// The kind and the length alone decide here, because the check of each text is right.
func TestSealedTextsThatAreNoCommands(t *testing.T) {
	for kind := range 256 {
		for _, data := range []string{"", "az", mixedBytes(40)} {
			s := impl.SealText(string([]byte{byte(kind), byte(kind)}) + data)
			if kind < 2 {
				checkDecodeCommand(t, s, kind, kind, data)
			} else {
				checkNoCommand(t, s)
			}
		}
	}
	for _, n := range append(upTo(60), 255, 256, 258, 298, 300, 5000) {
		for kind := range 2 {
			text := string([]byte{byte(kind)}) + mixedBytes(n)
			switch {
			case within(n, 1, 41):
				checkDecodeCommand(t, impl.SealText(text), kind, int(text[1]), text[2:])
			default:
				checkNoCommand(t, impl.SealText(text))
			}
		}
	}
	checkNoCommand(t, impl.SealText(""))
}

func TestTextsThatAreNoCommands(t *testing.T) {
	for _, s := range sampleTexts() {
		checkAsRead(t, s)
	}
	for _, s := range []string{"", "\x00", "\xff\xff", "\x00\x00", "\x00\x00\x00", "\x00\x00\x00\x00", "\x01\xff\x30\xcf", "az\x00\x00"} {
		checkNoCommand(t, s)
	}
	for _, n := range []int{4, 5, 44, 45, 46, 20000} {
		checkNoCommand(t, strings.Repeat("\x00", n))
		checkNoCommand(t, mixedBytes(n))
	}
}
