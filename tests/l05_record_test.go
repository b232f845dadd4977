package tests

import (
	"strings"
	"testing"

	"loop.example/g03316/impl"
)

// isRecord reports in another way whether a record is valid.
func isRecord(x impl.Record) bool {
	return x.Id >= 0 && x.Id < 65536 && x.Priority >= 0 && x.Priority < 4 && x.Time >= 0 && x.Time <= 1000000 && len(x.Data) < 35
}

// recordText encodes a record in another way.
func recordText(x impl.Record) string {
	return string([]byte{byte(x.Id / 256), byte(x.Id % 256), byte(x.Priority), byte(x.Time / 65536), byte(x.Time / 256 % 256), byte(x.Time % 256)}) + x.Data
}

// recordIn reads a record in another way.
func recordIn(s string) (impl.Record, bool) {
	if len(s) < 6 {
		return impl.Record{}, false
	}
	x := impl.Record{Id: int(s[0])*256 + int(s[1]), Priority: int(s[2]), Time: int(s[3])*65536 + int(s[4])*256 + int(s[5]), Data: s[6:]}
	if !isRecord(x) {
		return impl.Record{}, false
	}
	return x, true
}

func checkRecord(t *testing.T, x impl.Record) {
	t.Helper()
	if got := impl.RecordOk(x); got != isRecord(x) {
		t.Errorf("RecordOk(%s) = %v", shown(x), got)
	}
	want := ""
	if isRecord(x) {
		want = recordText(x)
		checkRecordText(t, want)
	}
	if got := impl.EncodeRecord(x); got != want {
		t.Errorf("EncodeRecord(%s) = %.60q, want %.60q", shown(x), got, want)
	}
}

func checkRecordText(t *testing.T, s string) {
	t.Helper()
	want, wantOk := recordIn(s)
	if got, ok := impl.DecodeRecord(s); got != want || ok != wantOk {
		t.Errorf("DecodeRecord(%.60q) = %s, want %s", s, shown(got, ok), shown(want, wantOk))
	}
}

func TestKnownRecords(t *testing.T) {
	for _, c := range []struct {
		x impl.Record
		s string
	}{
		{impl.Record{}, "\x00\x00\x00\x00\x00\x00"},
		{impl.Record{Id: 65535, Priority: 3, Time: 1000000, Data: "\xff\x00"}, "\xff\xff\x03\x0f\x42\x40\xff\x00"},
		{impl.Record{Id: 258, Priority: 2, Time: 197637, Data: "az"}, "\x01\x02\x02\x03\x04\x05az"},
		{impl.Record{Id: 1, Time: 9, Data: strings.Repeat("\u00e9", 17)}, "\x00\x01\x00\x00\x00\x09" + strings.Repeat("\xc3\xa9", 17)},
	} {
		if got := impl.EncodeRecord(c.x); got != c.s {
			t.Errorf("EncodeRecord(%s) = %q, want %q", shown(c.x), got, c.s)
		}
		if got, ok := impl.DecodeRecord(c.s); got != c.x || !ok {
			t.Errorf("DecodeRecord(%q) = %s, want %s", c.s, shown(got, ok), shown(c.x))
		}
	}
	for _, s := range []string{
		"", "\x00", "\x00\x00\x00\x00\x00", "\x00\x00\x04\x00\x00\x00", "\x00\x00\xff\x00\x00\x00", "\x00\x00\x00\x0f\x42\x41",
		"\x00\x00\x00\xff\xff\xff", "\x00\x00\x00\x00\x00\x00" + strings.Repeat("z", 35),
	} {
		if got, ok := impl.DecodeRecord(s); got != (impl.Record{}) || ok {
			t.Errorf("DecodeRecord(%q) = %s, want none", s, shown(got, ok))
		}
	}
}

func TestRecordsWithEachNumberOutOfRange(t *testing.T) {
	for _, n := range append(numbersAround(0, 65535), 255, 256, 32768, 131072) {
		checkRecord(t, impl.Record{Id: n})
		checkRecord(t, impl.Record{Id: n, Priority: 3, Time: 1000000, Data: mixedBytes(34)})
	}
	for _, n := range append(numbersAround(0, 3), 255, 256, 259) {
		checkRecord(t, impl.Record{Priority: n})
		checkRecord(t, impl.Record{Id: 65535, Priority: n, Time: 1000000, Data: mixedBytes(34)})
	}
	for _, n := range append(numbersAround(0, 1000000), 65535, 65536, 16777215, 16777216) {
		checkRecord(t, impl.Record{Time: n})
		checkRecord(t, impl.Record{Id: 65535, Priority: 3, Time: n, Data: mixedBytes(34)})
	}
	for _, n := range dataLengths() {
		checkRecord(t, impl.Record{Data: mixedBytes(n)})
		checkRecord(t, impl.Record{Id: 65535, Priority: 3, Time: 1000000, Data: mixedBytes(n)})
	}
	// Bytes are counted, not characters.
	checkRecord(t, impl.Record{Data: strings.Repeat("\u20ac", 11) + "z"})
	checkRecord(t, impl.Record{Data: strings.Repeat("\u20ac", 12)})
}

func TestRecordsGoBack(t *testing.T) {
	for _, id := range []int{0, 1, 255, 256, 4660, 65535} {
		for priority := range 4 {
			for _, time := range []int{0, 1, 255, 256, 65536, 123456, 1000000} {
				for n := range 35 {
					x := impl.Record{Id: id, Priority: priority, Time: time, Data: mixedBytes(n)}
					s := impl.EncodeRecord(x)
					if got, ok := impl.DecodeRecord(s); got != x || !ok || len(s) != 6+n {
						t.Errorf("%s comes back as %s", shown(x), shown(got, ok))
					}
				}
			}
		}
	}
	for at := 0; at+34 <= 256; at += 34 {
		checkRecord(t, impl.Record{Id: at, Data: allBytes()[at : at+34]})
	}
}

func TestTextsOfRecords(t *testing.T) {
	for _, n := range dataLengths() {
		checkRecordText(t, mixedBytes(n))
		checkRecordText(t, strings.Repeat("\x00", n))
		checkRecordText(t, "\xff\xff\x03\x0f\x42\x40"+mixedBytes(n))
	}
	for _, x := range []impl.Record{{}, {Id: 258, Priority: 3, Time: 999936, Data: "\xffz"}, {Id: 65535, Priority: 3, Time: 1000000, Data: mixedBytes(34)}} {
		s := impl.EncodeRecord(x)
		for at := range len(s) {
			checkRecordText(t, s[:at])
			checkRecordText(t, s[:at]+s[at+1:])
			checkRecordText(t, s[:at]+"\x00"+s[at:])
			for by := range 256 {
				checkRecordText(t, changed(s, at, by))
			}
		}
	}
	for _, s := range sampleTexts() {
		checkRecordText(t, s)
	}
}
