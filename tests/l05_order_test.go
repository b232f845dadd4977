package tests

import (
	"testing"

	"loop.example/g03316/impl"
)

// orderKinds are the kinds of orders, each with its greatest A and B.
var orderKinds = []impl.Order{
	{Kind: impl.OrderSet, A: 7, B: 65535}, {Kind: impl.OrderRecord, A: 3}, {Kind: impl.OrderSafe, A: 1},
	{Kind: impl.OrderFile, A: 7}, {Kind: impl.OrderCancel, A: 255},
}

// isOrder reports in another way whether an order is valid.
func isOrder(x impl.Order) bool {
	for _, k := range orderKinds {
		if k.Kind == x.Kind {
			return within(x.At, 0, 1000000) && within(x.A, 0, k.A) && within(x.B, 0, k.B)
		}
	}
	return false
}

// orderText encodes an order in another way.
func orderText(x impl.Order) string {
	return string([]byte{byte(x.Kind), byte(x.At / 65536), byte(x.At / 256 % 256), byte(x.At % 256), byte(x.A), byte(x.B / 256), byte(x.B % 256)})
}

// orderIn reads an order in another way.
func orderIn(s string) (impl.Order, bool) {
	if len(s) != 7 {
		return impl.Order{}, false
	}
	x := impl.Order{Kind: int(s[0]), At: int(s[1])*65536 + int(s[2])*256 + int(s[3]), A: int(s[4]), B: int(s[5])*256 + int(s[6])}
	if !isOrder(x) {
		return impl.Order{}, false
	}
	return x, true
}

func checkOrder(t *testing.T, x impl.Order) {
	t.Helper()
	if got := impl.OrderOk(x); got != isOrder(x) {
		t.Errorf("OrderOk(%+v) = %v", x, got)
	}
	want := ""
	if isOrder(x) {
		want = orderText(x)
		checkOrderText(t, want)
	}
	if got := impl.EncodeOrder(x); got != want {
		t.Errorf("EncodeOrder(%+v) = %q, want %q", x, got, want)
	}
}

func checkOrderText(t *testing.T, s string) {
	t.Helper()
	want, wantOk := orderIn(s)
	if got, ok := impl.DecodeOrder(s); got != want || ok != wantOk {
		t.Errorf("DecodeOrder(%.60q) = %+v, %v, want %+v, %v", s, got, ok, want, wantOk)
	}
}

// sampleOrders returns orders of all kinds, with numbers at the ends of their ranges and between.
func sampleOrders() []impl.Order {
	list := []impl.Order{}
	for _, k := range orderKinds {
		for _, at := range []int{0, 1, 255, 256, 258, 65535, 65536, 66051, 999999, 1000000} {
			for _, a := range []int{0, 1, k.A / 2, k.A} {
				for _, b := range []int{0, k.B / 257, k.B / 2, k.B} {
					list = append(list, impl.Order{Kind: k.Kind, At: at, A: a, B: b})
				}
			}
		}
	}
	return list
}

func TestConstantsOfTheBoard(t *testing.T) {
	got := []int{
		impl.MaxParams, impl.MaxOrders, impl.MaxTime, impl.MaxValue, impl.MaxRoom, impl.RecordHead, impl.MaxRecordData,
		impl.OrderSet, impl.OrderRecord, impl.OrderSafe, impl.OrderFile, impl.OrderCancel,
	}
	for i, want := range []int{8, 40, 1000000, 65535, 4000, 6, 34, 0, 1, 2, 3, 4} {
		if got[i] != want {
			t.Errorf("the constant %d is %d, want %d", i, got[i], want)
		}
	}
}

func TestOrdersWithEachNumberOutOfRange(t *testing.T) {
	for _, k := range orderKinds {
		for _, n := range append(numbersAround(0, 1000000), 16777215, 16777216) {
			checkOrder(t, impl.Order{Kind: k.Kind, At: n, A: k.A, B: k.B})
			checkOrder(t, impl.Order{Kind: k.Kind, At: n})
		}
		for _, high := range []int{1, 3, 7, 255, 256} {
			for _, n := range numbersAround(0, high) {
				checkOrder(t, impl.Order{Kind: k.Kind, At: 5, A: n, B: k.B})
				checkOrder(t, impl.Order{Kind: k.Kind, A: n})
			}
		}
		for _, n := range append(numbersAround(0, 65535), 256, 65536) {
			checkOrder(t, impl.Order{Kind: k.Kind, At: 5, A: k.A, B: n})
			checkOrder(t, impl.Order{Kind: k.Kind, B: n})
		}
	}
	for _, n := range append(numbersAround(0, 4), 5, 6, 255, 256, 260) {
		checkOrder(t, impl.Order{Kind: n})
		checkOrder(t, impl.Order{Kind: n, At: 1000000, A: 1})
		checkOrder(t, impl.Order{Kind: n, At: 9, A: 1, B: 1})
	}
}

func TestKnownOrders(t *testing.T) {
	for _, c := range []struct {
		x impl.Order
		s string
	}{
		{impl.Order{}, "\x00\x00\x00\x00\x00\x00\x00"},
		{impl.Order{Kind: impl.OrderSet, At: 1000000, A: 7, B: 65535}, "\x00\x0f\x42\x40\x07\xff\xff"},
		{impl.Order{Kind: impl.OrderSet, At: 66051, A: 4, B: 1286}, "\x00\x01\x02\x03\x04\x05\x06"},
		{impl.Order{Kind: impl.OrderRecord, At: 255, A: 3}, "\x01\x00\x00\xff\x03\x00\x00"},
		{impl.Order{Kind: impl.OrderSafe, At: 256, A: 1}, "\x02\x00\x01\x00\x01\x00\x00"},
		{impl.Order{Kind: impl.OrderFile, At: 65536, A: 7}, "\x03\x01\x00\x00\x07\x00\x00"},
		{impl.Order{Kind: impl.OrderCancel, At: 10, A: 255}, "\x04\x00\x00\x0a\xff\x00\x00"},
	} {
		if got := impl.EncodeOrder(c.x); got != c.s {
			t.Errorf("EncodeOrder(%+v) = %q, want %q", c.x, got, c.s)
		}
		if got, ok := impl.DecodeOrder(c.s); got != c.x || !ok {
			t.Errorf("DecodeOrder(%q) = %+v, %v, want %+v", c.s, got, ok, c.x)
		}
	}
	for _, s := range []string{
		"\x05\x00\x00\x01\x00\x00\x00", "\xff\x00\x00\x01\x00\x00\x00", "\x00\x0f\x42\x41\x00\x00\x00", "\x00\xff\xff\xff\x00\x00\x00",
		"\x00\x00\x00\x01\x08\x00\x00", "\x01\x00\x00\x01\x04\x00\x00", "\x02\x00\x00\x01\x02\x00\x00", "\x03\x00\x00\x01\x08\x00\x00",
		"\x01\x00\x00\x01\x00\x00\x01", "\x02\x00\x00\x01\x00\x01\x00", "\x03\x00\x00\x01\x00\xff\xff", "\x04\x00\x00\x01\x00\x00\x01",
	} {
		if got, ok := impl.DecodeOrder(s); got != (impl.Order{}) || ok {
			t.Errorf("DecodeOrder(%q) = %+v, %v, want none", s, got, ok)
		}
	}
}

func TestOrdersGoBack(t *testing.T) {
	for _, x := range sampleOrders() {
		checkOrder(t, x)
		if got, ok := impl.DecodeOrder(impl.EncodeOrder(x)); got != x || !ok {
			t.Errorf("%+v comes back as %+v, %v", x, got, ok)
		}
	}
	for _, k := range orderKinds {
		for a := range k.A + 1 {
			checkOrder(t, impl.Order{Kind: k.Kind, At: 77, A: a, B: k.B})
		}
	}
}

func TestTextsOfOrdersWithAByteMissingOrAdded(t *testing.T) {
	for _, x := range sampleOrders() {
		s := impl.EncodeOrder(x)
		for at := range len(s) {
			checkOrderText(t, s[:at])
			checkOrderText(t, s[at:])
			checkOrderText(t, s[:at]+s[at+1:])
			for _, added := range []string{"\x00", "\x01", "\xff", "\u20ac"} {
				checkOrderText(t, s[:at]+added+s[at:])
			}
		}
		for _, added := range []string{"\x00", "\x01", "\xff", s} {
			checkOrderText(t, s+added)
		}
	}
}

func TestTextsWithEachByte(t *testing.T) {
	for _, k := range orderKinds {
		for _, x := range []impl.Order{{Kind: k.Kind}, k, {Kind: k.Kind, At: 1000000}, {Kind: k.Kind, At: 999936, A: k.A, B: k.B}} {
			s := impl.EncodeOrder(x)
			for at := range len(s) {
				for by := range 256 {
					checkOrderText(t, changed(s, at, by))
				}
			}
		}
	}
	for _, s := range sampleTexts() {
		checkOrderText(t, s)
	}
	state := 5
	for range 20000 {
		list := make([]byte, 7)
		for i := range list {
			n := 0
			state, n = draw(state, 256)
			list[i] = byte(n)
		}
		list[0] %= 8
		list[1] %= 20
		list[4] %= 10
		if n := list[6]; n%2 == 0 {
			list[5], list[6] = 0, 0
		}
		checkOrderText(t, string(list))
	}
}
