package tests

import (
	"fmt"
	"math"
	"slices"
	"strings"
)

// farNumbers lie outside every limit of the document, up to the ends of an int of 64 bits.
// Some of them are small numbers again if a program keeps only their low 32 bits.
var farNumbers = []int{
	math.MinInt64, math.MinInt64 + 1, -1 << 62, -1<<32 - 1, -1 << 32, -1<<32 + 1, -65536, -1,
	1 << 32, 1<<32 + 1, 1<<32 + 7, 1 << 40, 1<<62 + 5, math.MaxInt64 - 1, math.MaxInt64,
}

// allBytes returns a string with every byte from 0 to 255, in ascending order.
func allBytes() string {
	list := make([]byte, 256)
	for i := range list {
		list[i] = byte(i)
	}
	return string(list)
}

// mixedBytes returns n bytes that follow no short rule and include bytes above 127.
func mixedBytes(n int) string {
	list := make([]byte, n)
	state := uint32(n) + 1
	for i := range list {
		state = state*1664525 + 1013904223
		list[i] = byte(state >> 24)
	}
	return string(list)
}

// sampleTexts returns strings of many kinds: empty, plain, with whole characters of several
// bytes, with bytes that are no characters, and long ones.
func sampleTexts() []string {
	list := []string{
		"", "\x00", "\xff", "a", "az", "\x00\x00", "\xff\xff", "send 12 x", "123456789",
		"\u00e9", "\u20ac", "\U0001f600", "\ufffd", "a\u00e9\u20ac\U0001f600\ufffdz",
		"\xc3", "\xc3\x28", "\xe2\x82", "\xf0\x9f\x98", "\x80\x80\x80", "\xc3\xa9\xe2\x82\xff",
		allBytes(), strings.Repeat("\x00", 40), strings.Repeat("\u00e9", 50),
	}
	for n := range 40 {
		list = append(list, mixedBytes(n))
	}
	return append(list, mixedBytes(1000))
}

// shown returns values as Go writes them, each one shortened, so that the message of a failed
// test has no raw bytes in it and fits on a screen.
func shown(values ...any) string {
	list := []string{}
	for _, v := range values {
		s := fmt.Sprintf("%#v", v)
		if len(s) > 200 {
			s = strings.ToValidUTF8(s[:200], "") + ".."
		}
		list = append(list, s)
	}
	return strings.Join(list, ", ")
}

// guarded returns a slice with the given elements and spare ones in the capacity behind them, and
// a function that tells whether all of these are as they were.
func guarded[T comparable](list []T, spare ...T) ([]T, func() bool) {
	whole := append(slices.Clone(list), spare...)
	was := slices.Clone(whole)
	return whole[:len(list)], func() bool { return slices.Equal(whole, was) }
}
