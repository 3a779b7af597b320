package sum_test

import (
	"bytes"
	"hash/adler32"
	"slices"
	"testing"

	"clathri/sum"
)

// of is the sum that a and c are.
func of(a, c uint32) uint32 {
	return c*65536 + a
}

// plain is the sum by the words of the promise, in whole numbers.
func plain(b []byte) uint32 {
	a, c := 1, 0
	for _, x := range b {
		a = (a + int(x)) % 65521
		c = (c + a) % 65521
	}
	return of(uint32(a), uint32(c))
}

// mixed is n bytes of all kinds, with no short row in them that comes again.
func mixed(n int) []byte {
	b := make([]byte, n)
	state := uint32(n) + 1
	for i := range b {
		state = state*1664525 + 1013904223
		b[i] = byte(state >> 24)
	}
	return b
}

func same(x byte, n int) []byte {
	return bytes.Repeat([]byte{x}, n)
}

func TestNothing(t *testing.T) {
	for _, b := range [][]byte{nil, {}, make([]byte, 0, 9), []byte("abc")[:0]} {
		if got := sum.Sum(b); got != 1 {
			t.Errorf("Sum of nothing: %d", got)
		}
	}
}

func TestKnownOnes(t *testing.T) {
	for text, want := range map[string]uint32{
		"a":                            0x00620062,
		"b":                            0x00630063,
		"ab":                           0x012600c4,
		"ba":                           0x012700c4,
		"abc":                          0x024d0127,
		"message digest":               0x29750586,
		"Wikipedia":                    0x11e60398,
		"\x00":                         0x00010001,
		"\x00\x00":                     0x00020001,
		"\x01":                         0x00020002,
		"\xff":                         0x01000100,
		"\xff\x00":                     0x02000100,
		"\x00\xff":                     0x01010100,
		"abcdefghijklmnopqrstuvwxyz":   0x90860b20,
		"\xf0\xf1\xf2\xf3\xf4\xf5\xf6": 0x1a7f06a6,
	} {
		if got := sum.Sum([]byte(text)); got != want {
			t.Errorf("%q: %08x, not %08x", text, got, want)
		}
	}
}

func TestEachByteAndEachTwo(t *testing.T) {
	for x := range uint32(256) {
		if got := sum.Sum([]byte{byte(x)}); got != of(1+x, 1+x) {
			t.Errorf("%d: %08x", x, got)
		}
		for y := range uint32(256) {
			if got := sum.Sum([]byte{byte(x), byte(y)}); got != of(1+x+y, 1+x+1+x+y) {
				t.Errorf("%d, %d: %08x", x, y, got)
			}
		}
	}
}

// TestWhereCWrapsRound: behind n noughts a is 1 still, and c is n.
func TestWhereCWrapsRound(t *testing.T) {
	for _, x := range []struct {
		n    int
		a, c uint32
	}{
		{32767, 1, 32767},
		{32768, 1, 32768},
		{65519, 1, 65519},
		{65520, 1, 65520},
		{65521, 1, 0},
		{65522, 1, 1},
		{65536, 1, 15},
		{2*65521 - 1, 1, 65520},
		{2 * 65521, 1, 0},
		{3*65521 + 7, 1, 7},
	} {
		if got := sum.Sum(make([]byte, x.n)); got != of(x.a, x.c) {
			t.Errorf("%d noughts: %08x", x.n, got)
		}
	}
}

// TestWhereAWrapsRound: 256 bytes of 255 make a 65281, so that one byte more
// brings it below the modulus, onto it, beyond it. By then c has come to
// 256 + 255 * 256 * 257 / 2 = 8388736, which is 2048 modulo 65521.
func TestWhereAWrapsRound(t *testing.T) {
	for _, x := range []struct {
		last byte
		a, c uint32
	}{
		{238, 65519, 2046},
		{239, 65520, 2047},
		{240, 0, 2048},
		{241, 1, 2049},
		{255, 15, 2063},
	} {
		b := append(same(255, 256), x.last)
		if got := sum.Sum(b); got != of(x.a, x.c) {
			t.Errorf("255 of them, and %d: %08x", x.last, got)
		}
	}
}

// TestEveryLength holds bytes of every length up to some beyond the first
// time that a wraps round against the words of the promise.
func TestEveryLength(t *testing.T) {
	for n := range 700 {
		for _, b := range [][]byte{mixed(n), make([]byte, n), same(1, n), same(127, n), same(128, n), same(255, n)} {
			if got, want := sum.Sum(b), plain(b); got != want {
				t.Fatalf("%x: %08x, not %08x", b, got, want)
			}
		}
	}
}

func TestLongOnes(t *testing.T) {
	for _, n := range []int{5551, 5552, 5553, 65535, 65536, 65537, 1<<20 + 1, 1<<24 - 3} {
		for _, b := range [][]byte{mixed(n), make([]byte, n), same(255, n)} {
			if got, want := sum.Sum(b), adler32.Checksum(b); got != want || n < 1<<20 && got != plain(b) {
				t.Errorf("%d bytes of %d: %08x, not %08x", n, b[0], got, want)
			}
		}
	}
}

// TestTurnedBytes: whatever one byte of a block is turned into is told.
func TestTurnedBytes(t *testing.T) {
	for _, b := range [][]byte{mixed(64), make([]byte, 64), same(255, 64)} {
		want := sum.Sum(b)
		for i, was := range b {
			for x := range 256 {
				b[i] = byte(x)
				if got := sum.Sum(b); (got == want) != (byte(x) == was) {
					t.Errorf("byte %d of %d turned into %d: %08x", i, was, x, got)
				}
			}
			b[i] = was
		}
	}
}

// TestChangedPlaces: two unlike bytes that are next to each other and change
// places are told.
func TestChangedPlaces(t *testing.T) {
	b := mixed(64)
	want := sum.Sum(b)
	for i := range len(b) - 1 {
		b[i], b[i+1] = b[i+1], b[i]
		if got := sum.Sum(b); (got == want) != (b[i] == b[i+1]) {
			t.Errorf("byte %d and the next one: %08x", i, got)
		}
		b[i], b[i+1] = b[i+1], b[i]
	}
}

func TestNothingIsChangedOrKept(t *testing.T) {
	whole := mixed(300)
	was := slices.Clone(whole)
	b := whole[20:200]
	first := sum.Sum(b)
	if !slices.Equal(whole, was) {
		t.Error("the bytes were changed")
	}
	if first != plain(was[20:200]) {
		t.Errorf("a piece: %08x", first)
	}
	sum.Sum(mixed(99))
	if got := sum.Sum(b); got != first {
		t.Errorf("first %08x, then %08x", first, got)
	}
	for i := range whole[200:] {
		whole[200+i]++
	}
	if got := sum.Sum(b); got != first {
		t.Errorf("the spare room was read: %08x, then %08x", first, got)
	}
}
