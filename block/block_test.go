package block_test

import (
	"bytes"
	"encoding/binary"
	"hash/adler32"
	"math"
	"slices"
	"testing"

	"clathri/api"
	"clathri/block"
)

// filled is a block of that kind, its body of all sorts of bytes.
func filled(kind int, seed uint32) api.Block {
	b := api.Block{Kind: kind}
	for i := range b.Body {
		seed = seed*1664525 + 1013904223
		b.Body[i] = byte(seed >> 24)
	}
	return b
}

// of is a block of that kind, each byte of its body x.
func of(kind int, x byte) api.Block {
	b := api.Block{Kind: kind}
	for i := range b.Body {
		b.Body[i] = x
	}
	return b
}

// summed is those bytes, and their sum behind them.
func summed(front []byte) []byte {
	return binary.BigEndian.AppendUint32(bytes.Clone(front), adler32.Checksum(front))
}

// plain is a seal by the words of the promise; of numbers that may not be it
// is what a seal that does not ask for limits would make of them.
func plain(label byte, at int, b api.Block) []byte {
	return summed(append([]byte{byte(b.Kind), label, byte(at >> 8), byte(at)}, b.Body[:]...))
}

// seal is the Seal, which must be told.
func seal(t *testing.T, label byte, at int, b api.Block) []byte {
	t.Helper()
	c, ok := block.Seal(label, at, b)
	if !ok {
		t.Fatalf("Seal(%d, %d) of kind %d: no", label, at, b.Kind)
	}
	return c
}

func mustOpen(t *testing.T, label byte, at int, c []byte, want api.Block) {
	t.Helper()
	if x, ok := block.Open(label, at, c); !ok || x != want {
		t.Errorf("Open(%d, %d, %x): %v, %v", label, at, c, x, ok)
	}
}

func mustNotOpen(t *testing.T, label byte, at int, c []byte) {
	t.Helper()
	if x, ok := block.Open(label, at, c); ok || x != (api.Block{}) {
		t.Errorf("Open(%d, %d, %x): %v, %v", label, at, c, x, ok)
	}
}

// noKinds is kinds that there are not, such as a byte would wrap round to one
// that there is among them, and the ends of int.
func noKinds() []int {
	return []int{
		-1, -2, -248, -255, -256, -1 << 32, math.MinInt, math.MinInt + 1,
		8, 9, 127, 128, 255, 256, 256 + 4, 1 << 16, 1 << 32, 1<<32 + 7, math.MaxInt - 1, math.MaxInt,
	}
}

// noPlaces is the same of places: two bytes would wrap round to one.
func noPlaces() []int {
	return []int{
		-1, -2, -56, -200, -255, -256, -65536, -65536 + 199, -1 << 32, math.MinInt, math.MinInt + 1,
		200, 201, 255, 256, 256 + 5, 65535, 65536, 65536 + 5, 1<<31 - 1, 1 << 32, 1<<32 + 199, math.MaxInt - 1, math.MaxInt,
	}
}

func TestSealOfKnownOnes(t *testing.T) {
	for _, x := range []struct {
		label byte
		at    int
		b     api.Block
		head  string
		tail  string
	}{
		{0, 0, of(0, 0), "\x00\x00\x00\x00", "\x00\x3c\x00\x01"},
		{0, 0, of(7, 0), "\x07\x00\x00\x00", "\x01\xe0\x00\x08"},
		{0x3f, 0xc7, of(4, 0), "\x04\x3f\x00\xc7", "\x3c\x00\x01\x0b"},
		{1, 1, of(1, 1), "\x01\x01\x00\x01", "\x07\x28\x00\x3c"},
		{0xff, 199, of(7, 255), "\x07\xff\x00\xc7", "\x9f\x12\x39\x96"},
	} {
		want := x.head + string(x.b.Body[:]) + x.tail
		if c, ok := block.Seal(x.label, x.at, x.b); !ok || string(c) != want {
			t.Errorf("Seal(%d, %d) of kind %d: %x, %v, not %x", x.label, x.at, x.b.Kind, c, ok, want)
		}
		mustOpen(t, x.label, x.at, []byte(want), x.b)
	}
}

// TestWhereEachByteIs: each part of a seal is where the promise lays it.
func TestWhereEachByteIs(t *testing.T) {
	b := filled(5, 1)
	c := seal(t, 0x2a, 0x91, b)
	if len(c) != 64 {
		t.Fatalf("%d bytes", len(c))
	}
	if c[0] != 5 || c[1] != 0x2a || c[2] != 0 || c[3] != 0x91 || !bytes.Equal(c[4:60], b.Body[:]) {
		t.Errorf("%x", c)
	}
	if got, want := binary.BigEndian.Uint32(c[60:]), adler32.Checksum(c[:60]); got != want {
		t.Errorf("the sum: %08x, not %08x", got, want)
	}
}

// TestEachKindLabelAndPlace goes through all that may be sealed but for
// bodies. A label is any byte, be there such a label or not.
func TestEachKindLabelAndPlace(t *testing.T) {
	for kind := range 8 {
		for at := range 200 {
			for label := range 256 {
				b := filled(kind, uint32(at*256+label))
				c, ok := block.Seal(byte(label), at, b)
				if !ok || !bytes.Equal(c, plain(byte(label), at, b)) {
					t.Fatalf("Seal(%d, %d) of kind %d: %x, %v", label, at, kind, c, ok)
				}
				if x, ok := block.Open(byte(label), at, c); !ok || x != b {
					t.Fatalf("Open(%d, %d, %x): %v, %v", label, at, c, x, ok)
				}
			}
		}
	}
}

func TestBodies(t *testing.T) {
	for x := range 256 {
		for _, b := range []api.Block{of(x%8, byte(x)), filled(x%8, uint32(x))} {
			c := seal(t, 7, x%200, b)
			if !bytes.Equal(c, plain(7, x%200, b)) {
				t.Errorf("%x", c)
			}
			mustOpen(t, 7, x%200, c, b)
		}
	}
}

func TestKindsThatMayNotBe(t *testing.T) {
	for _, kind := range noKinds() {
		for _, at := range []int{0, 4, 199} {
			if c, ok := block.Seal(1, at, filled(kind, 3)); ok || len(c) != 0 {
				t.Errorf("kind %d at %d: %x, %v", kind, at, c, ok)
			}
		}
	}
}

func TestPlacesThatMayNotBe(t *testing.T) {
	for _, at := range noPlaces() {
		for kind := range 8 {
			if c, ok := block.Seal(1, at, filled(kind, 3)); ok || len(c) != 0 {
				t.Errorf("kind %d at %d: %x, %v", kind, at, c, ok)
			}
		}
		for _, kind := range noKinds() {
			if c, ok := block.Seal(1, at, filled(kind, 3)); ok || len(c) != 0 {
				t.Errorf("kind %d at %d: %x, %v", kind, at, c, ok)
			}
		}
	}
}

// TestNoOtherByteIsOpened turns each byte of a seal into each other one: the
// sum tells it.
func TestNoOtherByteIsOpened(t *testing.T) {
	for _, b := range []api.Block{of(0, 0), of(7, 255), filled(4, 9)} {
		c := seal(t, 0x2f, 130, b)
		for i, was := range c {
			for x := range 256 {
				c[i] = byte(x)
				if byte(x) == was {
					mustOpen(t, 0x2f, 130, c, b)
				} else {
					mustNotOpen(t, 0x2f, 130, c)
				}
			}
			c[i] = was
		}
	}
}

// TestWhatIsRightlySummed turns each byte ahead of the sum too, but makes the
// sum anew: what then is another block's seal at that place is that block,
// anything else is none.
func TestWhatIsRightlySummed(t *testing.T) {
	const label, at = 0x2f, 130
	front := seal(t, label, at, filled(4, 9))[:60]
	for i, was := range front {
		for x := range 256 {
			front[i] = byte(x)
			c := summed(front)
			switch {
			case i == 0 && x > 7, i > 0 && i < 4 && byte(x) != was:
				mustNotOpen(t, label, at, c)
			default:
				mustOpen(t, label, at, c, api.Block{Kind: int(front[0]), Body: [56]byte(front[4:])})
			}
		}
		front[i] = was
	}
}

// TestOpenAtNoPlace: a seal that does not ask for limits is not opened, at the
// place that it was made of, or at what its bytes say.
func TestOpenAtNoPlace(t *testing.T) {
	for _, at := range noPlaces() {
		c := plain(1, at, filled(4, 5))
		mustNotOpen(t, 1, at, c)
		mustNotOpen(t, 1, at, seal(t, 1, 5, filled(4, 5)))
		if said := int(c[2])<<8 | int(c[3]); said >= 200 {
			mustNotOpen(t, 1, said, c)
		}
	}
}

func TestOpenOfNoKind(t *testing.T) {
	for kind := 8; kind < 256; kind++ {
		for _, at := range []int{0, 5, 199} {
			mustNotOpen(t, 1, at, plain(1, at, filled(kind, 5)))
		}
	}
}

// TestOpenedAtItsPlaceAlone opens each of some seals at the places of all.
func TestOpenedAtItsPlaceAlone(t *testing.T) {
	labels := []byte{0, 1, 2, 0x0f, 0x10, 0x3f, 0x40, 0xff}
	b := filled(4, 2)
	for _, label := range labels {
		for at := range 200 {
			c := seal(t, label, at, b)
			for _, other := range labels {
				for _, place := range []int{at - 1, at, at + 1, 199 - at, 0, 199, int(other), at + 256, at + 65536} {
					if other == label && place == at {
						mustOpen(t, other, place, c, b)
					} else {
						mustNotOpen(t, other, place, c)
					}
				}
			}
		}
	}
}

func TestOpenOfOtherLengths(t *testing.T) {
	b := filled(4, 6)
	c := seal(t, 3, 9, b)
	long := append(bytes.Clone(c), c...)
	for n := range long {
		if n == 64 {
			mustOpen(t, 3, 9, long[:n], b)
			continue
		}
		mustNotOpen(t, 3, 9, long[:n])
		mustNotOpen(t, 3, 9, make([]byte, n))
	}
	mustNotOpen(t, 3, 9, nil)
	mustNotOpen(t, 3, 9, long[1:65])

	// The sum is the last four bytes of these too.
	for _, n := range []int{4, 59, 61} {
		mustNotOpen(t, 3, 9, summed(long[:n]))
	}
}

func TestOpenOfNoughts(t *testing.T) {
	for at := range 200 {
		mustNotOpen(t, 0, at, make([]byte, 64))
		mustNotOpen(t, 0xff, at, bytes.Repeat([]byte{255}, 64))
	}
}

// TestSumsThatAreNot: the sum in another order of bytes, or of more or fewer
// of them, is not the sum.
func TestSumsThatAreNot(t *testing.T) {
	c := seal(t, 3, 9, filled(4, 6))
	for _, sum := range []uint32{
		0, 1, binary.LittleEndian.Uint32(c[60:]), binary.BigEndian.Uint32(c[60:])<<16 | binary.BigEndian.Uint32(c[60:])>>16,
		adler32.Checksum(c[1:60]), adler32.Checksum(c[4:60]), adler32.Checksum(c[:59]), adler32.Checksum(c),
	} {
		mustNotOpen(t, 3, 9, binary.BigEndian.AppendUint32(bytes.Clone(c[:60]), sum))
	}
}

func TestNothingIsChangedOrKept(t *testing.T) {
	b := filled(4, 8)
	spare := filled(0, 4)
	whole := append(seal(t, 3, 9, b), spare.Body[:]...)
	was := slices.Clone(whole)
	x, ok := block.Open(3, 9, whole[:64])
	if !ok || x != b || !slices.Equal(whole, was) {
		t.Errorf("Open: %v, %v, of %x", x, ok, whole)
	}
	mustNotOpen(t, 3, 8, whole[:64])
	mustNotOpen(t, 3, 9, whole[:63])
	if !slices.Equal(whole, was) {
		t.Errorf("bytes that are not opened: %x", whole)
	}
	clear(whole)
	if x != b {
		t.Error("what was opened hangs on the bytes yet")
	}
	mustNotOpen(t, 3, 9, whole[:64])
}

// TestEachSealIsNew: what is done to one, its spare room too, is not seen in
// another.
func TestEachSealIsNew(t *testing.T) {
	b := filled(4, 8)
	first, second := seal(t, 3, 9, b), seal(t, 3, 9, b)
	if !slices.Equal(first, second) {
		t.Fatalf("%x, then %x", first, second)
	}
	clear(first[:cap(first)])
	if want := plain(3, 9, b); !slices.Equal(second, want) || !slices.Equal(seal(t, 3, 9, b), want) {
		t.Error("they share memory")
	}
	if b != filled(4, 8) {
		t.Error("the block was changed")
	}
}

// TestWhatIsOpenedIsSealedSo: of any bytes with a right sum, those that are
// opened are just those that the opened block is sealed as.
func TestWhatIsOpenedIsSealedSo(t *testing.T) {
	opened := 0
	for seed := range uint32(20000) {
		f := filled(0, seed).Body
		label, at := f[1]%4, int(f[2])
		c := summed(append([]byte{f[3] % 12, f[4] % 4, 0, byte(at)}, f[:]...))
		x, ok := block.Open(label, at, c)
		may := c[0] <= 7 && c[1] == label && at < 200
		if ok != may {
			t.Fatalf("Open(%d, %d, %x): %v", label, at, c, ok)
		}
		if !ok {
			continue
		}
		opened++
		if again := seal(t, label, at, x); !bytes.Equal(again, c) {
			t.Fatalf("opened %x, sealed %x", c, again)
		}
	}
	if opened < 1000 {
		t.Errorf("only %d were opened", opened)
	}
}
