package ino_test

import (
	"bytes"
	"math"
	"testing"

	"clathri/api"
	"clathri/ino"
)

func of(label, at int, gen uint32) api.ID {
	return api.ID{Label: label, At: at, Gen: gen}
}

// may is what the words of the promise say, by numbers of the document, so
// that no answer of the package decides what is tested.
func may(id api.ID) bool {
	if id.Label == -1 {
		return id.At == 0 && id.Gen == 0
	}
	return id.Label >= 0 && id.Label <= 7 && id.At >= 1 && id.At <= 199 && id.Gen != 0
}

// gens is generations of all sorts, such as may not be too: each bit by
// itself, and the ends.
func gens() []uint32 {
	l := []uint32{0, 3, 255, 257, 65535, 65537, 0x01020304, 0xfffefdfc, math.MaxInt32, math.MaxUint32 - 1, math.MaxUint32}
	for bit := range 32 {
		l = append(l, 1<<bit)
	}
	return l
}

// far is numbers that are no label and no place: such as wrap round to one
// that is, and the ends of int.
func far() []int {
	return []int{
		-2, -3, -128, -129, -200, -249, -255, -256, -257, -511, -65535, -65536, -1 << 31, -1 << 32, -1<<32 - 1,
		200, 201, 254, 255, 256, 257, 258, 511, 65535, 65536, 65537, 1<<31 - 1, 1 << 31, 1<<32 - 1, 1 << 32, 1<<32 + 1,
		1<<53 + 1, math.MaxInt, math.MaxInt - 1, math.MinInt, math.MinInt + 1,
	}
}

// each is every label and place within the limits and a little beyond, of
// some generations.
func each(f func(id api.ID)) {
	for label := -3; label <= 10; label++ {
		for at := -3; at <= 203; at++ {
			for _, gen := range gens() {
				f(of(label, at, gen))
			}
		}
	}
}

func mustRefuse(t *testing.T, id api.ID) {
	t.Helper()
	if ino.May(id) {
		t.Errorf("May(%v): yes", id)
	}
	if b := ino.Put(id); len(b) != 0 {
		t.Errorf("Put(%v) is %x", id, b)
	}
}

func mustBe(t *testing.T, id api.ID, want string) {
	t.Helper()
	if !ino.May(id) {
		t.Errorf("May(%v): no", id)
	}
	if b := ino.Put(id); string(b) != want {
		t.Errorf("Put(%v) is %x, not %x", id, b, want)
	}
	if got, ok := ino.Take([]byte(want)); got != id || !ok {
		t.Errorf("Take(%x) is %v, %v, not %v", want, got, ok, id)
	}
}

func mustNotTake(t *testing.T, b []byte) {
	t.Helper()
	if id, ok := ino.Take(b); ok || id != (api.ID{}) {
		t.Errorf("Take(%x) is %v, %v", b, id, ok)
	}
}

func TestRoot(t *testing.T) {
	if got := ino.Root(); got != of(-1, 0, 0) {
		t.Errorf("Root is %v", got)
	}
	mustBe(t, ino.Root(), "\xff\x00\x00\x00\x00\x00\x00")
}

func TestKnownOnes(t *testing.T) {
	mustBe(t, of(0, 1, 1), "\x00\x00\x01\x00\x00\x00\x01")
	mustBe(t, of(7, 199, 1), "\x07\x00\xc7\x00\x00\x00\x01")
	mustBe(t, of(7, 199, math.MaxUint32), "\x07\x00\xc7\xff\xff\xff\xff")
	mustBe(t, of(3, 128, 0x01020304), "\x03\x00\x80\x01\x02\x03\x04")
	mustBe(t, of(1, 2, 0x80000000), "\x01\x00\x02\x80\x00\x00\x00")
	mustBe(t, of(5, 9, 256), "\x05\x00\x09\x00\x00\x01\x00")
}

func TestWhatMayNotBe(t *testing.T) {
	for _, id := range []api.ID{
		{}, of(0, 0, 1), of(0, 1, 0), of(0, 200, 1), of(0, -1, 1), of(8, 1, 1), of(7, 199, 0), of(7, 0, 7),
		of(-1, 0, 1), of(-1, 1, 0), of(-1, 1, 1), of(-1, -1, 0), of(-1, 0, math.MaxUint32), of(-2, 0, 0), of(-2, 1, 1),
		of(255, 0, 0), of(255, 1, 1), of(-256, 1, 1), of(-257, 0, 0),
	} {
		mustRefuse(t, id)
	}
	for _, x := range far() {
		for _, y := range append(far(), -1, 0, 1, 2, 3, 4, 5, 6, 7, 8, 199) {
			for _, gen := range []uint32{0, 1, math.MaxUint32} {
				mustRefuse(t, of(x, y, gen))
				mustRefuse(t, of(y, x, gen))
			}
		}
	}
}

func TestMayInAndAroundTheLimits(t *testing.T) {
	each(func(id api.ID) {
		if got := ino.May(id); got != may(id) {
			t.Errorf("May(%v): %v", id, got)
		}
	})
}

func TestWhatIsPutIsTaken(t *testing.T) {
	each(func(id api.ID) {
		b := ino.Put(id)
		if !may(id) {
			if len(b) != 0 {
				t.Errorf("Put(%v) is %x", id, b)
			}
			return
		}
		want := []byte{byte(id.Label), byte(id.At / 256), byte(id.At), byte(id.Gen / 256 / 256 / 256), byte(id.Gen / 256 / 256), byte(id.Gen / 256), byte(id.Gen)}
		if !bytes.Equal(b, want) {
			t.Errorf("Put(%v) is %x, not %x", id, b, want)
		}
		if got, ok := ino.Take(b); got != id || !ok {
			t.Errorf("Take of the Put of %v is %v, %v", id, got, ok)
		}
	})
}

// TestTakeIsTheOneWhosePutItIs asks every label as a byte with every place as
// bytes, up to some beyond the limits.
func TestTakeIsTheOneWhosePutItIs(t *testing.T) {
	for label := range 256 {
		for at := range 600 {
			for _, gen := range []byte{0, 1, 255} {
				b := []byte{byte(label), byte(at / 256), byte(at), 0, 0, 0, gen}
				want := of(label, at, uint32(gen))
				if label == 255 {
					want.Label = -1
				}
				if !may(want) {
					mustNotTake(t, b)
				} else if got, ok := ino.Take(b); got != want || !ok || !bytes.Equal(ino.Put(got), b) {
					t.Errorf("Take(%x) is %v, %v", b, got, ok)
				}
			}
		}
	}
}

func TestAPlaceHasTwoBytes(t *testing.T) {
	for high := 1; high < 256; high++ {
		for _, low := range []byte{0, 1, 199, 255} {
			mustNotTake(t, []byte{0, byte(high), low, 0, 0, 0, 1})
			mustNotTake(t, []byte{255, byte(high), low, 0, 0, 0, 0})
		}
	}
}

func TestTakeOfAnotherLength(t *testing.T) {
	mustNotTake(t, nil)
	mustNotTake(t, []byte{})
	for _, id := range []api.ID{ino.Root(), of(0, 1, 1), of(7, 199, math.MaxUint32)} {
		b := ino.Put(id)
		for n := range len(b) {
			mustNotTake(t, b[:n])
			mustNotTake(t, b[len(b)-n:])
		}
		for _, more := range []string{"\x00", "\xff", string(b)} {
			mustNotTake(t, append(bytes.Clone(b), more...))
		}
	}
	mustNotTake(t, make([]byte, 7))
	mustNotTake(t, make([]byte, 1000))
	mustNotTake(t, bytes.Repeat([]byte{1}, 1000))
}

func TestTurnedBytes(t *testing.T) {
	for _, id := range []api.ID{ino.Root(), of(0, 1, 1), of(5, 100, 0x01020304)} {
		b := ino.Put(id)
		for i := range b {
			for x := 1; x < 256; x++ {
				turned := bytes.Clone(b)
				turned[i] ^= byte(x)
				got, ok := ino.Take(turned)
				if !ok {
					mustNotTake(t, turned)
				} else if got == id || !bytes.Equal(ino.Put(got), turned) {
					t.Errorf("Take(%x) is %v", turned, got)
				}
			}
		}
	}
}

func TestTakeNeitherChangesNorUsesSpareRoom(t *testing.T) {
	all := []byte{9, 2, 0, 100, 1, 2, 3, 4, 8, 8}
	was := bytes.Clone(all)
	if id, ok := ino.Take(all[1:8]); id != of(2, 100, 0x01020304) || !ok {
		t.Errorf("%v, %v", id, ok)
	}
	mustNotTake(t, all[1:7])
	mustNotTake(t, all[1:9])
	if !bytes.Equal(all, was) {
		t.Errorf("it is %x", all)
	}
}

func TestWhatIsPutIsNewMemory(t *testing.T) {
	one, other := ino.Put(of(1, 2, 3)), ino.Put(of(1, 2, 3))
	clear(one[:cap(one)])
	if !bytes.Equal(other, ino.Put(of(1, 2, 3))) {
		t.Errorf("it is %x", other)
	}
	clear(other[:cap(other)])
	mustBe(t, of(1, 2, 3), "\x01\x00\x02\x00\x00\x00\x03")
}
