package dev_test

import (
	"bytes"
	"math"
	"slices"
	"testing"

	"clathri/dev"
)

// noPlaces is numbers that are no region of a device of at most eight, and no
// block of a region of at most 1,000.
var noPlaces = []int{-1, -2, -8, 1000, 1001, 65535, 65536, 1 << 32, math.MaxInt, math.MinInt}

// full is a block of one byte.
func full(x byte) []byte {
	return bytes.Repeat([]byte{x}, 64)
}

// device is a device of regions of so many blocks.
func device(t *testing.T, sizes ...int) *dev.Dev {
	t.Helper()
	d, ok := dev.New(sizes)
	if !ok || d == nil {
		t.Fatalf("New(%v): no", sizes)
	}
	return d
}

// write is a Write that must be answered by yes.
func write(t *testing.T, d *dev.Dev, region, i int, x byte) {
	t.Helper()
	if !d.Write(region, i, full(x)) {
		t.Fatalf("Write(%d, %d): no", region, i)
	}
}

// barrier is a Barrier that must be answered by yes.
func barrier(t *testing.T, d *dev.Dev, region int) {
	t.Helper()
	if !d.Barrier(region) {
		t.Fatalf("Barrier(%d): no", region)
	}
}

// shows holds the region's blocks against full ones, a letter each; a dot is
// a block of noughts.
func shows(t *testing.T, d *dev.Dev, region int, want string) {
	t.Helper()
	for i := range len(want) {
		x := want[i]
		if x == '.' {
			x = 0
		}
		if b, ok := d.Read(region, i); !ok || !bytes.Equal(b, full(x)) {
			t.Errorf("block %d of region %d: %q %v, not %q", i, region, b, ok, want[i])
		}
	}
	if b, ok := d.Read(region, len(want)); ok || len(b) != 0 {
		t.Errorf("region %d has more than %d blocks", region, len(want))
	}
}

// traces holds the region's trace against letters: a write is its block as a
// digit and its letter, a Barrier a bar.
func traces(t *testing.T, d *dev.Dev, region int, want string) {
	t.Helper()
	var l [][]byte
	for i := 0; i < len(want); i++ {
		if want[i] == '|' {
			l = append(l, []byte{255, 255})
			continue
		}
		l = append(l, append([]byte{0, want[i] - '0'}, full(want[i+1])...))
		i++
	}
	if got := d.Trace(region); !slices.EqualFunc(got, l, bytes.Equal) {
		t.Errorf("trace of region %d: %q, not %q", region, got, want)
	}
}

func TestNewOfRightSizes(t *testing.T) {
	for _, sizes := range [][]int{
		{1}, {2}, {999}, {1000}, {1, 1000}, {1000, 1}, {5, 1, 7},
		{1, 2, 3, 4, 5, 6, 7}, {8, 7, 6, 5, 4, 3, 2, 1},
		{1000, 1000, 1000, 1000, 1000, 1000, 1000, 1000},
	} {
		d := device(t, sizes...)
		if got := d.Regions(); got != len(sizes) {
			t.Errorf("%v: %d regions", sizes, got)
		}
		if d.Stopped() {
			t.Errorf("%v: stopped", sizes)
		}
		for region, n := range sizes {
			shows(t, d, region, string(bytes.Repeat([]byte("."), n)))
			traces(t, d, region, "")
		}
	}
}

func TestNewOfWrongSizes(t *testing.T) {
	wrong := [][]int{nil, {}, slices.Repeat([]int{1}, 9), slices.Repeat([]int{1}, 10), slices.Repeat([]int{5}, 256+1)}
	for _, n := range []int{0, -1, -1000, 1001, 1002, 65536 + 1, 1<<32 + 1, math.MaxInt, math.MinInt} {
		wrong = append(wrong, []int{n}, []int{n, 1, 1}, []int{1, n, 1}, []int{1, 1, n})
	}
	for _, sizes := range wrong {
		if d, ok := dev.New(sizes); ok || d != nil {
			t.Errorf("New(%v): yes", sizes)
		}
	}
}

func TestNewBySize(t *testing.T) {
	for n := -5; n <= 1005; n++ {
		if _, ok := dev.New([]int{n}); ok != (n >= 1 && n <= 1000) {
			t.Errorf("New of one region of %d: %v", n, ok)
		}
	}
	for n := range 20 {
		if _, ok := dev.New(slices.Repeat([]int{3}, n)); ok != (n >= 1 && n <= 8) {
			t.Errorf("New of %d regions: %v", n, ok)
		}
	}
}

func TestWhatIsWrittenIsRead(t *testing.T) {
	d := device(t, 3, 2)
	write(t, d, 0, 1, 'a')
	shows(t, d, 0, ".a.")
	write(t, d, 1, 0, 'b')
	write(t, d, 0, 0, 'c')
	shows(t, d, 0, "ca.")
	shows(t, d, 1, "b.")
	write(t, d, 0, 1, 'd')
	shows(t, d, 0, "cd.")
	write(t, d, 0, 0, 0)
	shows(t, d, 0, ".d.")
	barrier(t, d, 0)
	shows(t, d, 0, ".d.")
	shows(t, d, 1, "b.")
}

// TestEveryBlock writes each block of a device that is as great as may be, so
// that two that were one would be told.
func TestEveryBlock(t *testing.T) {
	d := device(t, slices.Repeat([]int{1000}, 8)...)
	of := func(region, i int) []byte {
		b := make([]byte, 64)
		for k := range b {
			b[k] = byte(k*7 + region*31 + i + i/256*13)
		}
		b[0], b[31], b[63] = byte(region), byte(i/256), byte(i%256)
		return b
	}
	for region := range 8 {
		for i := range 1000 {
			if !d.Write(region, i, of(region, i)) {
				t.Fatalf("Write(%d, %d): no", region, i)
			}
		}
	}
	for region := range 8 {
		trace := d.Trace(region)
		if len(trace) != 1000 {
			t.Fatalf("region %d: %d writes", region, len(trace))
		}
		for i, got := range trace {
			if b, ok := d.Read(region, i); !ok || !bytes.Equal(b, of(region, i)) {
				t.Fatalf("Read(%d, %d): %v %v", region, i, b, ok)
			}
			if want := append([]byte{byte(i / 256), byte(i % 256)}, of(region, i)...); !bytes.Equal(got, want) {
				t.Fatalf("trace of region %d, %d: %v", region, i, got)
			}
		}
	}
}

func TestNoSuchPlace(t *testing.T) {
	d := device(t, 3, 1000, 1)
	write(t, d, 0, 2, 'a')
	refused := func(region, i int) {
		t.Helper()
		if b, ok := d.Read(region, i); ok || len(b) != 0 {
			t.Errorf("Read(%d, %d): %v %v", region, i, b, ok)
		}
		if d.Write(region, i, full('x')) {
			t.Errorf("Write(%d, %d): yes", region, i)
		}
	}
	for _, n := range noPlaces {
		for region := range 3 {
			refused(region, n)
		}
		refused(n, 0)
		refused(n, n)
	}
	refused(0, 3)
	refused(2, 1)
	refused(3, 0)
	for _, region := range append([]int{3, 4, 8}, noPlaces...) {
		if d.Barrier(region) {
			t.Errorf("Barrier(%d): yes", region)
		}
		if l := d.Trace(region); len(l) != 0 {
			t.Errorf("Trace(%d): %v", region, l)
		}
	}
	shows(t, d, 0, "..a")
	shows(t, d, 2, ".")
	traces(t, d, 0, "2a")
	traces(t, d, 1, "")
	traces(t, d, 2, "")
}

func TestBlocksOfAWrongLength(t *testing.T) {
	d := device(t, 2)
	write(t, d, 0, 0, 'a')
	for _, n := range []int{0, 1, 56, 62, 63, 65, 66, 128, 64 + 256} {
		b := bytes.Repeat([]byte("x"), n)
		for i := range 2 {
			if d.Write(0, i, b) {
				t.Errorf("%d bytes: yes", n)
			}
		}
	}
	if d.Write(0, 1, nil) {
		t.Error("no bytes: yes")
	}
	shows(t, d, 0, "a.")
	traces(t, d, 0, "0a")
}

func TestTrace(t *testing.T) {
	d := device(t, 3, 2, 1)
	traces(t, d, 0, "")
	write(t, d, 0, 2, 'a')
	write(t, d, 1, 1, 'A')
	barrier(t, d, 0)
	write(t, d, 0, 0, 'b')
	write(t, d, 0, 0, 'b')
	barrier(t, d, 1)
	barrier(t, d, 1)
	write(t, d, 0, 2, 'c')
	traces(t, d, 0, "2a|0b0b2c")
	traces(t, d, 1, "1A||")
	traces(t, d, 2, "")
	barrier(t, d, 2)
	traces(t, d, 2, "|")
	d.Crash(nil)
	traces(t, d, 0, "2a|0b0b2c")
	traces(t, d, 1, "1A||")
	barrier(t, d, 0)
	traces(t, d, 0, "2a|0b0b2c|")
}

func TestABarrierMakesSure(t *testing.T) {
	d := device(t, 3, 2)
	write(t, d, 0, 0, 'a')
	write(t, d, 1, 0, 'A')
	write(t, d, 0, 1, 'b')
	write(t, d, 0, 0, 'c')
	barrier(t, d, 0)
	write(t, d, 1, 1, 'B')
	d.Crash(nil)
	shows(t, d, 0, "cb.")
	shows(t, d, 1, "..")
}

// TestABarrierIsOfItsRegion: what another region's Barrier stands behind is
// not sure, and what it is counted from hangs on its own region alone.
func TestABarrierIsOfItsRegion(t *testing.T) {
	d := device(t, 2, 2, 2)
	write(t, d, 0, 0, 'a')
	write(t, d, 1, 0, 'A')
	barrier(t, d, 1)
	write(t, d, 0, 1, 'b')
	write(t, d, 1, 1, 'B')
	barrier(t, d, 2)
	write(t, d, 2, 0, 'x')
	d.Crash([][]byte{{2}, {1}, {2}})
	shows(t, d, 0, ".b")
	shows(t, d, 1, "AB")
	shows(t, d, 2, "..")
}

func TestACrashKeepsBitByBit(t *testing.T) {
	for bits := range 256 {
		d := device(t, 9)
		write(t, d, 0, 8, 'z')
		barrier(t, d, 0)
		want := []byte("........z")
		for i := range 8 {
			write(t, d, 0, i, byte('a'+i))
			if bits>>i%2 == 1 {
				want[i] = byte('a' + i)
			}
		}
		d.Crash([][]byte{{byte(bits)}})
		shows(t, d, 0, string(want))
	}
}

// TestACrashKeepsBeyondAByte writes twenty, and keeps each by itself.
func TestACrashKeepsBeyondAByte(t *testing.T) {
	for kept := range 24 {
		d := device(t, 20)
		want := bytes.Repeat([]byte("."), 20)
		for i := range 20 {
			write(t, d, 0, i, byte('a'+i))
		}
		if kept < 20 {
			want[kept] = byte('a' + kept)
		}
		text := make([]byte, 3)
		text[kept/8] = 1 << (kept % 8)
		d.Crash([][]byte{text})
		shows(t, d, 0, string(want))
	}
}

func TestACrashOfTextsOfAllLengths(t *testing.T) {
	for _, x := range []struct {
		keep      [][]byte
		one, more string
	}{
		{nil, "..........", ".."},
		{[][]byte{}, "..........", ".."},
		{[][]byte{nil}, "..........", ".."},
		{[][]byte{{}, {}}, "..........", ".."},
		{[][]byte{{255}}, "abcdefgh..", ".."},
		{[][]byte{{255, 255}}, "abcdefghij", ".."},
		{[][]byte{{0, 2}}, ".........j", ".."},
		{[][]byte{nil, {255}}, "..........", "AB"},
		{[][]byte{{1}, {2}}, "a.........", ".B"},
		{[][]byte{{1}, {2}, {255}, {255}, {255}, {255}, {255}, {255}, {255}, {255}}, "a.........", ".B"},
		{[][]byte{{129, 1, 255, 255}, {0, 255}}, "a......hi.", ".."},
	} {
		d := device(t, 10, 2)
		for i := range 10 {
			write(t, d, 0, i, byte('a'+i))
		}
		write(t, d, 1, 0, 'A')
		write(t, d, 1, 1, 'B')
		d.Crash(x.keep)
		shows(t, d, 0, x.one)
		shows(t, d, 1, x.more)
	}
}

// TestACrashKeepsInOrder: of two writes of one block the later one that is
// kept is there, and an earlier one where it alone is.
func TestACrashKeepsInOrder(t *testing.T) {
	for bits, want := range []string{"s.", "a.", "sb", "ab", "c.", "c.", "cb", "cb"} {
		d := device(t, 2)
		write(t, d, 0, 0, 's')
		barrier(t, d, 0)
		write(t, d, 0, 0, 'a')
		write(t, d, 0, 1, 'b')
		write(t, d, 0, 0, 'c')
		shows(t, d, 0, "cb")
		d.Crash([][]byte{{byte(bits)}})
		shows(t, d, 0, want)
	}
}

func TestWhatACrashLeftIsSure(t *testing.T) {
	d := device(t, 3)
	write(t, d, 0, 0, 'a')
	write(t, d, 0, 1, 'b')
	d.Crash([][]byte{{2}})
	shows(t, d, 0, ".b.")
	d.Crash(nil)
	shows(t, d, 0, ".b.")
	d.Crash([][]byte{{255}})
	shows(t, d, 0, ".b.")
	barrier(t, d, 0)
	shows(t, d, 0, ".b.")
	// The row is counted from the crash on.
	write(t, d, 0, 2, 'c')
	write(t, d, 0, 1, 'd')
	d.Crash([][]byte{{1}})
	shows(t, d, 0, ".bc")
	traces(t, d, 0, "0a1b|2c1d")
}

func TestACrashOfNothing(t *testing.T) {
	d := device(t, 2)
	write(t, d, 0, 0, 'a')
	barrier(t, d, 0)
	d.Crash([][]byte{{255}})
	shows(t, d, 0, "a.")
	d.Crash(nil)
	shows(t, d, 0, "a.")
}

// TestStop writes five blocks behind a Stop of each number.
func TestStop(t *testing.T) {
	for n := -3; n <= 7; n++ {
		d := device(t, 3, 2)
		d.Stop(n)
		want := [][]byte{[]byte("..."), []byte("..")}
		for i := range 5 {
			if d.Stopped() != (n >= 0 && i >= n) {
				t.Errorf("Stop(%d), %d writes: %v", n, i, d.Stopped())
			}
			write(t, d, i%2, i/2, byte('a'+i))
			if n < 0 || i < n {
				want[i%2][i/2] = byte('a' + i)
			}
			shows(t, d, 0, string(want[0]))
			shows(t, d, 1, string(want[1]))
		}
	}
}

func TestStopsFarOff(t *testing.T) {
	for _, n := range []int{math.MaxInt, 1 << 32, -1 << 32, math.MinInt} {
		d := device(t, 1)
		d.Stop(n)
		write(t, d, 0, 0, 'a')
		if d.Stopped() {
			t.Errorf("Stop(%d): stopped", n)
		}
		shows(t, d, 0, "a")
	}
}

// TestWhatIsNotDoneIsNotCounted: neither Barriers nor Writes that are refused.
func TestWhatIsNotDoneIsNotCounted(t *testing.T) {
	d := device(t, 2)
	d.Stop(1)
	for range 5 {
		barrier(t, d, 0)
		d.Write(0, 2, full('x'))
		d.Write(1, 0, full('x'))
		d.Write(0, 0, full('x')[:63])
		d.Read(0, 0)
	}
	if d.Stopped() {
		t.Error("stopped too soon")
	}
	write(t, d, 0, 0, 'a')
	if !d.Stopped() {
		t.Error("goes on")
	}
	shows(t, d, 0, "a.")
	traces(t, d, 0, "|||||0a")
}

func TestAStoppedOneAnswersAsEver(t *testing.T) {
	d := device(t, 2, 1)
	write(t, d, 0, 0, 'a')
	d.Stop(0)
	write(t, d, 0, 0, 'b')
	write(t, d, 1, 0, 'c')
	barrier(t, d, 0)
	barrier(t, d, 1)
	if d.Write(0, 2, full('x')) || d.Write(2, 0, full('x')) || d.Write(0, 0, full('x')[1:]) || d.Barrier(2) || d.Barrier(-1) {
		t.Error("yes, as it has stopped")
	}
	shows(t, d, 0, "a.")
	shows(t, d, 1, ".")
	traces(t, d, 0, "0a")
	traces(t, d, 1, "")
	if d.Regions() != 2 {
		t.Errorf("%d regions", d.Regions())
	}
	// The Barrier was none: the write is not sure.
	d.Crash(nil)
	shows(t, d, 0, "..")
}

func TestTheLastStopHolds(t *testing.T) {
	d := device(t, 4)
	d.Stop(1)
	d.Stop(2)
	write(t, d, 0, 0, 'a')
	if d.Stopped() {
		t.Error("the first Stop holds")
	}
	write(t, d, 0, 1, 'b')
	if !d.Stopped() {
		t.Error("no Stop holds")
	}
	d.Stop(1)
	if d.Stopped() {
		t.Error("one more is to be done")
	}
	write(t, d, 0, 2, 'c')
	write(t, d, 0, 3, 'd')
	shows(t, d, 0, "abc.")
	d.Stop(-1)
	if d.Stopped() {
		t.Error("it goes on")
	}
	write(t, d, 0, 3, 'e')
	barrier(t, d, 0)
	d.Stop(3)
	d.Stop(0)
	write(t, d, 0, 0, 'f')
	shows(t, d, 0, "abce")
	traces(t, d, 0, "0a1b2c3e|")
}

// TestNothingIsStoppedBehindACrash: neither what has stopped, nor what would
// have behind some more writes.
func TestNothingIsStoppedBehindACrash(t *testing.T) {
	for n := -1; n <= 3; n++ {
		d := device(t, 5)
		d.Stop(n)
		write(t, d, 0, 0, 'a')
		d.Crash([][]byte{{1}})
		if d.Stopped() {
			t.Errorf("Stop(%d): stopped", n)
		}
		for i := range 4 {
			write(t, d, 0, i+1, byte('b'+i))
		}
		barrier(t, d, 0)
		d.Crash(nil)
		if d.Stopped() {
			t.Errorf("Stop(%d): stopped behind more", n)
		}
		if n == 0 {
			shows(t, d, 0, ".bcde")
		} else {
			shows(t, d, 0, "abcde")
		}
	}
}

func TestCopy(t *testing.T) {
	d := device(t, 2, 1)
	write(t, d, 0, 0, 'a')
	barrier(t, d, 0)
	write(t, d, 0, 0, 'b')
	write(t, d, 1, 0, 'A')
	d.Stop(2)
	c := d.Copy()
	e := d.Copy()
	// Each goes a way of its own, and neither is told of the other's.
	write(t, c, 0, 1, 'c')
	write(t, c, 0, 0, 'd')
	write(t, c, 0, 0, 'x')
	if !c.Stopped() || d.Stopped() || e.Stopped() {
		t.Error("the Stop is one")
	}
	shows(t, c, 0, "dc")
	shows(t, d, 0, "b.")
	traces(t, c, 0, "0a|0b1c0d")
	traces(t, d, 0, "0a|0b")
	write(t, d, 0, 1, 'e')
	barrier(t, d, 0)
	d.Crash([][]byte{nil, {1}})
	c.Crash([][]byte{{2}})
	shows(t, d, 0, "be")
	shows(t, d, 1, "A")
	shows(t, c, 0, "ac")
	shows(t, c, 1, ".")
	traces(t, c, 0, "0a|0b1c0d")
	traces(t, d, 0, "0a|0b1e|")
	shows(t, e, 0, "b.")
	traces(t, e, 0, "0a|0b")
	e.Crash([][]byte{{1}})
	shows(t, e, 0, "b.")
	if e.Regions() != 2 {
		t.Errorf("%d regions", e.Regions())
	}
}

// TestCopiesShareNoRoom copies behind each number of writes, so that whatever
// spare room there is would be written by two.
func TestCopiesShareNoRoom(t *testing.T) {
	want := ""
	d := device(t, 1)
	for range 40 {
		c := d.Copy()
		write(t, c, 0, 0, 'c')
		write(t, d, 0, 0, 'd')
		traces(t, c, 0, want+"0c")
		c.Crash([][]byte{bytes.Repeat([]byte{255}, 9)})
		shows(t, c, 0, "c")
		want += "0d"
		traces(t, d, 0, want)
		shows(t, d, 0, "d")
	}
}

// TestNoDevice: of none, and of one that New did not make, there is nothing.
func TestNoDevice(t *testing.T) {
	var none *dev.Dev
	for _, d := range []*dev.Dev{none, {}, new(dev.Dev).Copy()} {
		d.Crash(nil)
		d.Crash([][]byte{{255}})
		d.Stop(-1)
		if b, ok := d.Read(0, 0); ok || len(b) != 0 {
			t.Errorf("Read: %v %v", b, ok)
		}
		if d.Write(0, 0, full('a')) || d.Barrier(0) || d.Stopped() || d.Regions() != 0 || len(d.Trace(0)) != 0 {
			t.Error("there is something")
		}
	}
	none.Stop(0)
	none.Stop(3)
	if none.Stopped() || none.Copy() != nil {
		t.Error("there is something behind a Stop")
	}
}

func TestNothingHandedInIsChangedOrKept(t *testing.T) {
	sizes := []int{3, 2, 77}
	d, _ := dev.New(sizes[:2])
	sizes[0], sizes[1] = 1, 1
	b := append(full('a'), "spare"...)
	d.Write(0, 2, b[:64])
	if string(b) != string(full('a'))+"spare" {
		t.Errorf("changed: %q", b)
	}
	clear(b)
	shows(t, d, 0, "..a")
	traces(t, d, 0, "2a")
	keep := [][]byte{{255, 1}, {3}, {9}}
	d.Crash(keep[:2])
	if !slices.EqualFunc(keep, [][]byte{{255, 1}, {3}, {9}}, bytes.Equal) {
		t.Errorf("changed: %v", keep)
	}
	shows(t, d, 0, "..a")
	shows(t, d, 1, "..")
}

func TestWhatIsToldIsNewMemory(t *testing.T) {
	d := device(t, 1)
	write(t, d, 0, 0, 'a')
	write(t, d, 0, 0, 'b')
	barrier(t, d, 0)
	b, _ := d.Read(0, 0)
	same, _ := d.Read(0, 0)
	clear(b)
	if !bytes.Equal(same, full('b')) {
		t.Errorf("two answers share: %q", same)
	}
	l := d.Trace(0)
	_ = append(l[0], "xyz"...)
	_ = append(l[2], "xyz"...)
	clear(l[0])
	if !bytes.Equal(l[1][2:], full('b')) || !bytes.Equal(l[2], []byte{255, 255}) {
		t.Errorf("two lists share: %q", l)
	}
	clear(l[1])
	clear(l[2])
	traces(t, d, 0, "0a0b|")
	shows(t, d, 0, "b")
	d.Crash(nil)
	shows(t, d, 0, "b")
}

// plain is a device by the words of the promises, one region by itself.
type plain struct {
	now, sure []string
	open      []int // blocks of the writes that are not sure
	texts     []string
	trace     []string
}

func (p *plain) write(i int, b string) {
	p.now[i] = b
	p.open = append(p.open, i)
	p.texts = append(p.texts, b)
	p.trace = append(p.trace, string([]byte{byte(i / 256), byte(i % 256)})+b)
}

func (p *plain) barrier() {
	p.sure = slices.Clone(p.now)
	p.open, p.texts = nil, nil
	p.trace = append(p.trace, "\xff\xff")
}

func (p *plain) crash(keep [][]byte, region int) {
	for nth, i := range p.open {
		if region < len(keep) && nth/8 < len(keep[region]) && int(keep[region][nth/8])>>(nth%8)%2 == 1 {
			p.sure[i] = p.texts[nth]
		}
	}
	p.now = slices.Clone(p.sure)
	p.open, p.texts = nil, nil
}

// chance is numbers below n that look like chance, and are the same each time.
type chance uint32

func (c *chance) below(n int) int {
	*c = *c*1664525 + 1013904223
	return int(*c>>8) % n
}

func (c *chance) bytes(n int) []byte {
	b := make([]byte, n)
	for i := range b {
		b[i] = byte(c.below(256))
	}
	return b
}

// TestByTheWords does the same to a device and to plain ones, step by step.
func TestByTheWords(t *testing.T) {
	for run := range 60 {
		c := chance(run)
		sizes := make([]int, 1+c.below(8))
		rows := make([]plain, len(sizes))
		for region := range sizes {
			sizes[region] = 1 + c.below(300)
			blank := slices.Repeat([]string{string(make([]byte, 64))}, sizes[region])
			rows[region] = plain{now: blank, sure: slices.Clone(blank)}
		}
		d := device(t, sizes...)
		left := -1
		for range 400 {
			region := c.below(len(sizes))
			switch what := c.below(40); {
			case what < 30:
				i, b := c.below(min(sizes[region], 1+c.below(300))), c.bytes(64)
				if !d.Write(region, i, b) {
					t.Fatalf("Write(%d, %d): no", region, i)
				}
				if left != 0 {
					rows[region].write(i, string(b))
					left = max(left-1, -1)
				}
			case what < 35:
				barrier(t, d, region)
				if left != 0 {
					rows[region].barrier()
				}
			case what < 37:
				left = c.below(12) - 1
				d.Stop(left)
			case what < 38:
				d = d.Copy()
			default:
				keep := make([][]byte, c.below(len(sizes)+2))
				for k := range keep {
					keep[k] = c.bytes(c.below(5))
				}
				d.Crash(keep)
				for r := range rows {
					rows[r].crash(keep, r)
				}
				left = -1
			}
			if d.Stopped() != (left == 0) {
				t.Fatalf("run %d: stopped %v, with %d left", run, d.Stopped(), left)
			}
			holds(t, d, region, &rows[region])
		}
		for region := range rows {
			holds(t, d, region, &rows[region])
		}
	}
}

// holds holds a region against the plain one.
func holds(t *testing.T, d *dev.Dev, region int, p *plain) {
	t.Helper()
	for i, want := range p.now {
		if b, ok := d.Read(region, i); !ok || string(b) != want {
			t.Fatalf("block %d of region %d: %q %v", i, region, b, ok)
		}
	}
	same := func(b []byte, s string) bool { return string(b) == s }
	if got := d.Trace(region); !slices.EqualFunc(got, p.trace, same) {
		t.Fatalf("trace of region %d: %q, not %q", region, got, p.trace)
	}
}
