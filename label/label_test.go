package label_test

import (
	"math"
	"testing"

	"clathri/api"
	"clathri/label"
)

func of(level, cats int) api.Label {
	return api.Label{Level: level, Cats: cats}
}

// all is every label within the limits, written out of the numbers of the
// document, so that no answer of the package decides what is tested.
func all() []api.Label {
	var l []api.Label
	for level := 0; level <= 3; level++ {
		for cats := 0; cats <= 15; cats++ {
			l = append(l, of(level, cats))
		}
	}
	return l
}

// wrong is labels that may not be: one step beyond each limit, such as wrap
// round to one within, and the ends of int.
func wrong() []api.Label {
	return []api.Label{
		of(-1, 0), of(4, 0), of(0, -1), of(0, 16), of(-1, -1), of(4, 16), of(3, 16), of(4, 15),
		of(256, 0), of(0, 256), of(1<<32, 1<<32), of(-256, 3), of(2, -16), of(1, 1<<53+1),
		of(math.MaxInt, 0), of(0, math.MaxInt), of(math.MinInt, 0), of(0, math.MinInt),
		of(math.MaxInt, math.MinInt), of(math.MinInt, math.MaxInt),
	}
}

func each(f func(a, b api.Label)) {
	for _, a := range all() {
		for _, b := range all() {
			f(a, b)
		}
	}
}

func TestMay(t *testing.T) {
	for _, l := range all() {
		if !label.May(l) {
			t.Errorf("May(%v): no", l)
		}
	}
	for _, l := range wrong() {
		if label.May(l) {
			t.Errorf("May(%v): yes", l)
		}
	}
	for level := -20; level <= 20; level++ {
		for cats := -20; cats <= 20; cats++ {
			want := level >= 0 && level <= 3 && cats >= 0 && cats <= 15
			if got := label.May(of(level, cats)); got != want {
				t.Errorf("May(%d, %d): %v", level, cats, got)
			}
		}
	}
}

func TestAboveOfKnownOnes(t *testing.T) {
	for _, x := range []struct {
		a, b api.Label
		want bool
	}{
		{of(2, 3), of(1, 1), true},
		{of(1, 1), of(2, 3), false},
		{of(0, 0), of(0, 0), true},
		{of(3, 15), of(3, 15), true},
		{of(3, 15), of(0, 0), true},
		{of(0, 0), of(3, 15), false},
		{of(3, 0), of(0, 1), false},
		{of(0, 15), of(1, 0), false},
		{of(0, 15), of(0, 8), true},
		{of(3, 7), of(0, 8), false},
		{of(1, 2), of(1, 1), false},
		{of(1, 1), of(1, 2), false},
		{of(1, 4), of(1, 3), false},
		{of(1, 6), of(1, 2), true},
	} {
		if got := label.Above(x.a, x.b); got != x.want {
			t.Errorf("Above(%v, %v): %v", x.a, x.b, got)
		}
	}
}

// TestAboveBitByBit asks it of every pair by what the words say: each of the
// four categories by itself.
func TestAboveBitByBit(t *testing.T) {
	each(func(a, b api.Label) {
		want := a.Level >= b.Level
		for bit := 1; bit <= 8; bit *= 2 {
			if b.Cats/bit%2 == 1 && a.Cats/bit%2 == 0 {
				want = false
			}
		}
		if got := label.Above(a, b); got != want {
			t.Errorf("Above(%v, %v): %v", a, b, got)
		}
	})
}

func TestAboveIsAnOrder(t *testing.T) {
	each(func(a, b api.Label) {
		if label.Above(a, b) && label.Above(b, a) != (a == b) {
			t.Errorf("%v and %v are above each other", a, b)
		}
		for _, c := range all() {
			if label.Above(a, b) && label.Above(b, c) && !label.Above(a, c) {
				t.Errorf("%v above %v above %v, but not above it", a, b, c)
			}
		}
	})
}

func TestJoinAndMeetOfKnownOnes(t *testing.T) {
	for _, x := range []struct{ a, b, join, meet api.Label }{
		{of(2, 3), of(1, 1), of(2, 3), of(1, 1)},
		{of(1, 1), of(2, 3), of(2, 3), of(1, 1)},
		{of(1, 5), of(1, 3), of(1, 7), of(1, 1)},
		{of(2, 1), of(1, 2), of(2, 3), of(1, 0)},
		{of(3, 0), of(0, 15), of(3, 15), of(0, 0)},
		{of(0, 0), of(3, 15), of(3, 15), of(0, 0)},
		{of(0, 0), of(0, 0), of(0, 0), of(0, 0)},
		{of(3, 15), of(3, 15), of(3, 15), of(3, 15)},
		{of(0, 12), of(3, 10), of(3, 14), of(0, 8)},
		{of(2, 6), of(2, 9), of(2, 15), of(2, 0)},
	} {
		if got := label.Join(x.a, x.b); got != x.join {
			t.Errorf("Join(%v, %v): %v", x.a, x.b, got)
		}
		if got := label.Meet(x.a, x.b); got != x.meet {
			t.Errorf("Meet(%v, %v): %v", x.a, x.b, got)
		}
	}
}

func TestJoinAndMeetBitByBit(t *testing.T) {
	each(func(a, b api.Label) {
		join, meet := of(a.Level, 0), of(b.Level, 0)
		if a.Level < b.Level {
			join, meet = of(b.Level, 0), of(a.Level, 0)
		}
		for bit := 1; bit <= 8; bit *= 2 {
			n := a.Cats/bit%2 + b.Cats/bit%2
			if n > 0 {
				join.Cats += bit
			}
			if n == 2 {
				meet.Cats += bit
			}
		}
		if got := label.Join(a, b); got != join {
			t.Errorf("Join(%v, %v): %v", a, b, got)
		}
		if got := label.Meet(a, b); got != meet {
			t.Errorf("Meet(%v, %v): %v", a, b, got)
		}
	})
}

// TestLattice: the join is the least that is above both, the meet the greatest
// that both are above.
func TestLattice(t *testing.T) {
	each(func(a, b api.Label) {
		join, meet := label.Join(a, b), label.Meet(a, b)
		if !label.Above(join, a) || !label.Above(join, b) || !label.Above(a, meet) || !label.Above(b, meet) {
			t.Errorf("%v and %v: join %v, meet %v", a, b, join, meet)
		}
		for _, c := range all() {
			if label.Above(c, a) && label.Above(c, b) && !label.Above(c, join) {
				t.Errorf("%v is above %v and %v, but not above their join %v", c, a, b, join)
			}
			if label.Above(a, c) && label.Above(b, c) && !label.Above(meet, c) {
				t.Errorf("%v is below %v and %v, but not below their meet %v", c, a, b, meet)
			}
		}
		if label.Join(a, label.Meet(a, b)) != a || label.Meet(a, label.Join(a, b)) != a {
			t.Errorf("%v does not absorb %v", a, b)
		}
	})
}

func TestLessOfKnownOnes(t *testing.T) {
	for _, x := range []struct {
		a, b api.Label
		want bool
	}{
		{of(1, 1), of(2, 3), true},
		{of(2, 3), of(1, 1), false},
		{of(0, 15), of(1, 0), true},
		{of(1, 0), of(0, 15), false},
		{of(0, 8), of(0, 7), true},
		{of(0, 7), of(0, 8), false},
		{of(1, 3), of(1, 5), true},
		{of(1, 5), of(1, 3), false},
		{of(2, 12), of(2, 7), true},
		{of(0, 14), of(0, 15), true},
		{of(0, 0), of(0, 0), false},
		{of(3, 15), of(3, 15), false},
		{of(1, 1), of(1, 1), false},
	} {
		if got := label.Less(x.a, x.b); got != x.want {
			t.Errorf("Less(%v, %v): %v", x.a, x.b, got)
		}
	}
}

// TestLessInOneRow holds every pair against the row of sets written out by
// hand: none, the four of one, the six of two, the four of three, all.
func TestLessInOneRow(t *testing.T) {
	var row []api.Label
	for level := 0; level <= 3; level++ {
		for _, cats := range []int{0, 1, 2, 4, 8, 3, 5, 6, 9, 10, 12, 7, 11, 13, 14, 15} {
			row = append(row, of(level, cats))
		}
	}
	for i, a := range row {
		for j, b := range row {
			if got := label.Less(a, b); got != (i < j) {
				t.Errorf("Less(%v, %v): %v", a, b, got)
			}
		}
	}
}

func TestAboveIsNeverLess(t *testing.T) {
	each(func(a, b api.Label) {
		if label.Above(a, b) && label.Less(a, b) {
			t.Errorf("%v is above %v and less", a, b)
		}
	})
}

func TestPut(t *testing.T) {
	for i, l := range all() {
		if b, ok := label.Put(l); !ok || b != byte(i) {
			t.Errorf("Put(%v): %d %v", l, b, ok)
		}
	}
	for _, x := range []struct {
		l    api.Label
		want byte
	}{
		{of(0, 0), 0}, {of(0, 15), 15}, {of(1, 0), 16}, {of(2, 3), 35}, {of(3, 0), 48}, {of(3, 15), 63},
	} {
		if b, ok := label.Put(x.l); !ok || b != x.want {
			t.Errorf("Put(%v): %d %v", x.l, b, ok)
		}
	}
}

func TestTake(t *testing.T) {
	l := all()
	for i := 0; i < 256; i++ {
		got, ok := label.Take(byte(i))
		if i < 64 && (!ok || got != l[i]) || i >= 64 && (ok || got != of(0, 0)) {
			t.Errorf("Take(%d): %v %v", i, got, ok)
		}
	}
	if got, ok := label.Take(63); !ok || got != of(3, 15) {
		t.Errorf("Take(63): %v %v", got, ok)
	}
	if got, ok := label.Take(64); ok || got != of(0, 0) {
		t.Errorf("Take(64): %v %v", got, ok)
	}
}

// refused: does every call with a wrong label among them answer no, zero?
func refused(t *testing.T, a, b api.Label) {
	if label.Above(a, b) || label.Less(a, b) {
		t.Errorf("%v and %v: above %v, less %v", a, b, label.Above(a, b), label.Less(a, b))
	}
	if label.Join(a, b) != of(0, 0) || label.Meet(a, b) != of(0, 0) {
		t.Errorf("%v and %v: join %v, meet %v", a, b, label.Join(a, b), label.Meet(a, b))
	}
}

func TestWrongLabels(t *testing.T) {
	for _, w := range wrong() {
		if b, ok := label.Put(w); ok || b != 0 {
			t.Errorf("Put(%v): %d %v", w, b, ok)
		}
		for _, l := range all() {
			refused(t, w, l)
			refused(t, l, w)
		}
		for _, v := range wrong() {
			refused(t, w, v)
		}
	}
}
