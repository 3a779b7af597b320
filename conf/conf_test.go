package conf_test

import (
	"bytes"
	"math"
	"slices"
	"testing"

	"clathri/api"
	"clathri/conf"
)

func share(level, cats, blocks, log, frames int) api.Share {
	return api.Share{Label: api.Label{Level: level, Cats: cats}, Blocks: blocks, Log: log, Frames: frames}
}

// many is a config of n shares of unlike labels, as small as may be.
func many(n int) api.Config {
	var c api.Config
	for i := range n {
		c = append(c, share(i/16%4, i%16, 4, 16, 1))
	}
	return c
}

// of is a config of these labels, each a level and categories.
func of(labels ...[2]int) api.Config {
	var c api.Config
	for _, l := range labels {
		c = append(c, share(l[0], l[1], 4, 16, 1))
	}
	return c
}

// right is configs that may be: of one and of eight, at either end of every
// limit.
func right() []api.Config {
	return []api.Config{
		{share(0, 0, 4, 16, 1)},
		{share(3, 15, 200, 100, 50)},
		{share(0, 15, 4, 100, 1)},
		{share(3, 0, 200, 16, 50)},
		{share(1, 1, 100, 32, 8), share(0, 0, 50, 20, 4)},
		{share(0, 0, 4, 16, 1), share(0, 1, 5, 17, 2), share(1, 0, 199, 99, 49), share(1, 1, 200, 100, 50)},
		many(2), many(7), many(8),
	}
}

// wrongShares is shares that may not be, each wrong in one thing alone: one
// step beyond each limit, such as a byte would wrap round to one within, and
// the ends of int.
func wrongShares() []api.Share {
	var l []api.Share
	for _, v := range []int{-1, 4, 256, 1 << 32, math.MaxInt, math.MinInt} {
		l = append(l, share(v, 1, 4, 16, 1))
	}
	for _, v := range []int{-1, 16, 256, 1 << 32, math.MaxInt, math.MinInt} {
		l = append(l, share(1, v, 4, 16, 1))
	}
	for _, v := range []int{3, 201, 0, -1, -4, 255, 256, 256 + 4, 1<<32 + 4, math.MaxInt, math.MinInt} {
		l = append(l, share(1, 1, v, 16, 1))
	}
	for _, v := range []int{15, 101, 0, -1, -16, 255, 256, 256 + 16, 1<<32 + 16, math.MaxInt, math.MinInt} {
		l = append(l, share(1, 1, 4, v, 1))
	}
	for _, v := range []int{0, 51, -1, -50, 255, 256, 256 + 1, 1<<32 + 1, math.MaxInt, math.MinInt} {
		l = append(l, share(1, 1, 4, 16, v))
	}
	return l
}

// wrong is configs that may not be: too few, too many, a wrong share at each
// place of three, one label twice at each two places of four.
func wrong() []api.Config {
	l := []api.Config{nil, {}, many(9), many(10), many(64), slices.Repeat(many(1), 256+1)}
	for _, s := range wrongShares() {
		for at := range 3 {
			c := api.Config{share(2, 2, 4, 16, 1), share(3, 3, 4, 16, 1), share(0, 0, 4, 16, 1)}
			c[at] = s
			l = append(l, c)
		}
		l = append(l, api.Config{s})
	}
	for i := range 4 {
		for j := range i {
			c := many(4)
			c[i] = share(c[j].Label.Level, c[j].Label.Cats, 200, 100, 50)
			l = append(l, c)
		}
	}
	return l
}

func TestMay(t *testing.T) {
	for _, c := range right() {
		if !conf.May(c) {
			t.Errorf("May(%v): no", c)
		}
	}
	for _, c := range wrong() {
		if conf.May(c) {
			t.Errorf("May(%v): yes", c)
		}
	}
}

func TestMayByHowMany(t *testing.T) {
	for n := range 65 {
		if got, want := conf.May(many(n)), n >= 1 && n <= 8; got != want {
			t.Errorf("%d shares: %v", n, got)
		}
	}
}

func TestMayByEachNumber(t *testing.T) {
	for v := -300; v <= 300; v++ {
		for _, x := range []struct {
			what string
			s    api.Share
			want bool
		}{
			{"level", share(v, 0, 4, 16, 1), v >= 0 && v <= 3},
			{"cats", share(0, v, 4, 16, 1), v >= 0 && v <= 15},
			{"blocks", share(0, 0, v, 16, 1), v >= 4 && v <= 200},
			{"log", share(0, 0, 4, v, 1), v >= 16 && v <= 100},
			{"frames", share(0, 0, 4, 16, v), v >= 1 && v <= 50},
		} {
			if got := conf.May(api.Config{x.s}); got != x.want {
				t.Errorf("%s %d: %v", x.what, v, got)
			}
		}
	}
}

// TestMayAsksForUnlikeLabelsAlone: all but the label may be alike, and labels
// that are alike in one of the two are unlike.
func TestMayAsksForUnlikeLabelsAlone(t *testing.T) {
	if !conf.May(of([2]int{1, 1}, [2]int{1, 2}, [2]int{2, 1}, [2]int{2, 2})) {
		t.Error("unlike labels: no")
	}
	if conf.May(of([2]int{1, 1}, [2]int{1, 2}, [2]int{2, 1}, [2]int{1, 1})) {
		t.Error("the first label is the last again: yes")
	}
}

func TestPutOfKnownOnes(t *testing.T) {
	for _, x := range []struct {
		c    api.Config
		want []byte
	}{
		{api.Config{share(0, 0, 4, 16, 1)}, []byte{'L', 'F', 1, 0, 4, 16, 1}},
		{api.Config{share(3, 15, 200, 100, 50)}, []byte{'L', 'F', 1, 63, 200, 100, 50}},
		{
			api.Config{share(2, 3, 100, 40, 9), share(0, 0, 4, 16, 1), share(1, 1, 77, 33, 2)},
			[]byte{76, 70, 3, 35, 100, 40, 9, 0, 4, 16, 1, 17, 77, 33, 2},
		},
		{of([2]int{1, 0}, [2]int{0, 15}), []byte{'L', 'F', 2, 16, 4, 16, 1, 15, 4, 16, 1}},
	} {
		if got := conf.Put(x.c); !bytes.Equal(got, x.want) {
			t.Errorf("Put(%v): %v", x.c, got)
		}
		if got, e := conf.Take(x.want); e != api.OK || !slices.Equal(got, x.c) {
			t.Errorf("Take(%v): %v %d", x.want, got, e)
		}
	}
}

func TestPutOfWrongOnes(t *testing.T) {
	for _, c := range wrong() {
		if b := conf.Put(c); len(b) != 0 {
			t.Errorf("Put(%v): %v", c, b)
		}
	}
}

func TestWhatIsPutIsTaken(t *testing.T) {
	for _, c := range right() {
		b := conf.Put(c)
		if len(b) != 3+4*len(c) {
			t.Errorf("Put(%v): %d bytes", c, len(b))
		}
		if got, e := conf.Take(b); e != api.OK || !slices.Equal(got, c) {
			t.Errorf("Take(Put(%v)): %v %d", c, got, e)
		}
	}
}

// refused: does Take tell that no config is put as b?
func refused(t *testing.T, b []byte) {
	t.Helper()
	if c, e := conf.Take(b); e != api.EArg || len(c) != 0 {
		t.Errorf("Take(%v): %v %d", b, c, e)
	}
}

func TestTakeOfWrongBytes(t *testing.T) {
	for _, b := range [][]byte{
		nil, {}, {'L'}, {'L', 'F'}, {'L', 'F', 0}, {'L', 'F', 1},
		{'L', 'F', 0, 0, 4, 16, 1},
		{'L', 'F', 2, 0, 4, 16, 1},
		{'F', 'L', 1, 0, 4, 16, 1},
		{'l', 'f', 1, 0, 4, 16, 1},
		{'L', 'f', 1, 0, 4, 16, 1},
		{0, 'L', 'F', 1, 0, 4, 16, 1},
		{'L', 'F', 1, 64, 4, 16, 1},
		{'L', 'F', 1, 255, 4, 16, 1},
		{'L', 'F', 1, 0, 3, 16, 1},
		{'L', 'F', 1, 0, 201, 16, 1},
		{'L', 'F', 1, 0, 4, 15, 1},
		{'L', 'F', 1, 0, 4, 101, 1},
		{'L', 'F', 1, 0, 4, 16, 0},
		{'L', 'F', 1, 0, 4, 16, 51},
		{'L', 'F', 2, 0, 4, 16, 1, 0, 4, 16, 1},
		{'L', 'F', 2, 0, 4, 16, 1, 0, 5, 17, 2},
		{'L', 'F', 2, 0, 4, 16, 1, 1, 4, 16, 0},
		{'L', 'F', 2, 0, 4, 16, 1, 64, 4, 16, 1},
	} {
		refused(t, b)
	}
}

// TestTakeOfTooMany: bytes that are of the right form, but of more shares, up
// to as many as a byte tells.
func TestTakeOfTooMany(t *testing.T) {
	for n := range 256 {
		b := []byte{'L', 'F', byte(n)}
		for i := range n {
			b = append(b, byte(i), 4, 16, 1)
		}
		if n < 1 || n > 8 {
			refused(t, b)
		} else if c, e := conf.Take(b); e != api.OK || !slices.Equal(c, many(n)) {
			t.Errorf("%d shares: %v %d", n, c, e)
		}
	}
}

func TestTakeOfCutAndLonger(t *testing.T) {
	for _, c := range right() {
		b := conf.Put(c)
		for k := range b {
			refused(t, b[:k])
			refused(t, b[k+1:])
		}
		for _, x := range []byte{0, 1, 'L', 255} {
			refused(t, append(slices.Clone(b), x))
		}
		refused(t, append(slices.Clone(b), 63, 4, 16, 1))
		refused(t, append(slices.Clone(b), b...))
	}
}

// TestTakeIsNoMoreThanPut: each byte as any other: what is still taken is put
// as just those bytes, and all else is refused.
func TestTakeIsNoMoreThanPut(t *testing.T) {
	for _, c := range right() {
		b := conf.Put(c)
		for at := range b {
			for v := range 256 {
				d := slices.Clone(b)
				d[at] = byte(v)
				got, e := conf.Take(d)
				if e == api.OK && (!conf.May(got) || !bytes.Equal(conf.Put(got), d)) {
					t.Errorf("Take(%v): %v", d, got)
				}
				if e != api.OK {
					refused(t, d)
				}
			}
		}
	}
}

func TestTakeByEachNumber(t *testing.T) {
	for v := range 256 {
		for at, want := range []bool{v == 'L', v == 'F', v == 1, v < 64, v >= 4 && v <= 200, v >= 16 && v <= 100, v >= 1 && v <= 50} {
			b := []byte{'L', 'F', 1, 0, 4, 16, 1}
			b[at] = byte(v)
			if _, e := conf.Take(b); (e == api.OK) != want {
				t.Errorf("Take(%v): %d", b, e)
			}
		}
	}
}

func TestBelowOfKnownOnes(t *testing.T) {
	for _, x := range []struct {
		c    api.Config
		want [][]int
	}{
		{of([2]int{2, 5}), [][]int{{0}}},
		// A row, from the least on and from the greatest on.
		{of([2]int{0, 0}, [2]int{1, 0}, [2]int{2, 0}, [2]int{3, 0}), [][]int{{0}, {1, 0}, {2, 1, 0}, {3, 2, 1, 0}}},
		{of([2]int{3, 0}, [2]int{2, 0}, [2]int{1, 0}, [2]int{0, 0}), [][]int{{0, 1, 2, 3}, {1, 2, 3}, {2, 3}, {3}}},
		// Two that are beside each other, one above both, one below both.
		{of([2]int{1, 1}, [2]int{3, 15}, [2]int{1, 2}, [2]int{0, 0}), [][]int{{0, 3}, {1, 2, 0, 3}, {2, 3}, {3}}},
		// A greater level is ahead of more categories.
		{of([2]int{0, 7}, [2]int{1, 0}, [2]int{1, 7}), [][]int{{0}, {1}, {2, 1, 0}}},
		// Of one level more categories are ahead, then the greater number.
		{
			of([2]int{0, 8}, [2]int{0, 7}, [2]int{0, 3}, [2]int{0, 15}, [2]int{0, 12}, [2]int{0, 1}),
			[][]int{{0}, {1, 2, 5}, {2, 5}, {3, 1, 4, 2, 0, 5}, {4, 0}, {5}},
		},
		// Above by level, but not by categories, and the other way round.
		{of([2]int{3, 1}, [2]int{0, 2}, [2]int{0, 15}), [][]int{{0}, {1}, {2, 1}}},
	} {
		for me, want := range x.want {
			if got := conf.Below(x.c, me); !slices.Equal(got, want) {
				t.Errorf("Below(%v, %d): %v, not %v", x.c, me, got, want)
			}
		}
	}
}

// TestBelowByTheWords holds every place of many configs against the words:
// who is below is told bit by bit, and the row of sets is written out by hand.
func TestBelowByTheWords(t *testing.T) {
	row := []int{0, 1, 2, 4, 8, 3, 5, 6, 9, 10, 12, 7, 11, 13, 14, 15}
	rank := func(l api.Label) int { return 16*l.Level + slices.Index(row, l.Cats) }
	above := func(a, b api.Label) bool {
		for bit := 1; bit <= 8; bit *= 2 {
			if b.Cats/bit%2 > a.Cats/bit%2 {
				return false
			}
		}
		return a.Level >= b.Level
	}
	for step := 1; step < 64; step += 2 {
		for first := range 64 {
			var c api.Config
			for i := range 8 {
				l := (first + i*step) % 64
				c = append(c, share(l/16, l%16, 4, 16, 1))
			}
			for me := range c {
				want := []int{me}
				for r := 63; r >= 0; r-- {
					for i := range c {
						if i != me && rank(c[i].Label) == r && above(c[me].Label, c[i].Label) {
							want = append(want, i)
						}
					}
				}
				if got := conf.Below(c, me); !slices.Equal(got, want) {
					t.Fatalf("Below(%v, %d): %v, not %v", c, me, got, want)
				}
			}
		}
	}
}

func TestBelowOfNoPlace(t *testing.T) {
	for _, c := range right() {
		for _, me := range []int{-1, -2, len(c), len(c) + 1, 256, 1 << 32, math.MaxInt, math.MinInt} {
			if got := conf.Below(c, me); len(got) != 0 {
				t.Errorf("Below(%v, %d): %v", c, me, got)
			}
		}
	}
}

func TestBelowOfWrongOnes(t *testing.T) {
	for _, c := range wrong() {
		for me := -1; me <= len(c); me++ {
			if got := conf.Below(c, me); len(got) != 0 {
				t.Errorf("Below(%v, %d): %v", c, me, got)
			}
		}
	}
}

// TestNothingIsChangedNorKept: what is handed in stays as it was, its spare
// room too, and what is told is new memory.
func TestNothingIsChangedNorKept(t *testing.T) {
	c := of([2]int{0, 0}, [2]int{3, 15}, [2]int{1, 1}, [2]int{2, 2}, [2]int{2, 3})
	was := slices.Clone(c)
	b := conf.Put(c)
	handed := slices.Clone(b)
	d, _ := conf.Take(handed)
	below := conf.Below(c[:3], 1)
	conf.May(c[:3])
	conf.Put(c[:3])
	conf.Take(handed[:7])
	if !slices.Equal(c, was) || !bytes.Equal(handed, b) {
		t.Errorf("changed: %v %v", c, handed)
	}
	clear(handed)
	if !slices.Equal(d, c) {
		t.Errorf("what was taken hangs on the bytes: %v", d)
	}
	clear(b)
	clear(d)
	clear(below)
	if got := conf.Below(c[:3], 1); !slices.Equal(got, []int{1, 2, 0}) {
		t.Errorf("Below: %v", got)
	}
	if got, e := conf.Take(conf.Put(c)); e != api.OK || !slices.Equal(got, was) {
		t.Errorf("taken: %v %d", got, e)
	}
}
