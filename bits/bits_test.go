package bits_test

import (
	"math"
	"testing"

	"clathri/api"
	"clathri/bits"
)

// some is a row of numbers of all sorts.
type some uint32

func (s *some) next() uint32 {
	*s = *s*1664525 + 1013904223
	return uint32(*s >> 8)
}

// model is bits by the words of the promise: which of its places are set.
type model struct {
	n   int
	set map[int]int
}

func newModel(n int) *model {
	return &model{n, map[int]int{}}
}

func (m *model) is(i int) bool {
	return m.set[i] == 1
}

func (m *model) change(i int, to int) bool {
	if i < 0 || i >= m.n || m.set[i] == to {
		return false
	}
	m.set[i] = to
	return true
}

func (m *model) first() (int, bool) {
	for i := range m.n {
		if !m.is(i) {
			return i, true
		}
	}
	return 0, false
}

func (m *model) left() int {
	left := m.n
	for _, on := range m.set {
		left -= on
	}
	return left
}

// beyond is places that there are in no bits.
func beyond() []int {
	return []int{
		-1, -2, -63, -64, -65, -200, -201, -256, math.MinInt32, math.MinInt32 - 1, math.MinInt, math.MinInt + 1,
		200, 201, 255, 256, 257, 1000, 1 << 16, 1 << 31, 1<<31 - 1, 1 << 32, 1<<32 + 1, math.MaxInt, math.MaxInt - 1,
	}
}

func mustSet(t *testing.T, b *bits.Bits, i int, want bool) {
	t.Helper()
	if got := b.Set(i); got != want {
		t.Fatalf("Set(%d) is %v", i, got)
	}
}

func mustClear(t *testing.T, b *bits.Bits, i int, want bool) {
	t.Helper()
	if got := b.Clear(i); got != want {
		t.Fatalf("Clear(%d) is %v", i, got)
	}
}

func mustBe(t *testing.T, b *bits.Bits, i int, want bool) {
	t.Helper()
	if got := b.Is(i); got != want {
		t.Fatalf("Is(%d) is %v", i, got)
	}
}

func mustHaveFirst(t *testing.T, b *bits.Bits, want int, wantOk bool) {
	t.Helper()
	if got, ok := b.First(); got != want || ok != wantOk {
		t.Fatalf("First is %d, %v, not %d, %v", got, ok, want, wantOk)
	}
}

func mustHaveLeft(t *testing.T, b *bits.Bits, want int) {
	t.Helper()
	if got := b.Left(); got != want {
		t.Fatalf("Left is %d, not %d", got, want)
	}
}

// mustBeAs holds all that b tells against the model.
func mustBeAs(t *testing.T, b *bits.Bits, m *model) {
	t.Helper()
	for i := -2; i < api.MaxBlocks+60; i++ {
		mustBe(t, b, i, m.is(i))
	}
	first, ok := m.first()
	mustHaveFirst(t, b, first, ok)
	mustHaveLeft(t, b, m.left())
}

// full is bits of n places, all of them set.
func full(t *testing.T, n int) *bits.Bits {
	t.Helper()
	b := bits.New(n)
	for i := range n {
		mustSet(t, b, i, true)
	}
	return b
}

func TestTheExample(t *testing.T) {
	b := bits.New(1)
	mustSet(t, b, 0, true)
	mustHaveFirst(t, b, 0, false)
}

func TestNewHasSoManyPlaces(t *testing.T) {
	for n, want := range map[int]int{
		math.MinInt: 0, math.MinInt32: 0, -200: 0, -2: 0, -1: 0, 0: 0,
		1: 1, 2: 2, 7: 7, 8: 8, 9: 9, 63: 63, 64: 64, 65: 65, 127: 127, 128: 128, 129: 129, 192: 192, 199: 199, 200: 200,
		201: 200, 255: 200, 256: 200, 5000: 200, 1 << 32: 200, 1<<32 + 1: 200, math.MaxInt32: 200, math.MaxInt: 200,
	} {
		mustBeAs(t, bits.New(n), newModel(want))
		b := bits.New(n)
		mustSet(t, b, want, false)
		for i := range want {
			mustHaveFirst(t, b, i, true)
			mustHaveLeft(t, b, want-i)
			mustSet(t, b, i, true)
			mustBe(t, b, i, true)
		}
		mustSet(t, b, want, false)
		mustHaveFirst(t, b, 0, false)
		mustHaveLeft(t, b, 0)
	}
}

func TestSetMakesJustThatOneSet(t *testing.T) {
	for _, n := range []int{1, 2, 64, 65, 199, 200} {
		for i := range n {
			b, m := bits.New(n), newModel(n)
			mustSet(t, b, i, true)
			m.change(i, 1)
			mustBeAs(t, b, m)
		}
	}
}

func TestClearMakesJustThatOneNotSet(t *testing.T) {
	for _, n := range []int{1, 2, 64, 65, 199, 200} {
		for i := range n {
			b := full(t, n)
			mustClear(t, b, i, true)
			for j := range n {
				mustBe(t, b, j, j != i)
			}
			mustHaveFirst(t, b, i, true)
			mustHaveLeft(t, b, 1)
			mustSet(t, b, i, true)
			mustHaveFirst(t, b, 0, false)
		}
	}
}

func TestWhatIsSetIsNotSetAgain(t *testing.T) {
	b := bits.New(3)
	mustSet(t, b, 1, true)
	for range 5 {
		mustSet(t, b, 1, false)
		mustBe(t, b, 1, true)
		mustHaveLeft(t, b, 2)
	}
	mustClear(t, b, 1, true)
	mustHaveLeft(t, b, 3)
}

func TestWhatIsNotSetIsNotCleared(t *testing.T) {
	b := bits.New(3)
	for range 5 {
		mustClear(t, b, 1, false)
		mustBe(t, b, 1, false)
		mustHaveLeft(t, b, 3)
	}
	mustSet(t, b, 1, true)
	mustHaveLeft(t, b, 2)
}

func TestFirstIsTheLeastOfSeveral(t *testing.T) {
	b := full(t, 200)
	for _, one := range []struct{ clear, want int }{
		{199, 199}, {150, 150}, {170, 150}, {128, 128}, {127, 127}, {64, 64}, {65, 64}, {63, 63}, {2, 2}, {100, 2}, {0, 0}, {1, 0},
	} {
		mustClear(t, b, one.clear, true)
		mustHaveFirst(t, b, one.want, true)
	}
}

func TestToLookChangesNothing(t *testing.T) {
	b, m := bits.New(70), newModel(70)
	for _, i := range []int{0, 1, 3, 64, 69} {
		mustSet(t, b, i, true)
		m.change(i, 1)
	}
	for range 3 {
		mustBeAs(t, b, m)
	}
}

func TestThereIsNoPlaceBeyond(t *testing.T) {
	for _, n := range []int{0, 1, 64, 100, 200} {
		for _, i := range append(beyond(), n, n+1, n+63, n+64) {
			for _, b := range []*bits.Bits{bits.New(n), full(t, n)} {
				left := b.Left()
				first, ok := b.First()
				mustBe(t, b, i, false)
				mustSet(t, b, i, false)
				mustBe(t, b, i, false)
				mustClear(t, b, i, false)
				mustBe(t, b, i, false)
				mustHaveLeft(t, b, left)
				mustHaveFirst(t, b, first, ok)
			}
		}
	}
}

func TestLongRunsAreAsTheModel(t *testing.T) {
	s := some(1)
	for _, n := range []int{0, 1, 2, 5, 63, 64, 65, 130, 199, 200} {
		b, m := bits.New(n), newModel(n)
		for step := range 3000 {
			i := int(s.next()%uint32(n+4)) - 2
			// Each run fills up at first, and is emptied later on.
			to := 0
			if s.next()%3000 > uint32(step) {
				to = 1
			}
			if to == 1 {
				mustSet(t, b, i, m.change(i, 1))
			} else {
				mustClear(t, b, i, m.change(i, 0))
			}
			mustBe(t, b, i, m.is(i))
			first, ok := m.first()
			mustHaveFirst(t, b, first, ok)
			mustHaveLeft(t, b, m.left())
			if step%100 == 0 {
				mustBeAs(t, b, m)
			}
		}
		mustBeAs(t, b, m)
	}
}

func TestWhatIsFirstIsTaken(t *testing.T) {
	b := bits.New(200)
	for i := range 200 {
		first, ok := b.First()
		if first != i || !ok {
			t.Fatalf("%d, %v, not %d", first, ok, i)
		}
		mustBe(t, b, first, false)
		mustSet(t, b, first, true)
	}
	mustHaveFirst(t, b, 0, false)
}

func TestBitsAreApart(t *testing.T) {
	one, other := bits.New(10), bits.New(10)
	mustSet(t, one, 0, true)
	mustBe(t, other, 0, false)
	mustHaveLeft(t, other, 10)
	mustHaveFirst(t, other, 0, true)
	was := *one
	mustSet(t, one, 1, true)
	mustBe(t, &was, 1, false)
	mustHaveLeft(t, &was, 9)
	mustHaveFirst(t, &was, 1, true)
}

func TestNilAndZeroHaveNoPlaces(t *testing.T) {
	for _, b := range []*bits.Bits{nil, {}} {
		for _, i := range append(beyond(), 0, 1, 2, 64, 199) {
			mustSet(t, b, i, false)
			mustClear(t, b, i, false)
			mustBe(t, b, i, false)
		}
		mustHaveFirst(t, b, 0, false)
		mustHaveLeft(t, b, 0)
	}
}
