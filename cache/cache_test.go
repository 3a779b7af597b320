package cache_test

import (
	"cmp"
	"fmt"
	"math"
	"slices"
	"testing"

	"clathri/api"
	"clathri/cache"
)

// some is a row of numbers of all sorts.
type some uint32

func (s *some) next() uint32 {
	*s = *s*1664525 + 1013904223
	return uint32(*s >> 8)
}

// block is a block of that kind, its body of all sorts of bytes.
func block(kind int, seed uint32) api.Block {
	s := some(seed)
	b := api.Block{Kind: kind}
	for i := range b.Body {
		b.Body[i] = byte(s.next())
	}
	return b
}

// one is a block that is told by a number.
func one(n int) api.Block {
	return block(n%8, uint32(n))
}

// frame is what a frame of the model has.
type frame struct {
	at    int
	b     api.Block
	dirty bool
}

// model is a cache by the words of the promise: its frames by their use, the
// one used last at the end.
type model struct {
	most   int
	frames []frame
}

func (m *model) where(at int) int {
	return slices.IndexFunc(m.frames, func(f frame) bool { return f.at == at })
}

func (m *model) peek(at int) (api.Block, bool) {
	i := m.where(at)
	if i < 0 {
		return api.Block{}, false
	}
	return m.frames[i].b, true
}

func (m *model) get(at int) (api.Block, bool) {
	i := m.where(at)
	if i < 0 {
		return api.Block{}, false
	}
	f := m.frames[i]
	m.frames = append(slices.Delete(m.frames, i, i+1), f)
	return f.b, true
}

func (m *model) put(at int, b api.Block, dirty bool) (api.Write, bool) {
	if i := m.where(at); i >= 0 {
		dirty = dirty || m.frames[i].dirty
		m.frames = slices.Delete(m.frames, i, i+1)
	}
	m.frames = append(m.frames, frame{at, b, dirty})
	if len(m.frames) <= m.most {
		return api.Write{}, false
	}
	gone := m.frames[0]
	m.frames = slices.Delete(m.frames, 0, 1)
	if !gone.dirty {
		return api.Write{}, false
	}
	return api.Write{At: gone.at, B: gone.b}, true
}

func (m *model) dirty() []api.Write {
	var l []api.Write
	for _, f := range m.frames {
		if f.dirty {
			l = append(l, api.Write{At: f.at, B: f.b})
		}
	}
	slices.SortFunc(l, func(a, b api.Write) int { return cmp.Compare(a.At, b.At) })
	return l
}

func (m *model) clean() {
	for i := range m.frames {
		m.frames[i].dirty = false
	}
}

// put must tell nothing.
func put(t *testing.T, c *cache.Cache, at int, b api.Block, dirty bool) {
	t.Helper()
	if w, ok := c.Put(at, b, dirty); ok || w != (api.Write{}) {
		t.Errorf("Put(%d): %v, %v", at, w, ok)
	}
}

// putTells must tell that block.
func putTells(t *testing.T, c *cache.Cache, at int, b api.Block, dirty bool, gone int, was api.Block) {
	t.Helper()
	if w, ok := c.Put(at, b, dirty); !ok || w != (api.Write{At: gone, B: was}) {
		t.Errorf("Put(%d): %v, %v", at, w, ok)
	}
}

func mustGet(t *testing.T, c *cache.Cache, at int, want api.Block) {
	t.Helper()
	if b, ok := c.Get(at); !ok || b != want {
		t.Errorf("Get(%d): %v, %v", at, b, ok)
	}
}

func mustPeek(t *testing.T, c *cache.Cache, at int, want api.Block) {
	t.Helper()
	if b, ok := c.Peek(at); !ok || b != want {
		t.Errorf("Peek(%d): %v, %v", at, b, ok)
	}
}

func mustNotHave(t *testing.T, c *cache.Cache, at int) {
	t.Helper()
	if b, ok := c.Peek(at); ok || b != (api.Block{}) {
		t.Errorf("Peek(%d): %v, %v", at, b, ok)
	}
	if b, ok := c.Get(at); ok || b != (api.Block{}) {
		t.Errorf("Get(%d): %v, %v", at, b, ok)
	}
}

func mustBeDirty(t *testing.T, c *cache.Cache, want ...api.Write) {
	t.Helper()
	if l := c.Dirty(); !slices.Equal(l, want) {
		t.Errorf("Dirty: %v, not %v", l, want)
	}
}

func mustHaveLen(t *testing.T, c *cache.Cache, want int) {
	t.Helper()
	if n := c.Len(); n != want {
		t.Errorf("Len: %d, not %d", n, want)
	}
}

// mustHave: it has those, and none else.
func mustHave(t *testing.T, c *cache.Cache, places ...int) {
	t.Helper()
	mustHaveLen(t, c, len(places))
	for _, at := range places {
		mustPeek(t, c, at, one(at))
	}
}

// abc is a cache of three frames with 1, 2 and 3 in it, used in that order,
// none dirty.
func abc(t *testing.T) *cache.Cache {
	t.Helper()
	c := cache.New(3)
	for at := 1; at <= 3; at++ {
		put(t, c, at, one(at), false)
	}
	return c
}

func TestTheExample(t *testing.T) {
	c := cache.New(1)
	put(t, c, 7, one(7), true)
	putTells(t, c, 8, one(8), false, 7, one(7))
	mustHave(t, c, 8)
	mustNotHave(t, c, 7)
}

func TestNewHasNothing(t *testing.T) {
	for _, n := range []int{-1, 0, 1, 2, 50, 51} {
		c := cache.New(n)
		mustHaveLen(t, c, 0)
		mustBeDirty(t, c)
		for _, at := range []int{-1, 0, 1, 199} {
			mustNotHave(t, c, at)
		}
		c.Clean()
		mustHaveLen(t, c, 0)
	}
}

// framesOf is how many frames of a cache that is asked for, and how many it
// has.
func framesOf() map[int]int {
	l := map[int]int{
		math.MinInt: 1, math.MinInt + 1: 1, -1 << 32: 1, -50: 1, -1: 1, 0: 1,
		51: 50, 52: 50, 100: 50, 256: 50, 1<<32 + 2: 50, math.MaxInt - 1: 50, math.MaxInt: 50,
	}
	for n := 1; n <= 50; n++ {
		l[n] = n
	}
	return l
}

func TestNewHasSoManyFrames(t *testing.T) {
	for asked, has := range framesOf() {
		c := cache.New(asked)
		for at := range has {
			put(t, c, at, one(at), true)
			mustHaveLen(t, c, at+1)
		}
		for at := range has {
			mustPeek(t, c, at, one(at))
		}
		for i := range 120 {
			putTells(t, c, has+i, one(has+i), true, i, one(i))
			mustHaveLen(t, c, has)
			mustNotHave(t, c, i)
		}
	}
}

func TestOneGoesThatIsUsedLongestAgo(t *testing.T) {
	c := abc(t)
	put(t, c, 4, one(4), false)
	mustHave(t, c, 2, 3, 4)
	put(t, c, 1, one(1), false)
	mustHave(t, c, 3, 4, 1)
	put(t, c, 2, one(2), false)
	mustHave(t, c, 4, 1, 2)
}

func TestGetIsUse(t *testing.T) {
	c := abc(t)
	mustGet(t, c, 1, one(1))
	put(t, c, 4, one(4), false)
	mustHave(t, c, 3, 1, 4)
	mustGet(t, c, 1, one(1))
	mustGet(t, c, 3, one(3))
	put(t, c, 5, one(5), false)
	mustHave(t, c, 1, 3, 5)
	// Used again and again is used once.
	for range 9 {
		mustGet(t, c, 5, one(5))
	}
	put(t, c, 6, one(6), false)
	put(t, c, 7, one(7), false)
	mustHave(t, c, 5, 6, 7)
	put(t, c, 8, one(8), false)
	mustHave(t, c, 6, 7, 8)
}

func TestPeekIsNoUse(t *testing.T) {
	c := abc(t)
	for range 9 {
		mustPeek(t, c, 1, one(1))
	}
	put(t, c, 4, one(4), false)
	mustHave(t, c, 2, 3, 4)
	mustNotHave(t, c, 1)
}

func TestPutIsUse(t *testing.T) {
	c := abc(t)
	put(t, c, 1, one(1), false)
	put(t, c, 4, one(4), false)
	mustHave(t, c, 3, 1, 4)
	mustNotHave(t, c, 2)
}

func TestPutMakesItTheBlockThere(t *testing.T) {
	c := abc(t)
	for _, b := range []api.Block{one(9), {}, {Kind: -1}, block(math.MaxInt, 3)} {
		put(t, c, 2, b, false)
		mustPeek(t, c, 2, b)
		mustGet(t, c, 2, b)
		mustHaveLen(t, c, 3)
	}
	mustPeek(t, c, 1, one(1))
	mustPeek(t, c, 3, one(3))
}

func TestWhatIsNotThereIsNoUse(t *testing.T) {
	c := abc(t)
	for _, at := range []int{-1, 0, 4, 199, math.MinInt, math.MaxInt} {
		mustNotHave(t, c, at)
	}
	put(t, c, 5, one(5), false)
	mustHave(t, c, 2, 3, 5)
}

func TestDirtyIfItWasOrIs(t *testing.T) {
	for _, was := range []bool{false, true} {
		for _, is := range []bool{false, true} {
			c := cache.New(2)
			put(t, c, 1, one(1), was)
			put(t, c, 2, one(2), false)
			put(t, c, 1, one(9), is)
			mustGet(t, c, 2, one(2))
			if !was && !is {
				mustBeDirty(t, c)
				put(t, c, 3, one(3), false)
				continue
			}
			mustBeDirty(t, c, api.Write{At: 1, B: one(9)})
			putTells(t, c, 3, one(3), false, 1, one(9))
			mustBeDirty(t, c)
		}
	}
}

func TestToBeUsedMakesNothingCleanOrDirty(t *testing.T) {
	c := cache.New(3)
	put(t, c, 1, one(1), true)
	put(t, c, 2, one(2), false)
	put(t, c, 3, one(3), true)
	for _, at := range []int{2, 1, 3, 3, 1, 2, 2} {
		mustGet(t, c, at, one(at))
		mustPeek(t, c, at, one(at))
		mustBeDirty(t, c, api.Write{At: 1, B: one(1)}, api.Write{At: 3, B: one(3)})
	}
	putTells(t, c, 4, one(4), false, 3, one(3))
	putTells(t, c, 5, one(5), false, 1, one(1))
	put(t, c, 6, one(6), false)
}

func TestWhatCameBackIsClean(t *testing.T) {
	c := cache.New(1)
	put(t, c, 1, one(1), true)
	putTells(t, c, 2, one(2), false, 1, one(1))
	put(t, c, 1, one(1), false)
	mustBeDirty(t, c)
	put(t, c, 2, one(2), false)
}

func TestDirtyIsByAt(t *testing.T) {
	places := []int{7, -3, math.MaxInt, 0, math.MinInt, 199, 1, -1, 200, math.MaxInt - 1, math.MinInt + 1, 1 << 53, 1<<53 + 1}
	c := cache.New(50)
	var want []api.Write
	for i, at := range places {
		put(t, c, at, one(i), true)
		put(t, c, 1000+i, one(i), false)
		want = append(want, api.Write{At: at, B: one(i)})
	}
	slices.SortFunc(want, func(a, b api.Write) int { return cmp.Compare(a.At, b.At) })
	mustBeDirty(t, c, want...)
	// Neither is told less the second time, nor is it by use.
	mustGet(t, c, 7, one(0))
	mustBeDirty(t, c, want...)
	mustHaveLen(t, c, 2*len(places))
}

func TestPlacesAreHeldApart(t *testing.T) {
	// As floats, or as fewer bits, some of these are one.
	places := []int{
		0, -1, 1, 1 << 8, 1 << 16, 1 << 32, 1<<32 + 1, 1 << 53, 1<<53 + 1, 1<<53 + 2, 1<<53 + 3,
		-1 << 53, -1<<53 - 1, math.MaxInt, math.MaxInt - 1, math.MinInt, math.MinInt + 1, 1 << 62, 1<<62 + 1,
	}
	c := cache.New(len(places))
	for i, at := range places {
		mustNotHave(t, c, at)
		put(t, c, at, one(i), false)
	}
	for i, at := range places {
		mustGet(t, c, at, one(i))
	}
	mustHaveLen(t, c, len(places))
}

func TestClean(t *testing.T) {
	c := cache.New(3)
	for at := 1; at <= 3; at++ {
		put(t, c, at, one(at), at != 2)
	}
	c.Clean()
	mustBeDirty(t, c)
	mustHave(t, c, 1, 2, 3)
	// It is no use either: 1 goes, and is not told, then 2.
	put(t, c, 4, one(4), false)
	mustHave(t, c, 2, 3, 4)
	put(t, c, 3, one(3), true)
	mustBeDirty(t, c, api.Write{At: 3, B: one(3)})
	put(t, c, 5, one(5), false)
	put(t, c, 6, one(6), false)
	putTells(t, c, 7, one(7), false, 3, one(3))
	c.Clean()
	c.Clean()
	mustBeDirty(t, c)
}

// step does to both what a number of all sorts says, and holds against each
// other what they tell.
func step(t *testing.T, c *cache.Cache, m *model, s *some) {
	t.Helper()
	at := int(s.next()%uint32(2*m.most+2)) - 1
	switch what := s.next() % 16; {
	case what < 7:
		b, dirty := block(int(s.next()%8), s.next()), s.next()%3 == 0
		w, ok := c.Put(at, b, dirty)
		if want, told := m.put(at, b, dirty); ok != told || w != want {
			t.Fatalf("Put(%d): %v, %v, not %v, %v", at, w, ok, want, told)
		}
	case what < 12:
		b, ok := c.Get(at)
		if want, has := m.get(at); ok != has || b != want {
			t.Fatalf("Get(%d): %v, %v, not %v, %v", at, b, ok, want, has)
		}
	case what < 15:
		b, ok := c.Peek(at)
		if want, has := m.peek(at); ok != has || b != want {
			t.Fatalf("Peek(%d): %v, %v, not %v, %v", at, b, ok, want, has)
		}
	case s.next()%4 == 0:
		c.Clean()
		m.clean()
	}
	if c.Len() != len(m.frames) {
		t.Fatalf("Len: %d, not %d", c.Len(), len(m.frames))
	}
	if l := c.Dirty(); !slices.Equal(l, m.dirty()) {
		t.Fatalf("Dirty: %v, not %v", l, m.dirty())
	}
}

func TestLongRunsAreAsTheModel(t *testing.T) {
	for most := 1; most <= 50; most++ {
		t.Run(fmt.Sprint(most), func(t *testing.T) {
			s := some(most)
			c, m := cache.New(most), &model{most: most}
			for range 3000 {
				step(t, c, m, &s)
			}
			for _, f := range m.frames {
				mustPeek(t, c, f.at, f.b)
			}
		})
	}
}

func TestCachesAreApart(t *testing.T) {
	a, b := cache.New(2), cache.New(2)
	put(t, a, 1, one(1), true)
	put(t, b, 1, one(2), false)
	put(t, b, 2, one(2), false)
	mustHave(t, a, 1)
	mustBeDirty(t, a, api.Write{At: 1, B: one(1)})
	mustBeDirty(t, b)
	put(t, b, 3, one(3), true)
	a.Clean()
	mustBeDirty(t, b, api.Write{At: 3, B: one(3)})
	mustPeek(t, a, 1, one(1))
}

func TestWhatIsToldIsNew(t *testing.T) {
	c := cache.New(3)
	put(t, c, 1, one(1), true)
	put(t, c, 2, one(2), true)
	l := c.Dirty()
	l[0] = api.Write{At: 9, B: one(9)}
	_ = append(l[:1], api.Write{At: 8, B: one(8)})
	mustBeDirty(t, c, api.Write{At: 1, B: one(1)}, api.Write{At: 2, B: one(2)})

	l = c.Dirty()
	put(t, c, 1, one(7), true)
	put(t, c, 3, one(3), true)
	putTells(t, c, 4, one(4), true, 2, one(2))
	want := []api.Write{{At: 1, B: one(1)}, {At: 2, B: one(2)}}
	if !slices.Equal(l, want) {
		t.Errorf("what was told has changed: %v", l)
	}
}

func TestNilHasNothing(t *testing.T) {
	var c *cache.Cache
	for _, at := range []int{-1, 0, 1, math.MinInt, math.MaxInt} {
		put(t, c, at, one(1), true)
		put(t, c, at, one(1), false)
		mustNotHave(t, c, at)
	}
	c.Clean()
	mustBeDirty(t, c)
	mustHaveLen(t, c, 0)
}

// A Cache that New did not make is one of as few frames as there may be.
func TestZeroCache(t *testing.T) {
	var c cache.Cache
	mustNotHave(t, &c, 0)
	mustBeDirty(t, &c)
	c.Clean()
	mustHaveLen(t, &c, 0)
	put(t, &c, 0, one(1), true)
	putTells(t, &c, 1, one(2), false, 0, one(1))
	mustHaveLen(t, &c, 1)
}

// Two that were one share what they have: what they tell is promised nowhere,
// but none panics.
func TestNoCopyPanics(t *testing.T) {
	for frames := 1; frames <= 6; frames++ {
		s := some(frames)
		a := cache.New(frames)
		b := *a
		for i := range 20000 {
			c := a
			if s.next()%2 == 0 {
				c = &b
			}
			c.Put(int(s.next()%9), one(int(s.next()%9)), s.next()%2 == 0)
			c.Get(int(s.next() % 9))
			c.Dirty()
			c.Clean()
			if i%50 == 0 {
				b = *a
			}
		}
	}
}
