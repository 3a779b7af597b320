package area_test

import (
	"math"
	"slices"
	"testing"

	"clathri/api"
	"clathri/area"
	"clathri/dev"
)

func share(blocks, log int) api.Share {
	return api.Share{Label: api.Label{Level: 1, Cats: 2}, Blocks: blocks, Log: log, Frames: 3}
}

// at is that share of a label of its own for each place.
func at(place int, s api.Share) api.Share {
	s.Label = api.Label{Level: place / 16, Cats: place % 16}
	return s
}

// nowhere is places that no area of a share that may be has, such as would
// wrap round to one within, and the ends of int.
func nowhere() []int {
	return []int{
		-1, -2, -3, -16, -200, -1 << 31, -1 << 32, -1<<32 + 1, math.MinInt, math.MinInt + 1,
		201, 255, 256, 1 << 16, 1<<31 - 1, 1 << 31, 1 << 32, 1<<32 + 1, 1<<53 + 1, math.MaxInt - 1, math.MaxInt,
	}
}

func TestSizeOfKnownOnes(t *testing.T) {
	for _, x := range []struct{ blocks, log, want int }{
		{4, 16, 22},
		{200, 100, 302},
		{4, 100, 106},
		{200, 16, 218},
		{5, 16, 23},
		{4, 17, 23},
		{50, 20, 72},
	} {
		if got := area.Size(share(x.blocks, x.log)); got != x.want {
			t.Errorf("%d blocks, a log of %d: %d, not %d", x.blocks, x.log, got, x.want)
		}
	}
}

func TestAnchor(t *testing.T) {
	for epoch, want := range map[uint32]int{
		0: 0, 1: 1, 2: 0, 3: 1, 7: 1, 8: 0, 255: 1, 256: 0,
		1<<31 - 1: 1, 1 << 31: 0, 1<<31 + 1: 1, 1<<32 - 3: 1, 1<<32 - 2: 0, 1<<32 - 1: 1,
	} {
		if got := area.Anchor(epoch); got != want {
			t.Errorf("Anchor(%d): %d", epoch, got)
		}
	}
	for epoch := range uint32(3000) {
		if got := area.Anchor(epoch); got != int(epoch&1) {
			t.Errorf("Anchor(%d): %d", epoch, got)
		}
	}
}

func TestLogAndHomeOfKnownOnes(t *testing.T) {
	for _, x := range []struct{ blocks, log, i, inLog, home int }{
		{4, 16, 0, 2, 18},
		{4, 16, 3, 5, 21},
		{4, 16, 4, 6, -1},
		{4, 16, 15, 17, -1},
		{4, 16, 16, -1, -1},
		{4, 16, -1, -1, -1},
		{200, 16, 15, 17, 33},
		{200, 16, 16, -1, 34},
		{200, 16, 199, -1, 217},
		{200, 16, 200, -1, -1},
		{200, 100, 0, 2, 102},
		{200, 100, 99, 101, 201},
		{200, 100, 100, -1, 202},
		{200, 100, 199, -1, 301},
		{200, 100, 200, -1, -1},
		{4, 100, 3, 5, 105},
		{4, 100, 4, 6, -1},
		{4, 100, 99, 101, -1},
		{4, 100, 100, -1, -1},
	} {
		s := share(x.blocks, x.log)
		if got := area.Log(s, x.i); got != x.inLog {
			t.Errorf("Log(%v, %d): %d, not %d", s, x.i, got, x.inLog)
		}
		if got := area.Home(s, x.i); got != x.home {
			t.Errorf("Home(%v, %d): %d, not %d", s, x.i, got, x.home)
		}
	}
}

// TestEachBlockIsOneThing goes through all shares that may be: anchors, log
// and homes, one behind the other, are all blocks of the region, each once.
func TestEachBlockIsOneThing(t *testing.T) {
	for log := 16; log <= 100; log++ {
		for blocks := 4; blocks <= 200; blocks++ {
			s := share(blocks, log)
			row := []int{area.Anchor(0), area.Anchor(1)}
			for i := range log {
				row = append(row, area.Log(s, i))
			}
			for i := range blocks {
				row = append(row, area.Home(s, i))
			}
			for want, got := range row {
				if got != want {
					t.Fatalf("%v: %d stands where %d does", s, got, want)
				}
			}
			if got := area.Size(s); got != len(row) {
				t.Fatalf("%v: %d blocks, not %d", s, got, len(row))
			}
		}
	}
}

func TestNoBlock(t *testing.T) {
	for log := 16; log <= 100; log += 7 {
		for blocks := 4; blocks <= 200; blocks += 7 {
			s := share(blocks, log)
			for _, i := range append(nowhere(), log, log+1, log+blocks, log+blocks+2) {
				if got := area.Log(s, i); got != api.NoBlock {
					t.Errorf("Log(%v, %d): %d", s, i, got)
				}
			}
			for _, i := range append(nowhere(), blocks, blocks+1, log+blocks, log+blocks+2) {
				if got := area.Home(s, i); got != api.NoBlock {
					t.Errorf("Home(%v, %d): %d", s, i, got)
				}
			}
		}
	}
}

// TestLabelAndFramesDoNotCount: of a share its blocks and its log alone say
// what lies where.
func TestLabelAndFramesDoNotCount(t *testing.T) {
	for _, l := range []api.Label{{}, {Level: 3, Cats: 15}, {Level: -1, Cats: 99}} {
		for _, frames := range []int{1, 50, 0, -7, math.MaxInt} {
			s := api.Share{Label: l, Blocks: 9, Log: 30, Frames: frames}
			if area.Size(s) != 41 || area.Log(s, 29) != 31 || area.Home(s, 8) != 40 || area.Log(s, 30) != -1 || area.Home(s, 9) != -1 {
				t.Errorf("%v: %d %d %d", s, area.Size(s), area.Log(s, 29), area.Home(s, 8))
			}
		}
	}
}

// TestOtherShares: Size, Log and Home ask for no share that may be: of others
// too they are by their words.
func TestOtherShares(t *testing.T) {
	numbers := []int{0, 1, 2, 3, 15, 101, 201, 1000, 1 << 16, 1<<24 + 1, 1<<31 - 1}
	for _, log := range numbers {
		for _, blocks := range numbers {
			s := share(blocks, log)
			if got := area.Size(s); got != 2+log+blocks {
				t.Errorf("Size(%v): %d", s, got)
			}
			for _, i := range []int{-1, 0, 1, 14, 15, log - 1, log, log + 1, blocks - 1, blocks, blocks + 1} {
				inLog, home := api.NoBlock, api.NoBlock
				if i >= 0 && i < log {
					inLog = 2 + i
				}
				if i >= 0 && i < blocks {
					home = 2 + log + i
				}
				if got := area.Log(s, i); got != inLog {
					t.Errorf("Log(%v, %d): %d, not %d", s, i, got, inLog)
				}
				if got := area.Home(s, i); got != home {
					t.Errorf("Home(%v, %d): %d, not %d", s, i, got, home)
				}
			}
		}
	}
}

// TestEveryCallEnds: of a log or blocks below 0 there are none, and numbers
// that no region has are no fault.
func TestEveryCallEnds(t *testing.T) {
	numbers := []int{math.MinInt, -1 << 53, -200, -1, 0, 1, 1<<53 + 1, math.MaxInt}
	for _, log := range numbers {
		for _, blocks := range numbers {
			s := share(blocks, log)
			area.Size(s)
			for _, i := range append(nowhere(), 0, 1, 16) {
				if got := area.Log(s, i); log <= 0 && got != api.NoBlock {
					t.Errorf("Log(%v, %d): %d", s, i, got)
				}
				if got := area.Home(s, i); blocks <= 0 && got != api.NoBlock {
					t.Errorf("Home(%v, %d): %d", s, i, got)
				}
			}
			if got := area.Sizes(api.Config{s}); len(got) != 0 {
				t.Errorf("Sizes of %v: %v", s, got)
			}
		}
	}
}

func TestSizes(t *testing.T) {
	for _, x := range []struct {
		c    api.Config
		want []int
	}{
		{api.Config{share(4, 16)}, []int{22}},
		{api.Config{share(200, 100)}, []int{302}},
		{api.Config{at(0, share(4, 16)), at(16, share(200, 100))}, []int{22, 302}},
		{api.Config{at(63, share(200, 100)), at(0, share(4, 16))}, []int{302, 22}},
		{api.Config{at(5, share(10, 20)), at(4, share(10, 20)), at(37, share(11, 20))}, []int{32, 32, 33}},
	} {
		if got := area.Sizes(x.c); !slices.Equal(got, x.want) {
			t.Errorf("Sizes(%v): %v, not %v", x.c, got, x.want)
		}
	}
}

// TestSizesMakeADevice: of as many labels as may be, and as few, there is a
// device with those regions, each of just so many blocks.
func TestSizesMakeADevice(t *testing.T) {
	for n := 1; n <= 8; n++ {
		var c api.Config
		for i := range n {
			c = append(c, at(9*i, share(200-28*i, 16+12*i)))
		}
		d, ok := dev.New(area.Sizes(c))
		if !ok || d.Regions() != n {
			t.Fatalf("%d labels: %v", n, area.Sizes(c))
		}
		for i, s := range c {
			last := area.Home(s, s.Blocks-1)
			if !d.Write(i, last, make([]byte, api.Size)) || d.Write(i, last+1, make([]byte, api.Size)) {
				t.Errorf("%v: %v: the last block is not %d", c, area.Sizes(c), last)
			}
		}
	}
}

func TestSizesOfWrongOnes(t *testing.T) {
	var nine api.Config
	for i := range 9 {
		nine = append(nine, at(i, share(4, 16)))
	}
	wrong := []api.Config{
		nil, {}, nine,
		{share(4, 16), share(4, 16)},
		{share(4, 16), share(5, 17)},
	}
	for _, s := range []api.Share{
		share(3, 16), share(201, 16), share(4, 15), share(4, 101), share(0, 0), share(-4, 16), share(4, -16), {},
		{Blocks: 4, Log: 16, Frames: 0}, {Blocks: 4, Log: 16, Frames: 51},
		{Label: api.Label{Level: 4}, Blocks: 4, Log: 16, Frames: 1},
		{Label: api.Label{Cats: 16}, Blocks: 4, Log: 16, Frames: 1},
	} {
		wrong = append(wrong, api.Config{s}, api.Config{s, at(63, share(4, 16))}, api.Config{at(63, share(4, 16)), s})
	}
	for _, c := range wrong {
		if got := area.Sizes(c); len(got) != 0 {
			t.Errorf("Sizes(%v): %v", c, got)
		}
	}
	if got := area.Sizes(nine[:8]); len(got) != 8 {
		t.Errorf("eight: %v", got)
	}
}

func TestNothingIsChangedAndAllIsNew(t *testing.T) {
	c := api.Config{at(1, share(4, 16)), at(0, share(200, 100)), at(2, share(7, 50))}
	was := slices.Clone(c)
	l := area.Sizes(c[:2])
	same := area.Sizes(c[:2])
	_ = append(l, 77)
	clear(l)
	if !slices.Equal(c, was) {
		t.Errorf("changed: %v", c)
	}
	if !slices.Equal(same, []int{22, 302}) || !slices.Equal(area.Sizes(c), []int{22, 302, 59}) {
		t.Errorf("%v %v", same, area.Sizes(c))
	}
	clear(c)
	if !slices.Equal(same, []int{22, 302}) {
		t.Errorf("hangs on the config: %v", same)
	}
}
