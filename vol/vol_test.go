package vol_test

import (
	"bytes"
	"encoding/binary"
	"encoding/hex"
	"hash/adler32"
	"math"
	"slices"
	"strings"
	"testing"

	"clathri/api"
	"clathri/dev"
	"clathri/vol"
)

// some is a row of numbers of all sorts.
type some uint32

func (s *some) next() uint32 {
	*s = *s*1664525 + 1013904223
	return uint32(*s >> 8)
}

func (s *some) below(n int) int {
	return int(s.next() % uint32(n))
}

// share is a share of the label that has both numbers 0.
func share(blocks, log int) api.Share {
	return api.Share{Blocks: blocks, Log: log, Frames: 3}
}

func labelled(level, cats int, s api.Share) api.Share {
	s.Label = api.Label{Level: level, Cats: cats}
	return s
}

// block is a block of that kind, its body of all sorts of bytes.
func block(kind int, seed uint32) api.Block {
	s := some(seed)
	b := api.Block{Kind: kind}
	for i := range b.Body {
		b.Body[i] = byte(s.next())
	}
	return b
}

// one is a block that is told by a letter.
func one(c byte) api.Block {
	b := api.Block{Kind: api.Data}
	b.Body[0] = c
	return b
}

// all is writes of that letter there.
func all(c byte, at ...int) []api.Write {
	var l []api.Write
	for _, i := range at {
		l = append(l, api.Write{At: i, B: one(c)})
	}
	return l
}

// summed is those bytes, noughts behind them to 60, and their sum.
func summed(front ...byte) []byte {
	c := append(slices.Clone(front), make([]byte, 60-len(front))...)
	return binary.BigEndian.AppendUint32(c, adler32.Checksum(c))
}

func two(n uint32) []byte {
	return []byte{byte(n >> 8), byte(n)}
}

func four(n uint32) []byte {
	return append(two(n>>16), two(n)...)
}

// sealed is a block at home, by the words of its chapter.
func sealed(label byte, at int, b api.Block) []byte {
	return summed(append([]byte{byte(b.Kind), label, byte(at >> 8), byte(at)}, b.Body[:]...)...)
}

// anchor is an epoch's anchor, by the words of its chapter.
func anchor(label byte, epoch uint32) []byte {
	return summed(append([]byte{'A', 'N', label}, four(epoch)...)...)
}

// record is a change as blocks, by the words of its chapter.
func record(label byte, epoch, seq uint32, l []api.Write) [][]byte {
	head := append([]byte{'H', label}, append(four(epoch), four(seq)...)...)
	head = append(head, byte(len(l)))
	for _, w := range l {
		head = append(append(head, two(uint32(w.At))...), byte(w.B.Kind))
	}
	log := [][]byte{summed(head...)}
	for _, w := range l {
		log = append(log, summed(append(slices.Clone(w.B.Body[:]), append(two(epoch), two(seq)...)...)...))
	}
	return log
}

// taken is the writes whose record the log begins with.
func taken(label byte, epoch, seq uint32, log [][]byte) ([]api.Write, bool) {
	if len(log) == 0 {
		return nil, false
	}
	n := int(log[0][10])
	if n < 1 || n > 12 || n >= len(log) {
		return nil, false
	}
	var l []api.Write
	there := map[int]int{}
	for i := range n {
		w := api.Write{At: int(binary.BigEndian.Uint16(log[0][11+3*i:]))}
		w.B.Kind = int(log[0][13+3*i])
		w.B.Body = [56]byte(log[1+i][:56])
		l = append(l, w)
		there[w.At]++
		if w.B.Kind > 7 || w.At > 199 || there[w.At] > 1 {
			return nil, false
		}
	}
	return l, slices.EqualFunc(record(label, epoch, seq, l), log[:1+n], bytes.Equal)
}

// model is a volume by the words of the promises. It has bytes of the region
// only when it is mounted, and tells what it would write.
type model struct {
	s      api.Share
	label  byte
	blocks []api.Block
	logged map[int]int
	epoch  uint32
	seq    uint32
	used   int

	trace [][]byte
}

func (m *model) write(i int, b []byte) {
	m.trace = append(m.trace, append(two(uint32(i)), b...))
}

func (m *model) barrier() {
	m.trace = append(m.trace, []byte{255, 255})
}

func (m *model) home() {
	for at, b := range m.blocks {
		if m.logged[at] > 0 {
			m.write(2+m.s.Log+at, sealed(m.label, at, b))
		}
	}
	m.barrier()
	m.epoch++
	m.write(int(m.epoch%2), anchor(m.label, m.epoch))
	m.barrier()
	m.seq, m.used, m.logged = 0, 0, map[int]int{}
}

func (m *model) tidy() {
	m.barrier()
	m.home()
}

func (m *model) lay(l []api.Write) {
	for _, w := range l {
		if w.At < len(m.blocks) {
			m.blocks[w.At] = w.B
			m.logged[w.At]++
		}
	}
}

func (m *model) change(l []api.Write) api.Errno {
	there := map[int]int{}
	for _, w := range l {
		there[w.At]++
		if w.B.Kind < 0 || w.B.Kind > 7 || w.At < 0 || w.At >= m.s.Blocks || there[w.At] > 1 {
			return api.EArg
		}
	}
	if len(l) < 1 || len(l) > 12 {
		return api.EArg
	}
	if m.used+1+len(l) > m.s.Log {
		m.tidy()
	}
	for _, b := range record(m.label, m.epoch, m.seq, l) {
		m.write(2+m.used, b)
		m.used++
	}
	m.seq++
	m.lay(l)
	return api.OK
}

// mounted is the model of what the region has; nil: it is corrupt.
func mounted(d *dev.Dev, region int, s api.Share) *model {
	m := &model{s: s, label: byte(s.Label.Level*16 + s.Label.Cats), blocks: make([]api.Block, s.Blocks), logged: map[int]int{}}
	found := false
	for i := range uint32(2) {
		b, ok := d.Read(region, int(i))
		if !ok || len(b) != 64 {
			continue
		}
		e := binary.BigEndian.Uint32(b[3:])
		if e != math.MaxUint32 && e%2 == i && bytes.Equal(b, anchor(m.label, e)) {
			m.epoch, found = max(m.epoch, e), true
		}
	}
	if !found {
		return nil
	}
	var log [][]byte
	for i := range s.Log {
		if b, ok := d.Read(region, 2+i); ok {
			log = append(log, b)
		}
	}
	for seq := uint32(0); ; seq++ {
		l, ok := taken(m.label, m.epoch, seq, log)
		if !ok {
			break
		}
		m.lay(l)
		log = log[1+len(l):]
	}
	for at := range s.Blocks {
		if m.logged[at] > 0 {
			continue
		}
		b, ok := d.Read(region, 2+s.Log+at)
		if !ok {
			return nil
		}
		x := api.Block{Kind: int(b[0]), Body: [56]byte(b[4:60])}
		if x.Kind > 7 || !bytes.Equal(b, sealed(m.label, at, x)) {
			return nil
		}
		m.blocks[at] = x
	}
	m.home()
	return m
}

// device is one on which there is room for the share in region 1, and some
// beside it.
func device(t *testing.T, s api.Share) *dev.Dev {
	t.Helper()
	d, ok := dev.New([]int{30, 2 + s.Log + s.Blocks, 30})
	if !ok {
		t.Fatal("New")
	}
	return d
}

func mustMake(t *testing.T, d *dev.Dev, region int, s api.Share) {
	t.Helper()
	if !vol.Make(d, region, s) {
		t.Fatalf("Make(%d, %v): no", region, s)
	}
}

func mustMount(t *testing.T, d *dev.Dev, region int, s api.Share) *vol.Vol {
	t.Helper()
	v, e := vol.Mount(d, region, s)
	if e != api.OK || v == nil {
		t.Fatalf("Mount(%d, %v): %v, %d", region, s, v, e)
	}
	return v
}

func mustNotMount(t *testing.T, d *dev.Dev, region int, s api.Share) {
	t.Helper()
	before := len(d.Trace(region))
	if v, e := vol.Mount(d, region, s); e != api.ECorrupt || v != nil {
		t.Fatalf("Mount(%d, %v): %v, %d", region, s, v, e)
	}
	if len(d.Trace(region)) != before {
		t.Fatalf("Mount(%d, %v) that is corrupt: something is written", region, s)
	}
}

func mustChange(t *testing.T, v *vol.Vol, l []api.Write) {
	t.Helper()
	if e := v.Change(l); e != api.OK {
		t.Fatalf("Change(%v): %d", l, e)
	}
}

// made is a volume in region 1 of a device, and that.
func made(t *testing.T, s api.Share) (*dev.Dev, *vol.Vol) {
	t.Helper()
	d := device(t, s)
	mustMake(t, d, 1, s)
	return d, mustMount(t, d, 1, s)
}

// said is the first bytes of a volume's blocks, noughts as dots.
func said(v *vol.Vol) string {
	var out []byte
	for at := range v.Blocks() {
		b, ok := v.Get(at)
		if !ok {
			return "-"
		}
		out = append(out, b.Body[0])
	}
	return strings.ReplaceAll(string(out), "\x00", ".")
}

// told is a trace by the places that are written alone; -1: a Barrier.
func told(l [][]byte) []int {
	var places []int
	for _, b := range l {
		if len(b) == 2 {
			places = append(places, -1)
			continue
		}
		places = append(places, int(binary.BigEndian.Uint16(b)))
	}
	return places
}

func hasBarrier(l [][]byte) bool {
	return slices.Contains(told(l), -1)
}

// run is a volume and its model, side by side.
type run struct {
	d    *dev.Dev
	s    api.Share
	v    *vol.Vol
	m    *model
	seen int // how much of the trace
}

// traced is what is written in region 1 that was not asked for yet.
func (r *run) traced() [][]byte {
	l := r.d.Trace(1)[r.seen:]
	r.seen += len(l)
	return l
}

func (r *run) mustBeAlike(t *testing.T, what string) {
	t.Helper()
	want := r.m.trace
	r.m.trace = nil
	if l := r.traced(); !slices.EqualFunc(l, want, bytes.Equal) {
		t.Fatalf("%s: written at %v, want at %v:\n%x\n%x", what, told(l), told(want), l, want)
	}
	if r.v.Epoch() != r.m.epoch || r.v.Room() != r.s.Log-r.m.used || r.v.Blocks() != r.s.Blocks {
		t.Fatalf("%s: Epoch %d, Room %d, Blocks %d; want %d, %d, %d", what, r.v.Epoch(), r.v.Room(), r.v.Blocks(), r.m.epoch, r.s.Log-r.m.used, r.s.Blocks)
	}
	for at, want := range r.m.blocks {
		if b, ok := r.v.Get(at); !ok || b != want {
			t.Fatalf("%s: Get(%d): %v, %v; want %v", what, at, b, ok, want)
		}
	}
	for _, at := range []int{-1, r.s.Blocks, r.s.Blocks + 1, math.MinInt, math.MaxInt} {
		if b, ok := r.v.Get(at); ok || b != (api.Block{}) {
			t.Fatalf("%s: Get(%d): %v, %v", what, at, b, ok)
		}
	}
	for _, region := range []int{0, 2} {
		if l := r.d.Trace(region); len(l) != 0 {
			t.Fatalf("%s: region %d is written: %x", what, region, l)
		}
	}
}

// mount mounts what the region has; no: it is corrupt, for both of them.
func (r *run) mount(t *testing.T, what string) bool {
	t.Helper()
	r.traced()
	m := mounted(r.d, 1, r.s)
	v, e := vol.Mount(r.d, 1, r.s)
	if m == nil {
		if e != api.ECorrupt || v != nil || len(r.traced()) != 0 {
			t.Fatalf("%s: %v, %d; want that it is corrupt", what, v, e)
		}
		return false
	}
	if e != api.OK || v == nil {
		t.Fatalf("%s: %v, %d; want that it is mounted", what, v, e)
	}
	r.v, r.m = v, m
	r.mustBeAlike(t, what)
	return true
}

// started is both of them, of a volume that was made.
func started(t *testing.T, s api.Share) *run {
	t.Helper()
	r := &run{d: device(t, s), s: s}
	mustMake(t, r.d, 1, s)
	if !r.mount(t, "Mount of what was made") {
		t.Fatal("Mount of what was made: it is corrupt")
	}
	return r
}

// anyWrites is a change of all sorts; some are none.
func anyWrites(x *some, blocks int) []api.Write {
	n := 1 + x.below(12)
	if x.below(12) == 0 {
		n = x.below(15)
	}
	first, step := x.below(blocks), 1+x.below(blocks)
	var l []api.Write
	for i := range n {
		l = append(l, api.Write{At: (first + i*step) % blocks, B: block(x.below(8), x.next())})
	}
	if n > 0 && x.below(12) == 0 {
		l[x.below(n)].At = []int{-1, blocks, blocks + 1, 200, 65536, math.MinInt, math.MaxInt}[x.below(7)]
	}
	if n > 0 && x.below(12) == 0 {
		l[x.below(n)].B.Kind = []int{-1, 8, 256, math.MinInt, math.MaxInt}[x.below(5)]
	}
	return l
}

// aChange is one that may be.
func aChange(x *some, blocks int) []api.Write {
	var l []api.Write
	first := x.below(blocks)
	for i := range 1 + x.below(min(blocks, 12)) {
		l = append(l, api.Write{At: (first + i) % blocks, B: block(x.below(8), x.next())})
	}
	// The greatest place isn't always at the end.
	if x.below(2) == 0 {
		slices.Reverse(l)
	}
	return l
}

// shares is such as there may be, at the edges of what a share has.
func shares() []api.Share {
	return []api.Share{
		share(4, 16), share(5, 17), labelled(3, 15, share(13, 29)), labelled(1, 2, share(31, 100)),
		labelled(0, 15, share(12, 16)), labelled(2, 0, share(200, 100)), share(200, 16), share(4, 100),
	}
}

func TestExample(t *testing.T) {
	for _, s := range shares() {
		_, v := made(t, s)
		if v.Epoch() != 2 || v.Room() != s.Log || v.Blocks() != s.Blocks {
			t.Errorf("%v: Epoch %d, Room %d, Blocks %d", s, v.Epoch(), v.Room(), v.Blocks())
		}
	}
}

// TestKnown: what is written of a volume, as bytes.
func TestKnown(t *testing.T) {
	s := labelled(2, 3, share(4, 16))
	d, v := made(t, s)
	mustChange(t, v, []api.Write{
		{At: 3, B: api.Block{Kind: api.Data, Body: [56]byte{'a', 'b', 'c'}}},
		{At: 0, B: api.Block{Kind: api.Super, Body: [56]byte{0, 0, 0, 2}}},
	})
	v.Sync()
	v.Tidy()
	z := func(n int) string { return strings.Repeat("00", n) }
	want := []string{
		// Make
		"0012" + "0723000000000001" + z(52) + "0a26002c",
		"0013" + "00230001" + z(56) + "08860025",
		"0014" + "00230002" + z(56) + "08bf0026",
		"0015" + "00230003" + z(56) + "08f80027",
		"ffff",
		"0001" + "414e2300000001" + z(53) + "299600b4",
		"ffff",
		// Mount
		"ffff",
		"0000" + "414e2300000002" + z(53) + "29cc00b5",
		"ffff",
		// Change
		"0002" + "4823000000020000000002000304000007" + z(43) + "1c7f007e",
		"0003" + "616263" + z(53) + "00020000" + "44020129",
		"0004" + "00000002" + z(52) + "00020000" + "00b40005",
		// Sync
		"ffff",
		// Tidy
		"ffff",
		"0012" + "0723000000000002" + z(52) + "0a5b002d",
		"0015" + "04230003616263" + z(53) + "49100151",
		"ffff",
		"0001" + "414e2300000003" + z(53) + "2a0200b6",
		"ffff",
	}
	var l []string
	for _, b := range d.Trace(1) {
		l = append(l, hex.EncodeToString(b))
	}
	if !slices.Equal(l, want) {
		t.Errorf("written:\n%s\nwant:\n%s", strings.Join(l, "\n"), strings.Join(want, "\n"))
	}
}

func TestMakeOfAllLabels(t *testing.T) {
	for level := range 4 {
		for cats := range 16 {
			s := labelled(level, cats, share(7, 16))
			d := device(t, s)
			mustMake(t, d, 1, s)
			b := byte(16*level + cats)
			m := &model{s: s, label: b}
			for at := range 7 {
				x := api.Block{}
				if at == 0 {
					x.Kind, x.Body[3] = api.Super, 1
				}
				m.write(18+at, sealed(b, at, x))
			}
			m.barrier()
			m.write(1, anchor(b, 1))
			m.barrier()
			if l := d.Trace(1); !slices.EqualFunc(l, m.trace, bytes.Equal) {
				t.Errorf("Make of %v: %x", s, l)
			}
			if len(d.Trace(0)) != 0 || len(d.Trace(2)) != 0 {
				t.Errorf("Make of %v: another region is written", s)
			}
			d.Crash(nil)
			if v := mustMount(t, d, 1, s); v.Epoch() != 2 {
				t.Errorf("Mount of %v: epoch %d", s, v.Epoch())
			}
			mustNotMount(t, d, 1, labelled(level, (cats+1)%16, s))
			mustNotMount(t, d, 1, labelled((level+1)%4, cats, s))
		}
	}
}

// mustNotMake: no, and nothing is written.
func mustNotMake(t *testing.T, d *dev.Dev, region int, s api.Share) {
	t.Helper()
	if vol.Make(d, region, s) {
		t.Errorf("Make(%d, %v): yes", region, s)
	}
	for i := range d.Regions() {
		if l := d.Trace(i); len(l) != 0 {
			t.Errorf("Make(%d, %v): region %d is written: %x", region, s, i, l)
		}
	}
}

func TestMakeOfNothing(t *testing.T) {
	for _, s := range shares() {
		n := 2 + s.Log + s.Blocks
		d, _ := dev.New([]int{n - 1, 1, n, n + 1})
		mustNotMake(t, nil, 0, s)
		for _, region := range []int{0, 1, -1, 4, 1 << 32, math.MinInt, math.MaxInt} {
			mustNotMake(t, d, region, s)
		}
		mustMake(t, d, 2, s)
		mustMake(t, d, 3, s)
		if l := told(d.Trace(3)); slices.Max(l) != n-1 {
			t.Errorf("%v: written at %v", s, l)
		}
	}
}

// beyond is shares that there can't be.
func beyond() []api.Share {
	ok := share(5, 16)
	l := []api.Share{
		labelled(-1, 0, ok), labelled(4, 0, ok), labelled(0, -1, ok), labelled(0, 16, ok), labelled(math.MaxInt, math.MinInt, ok),
	}
	for _, n := range []int{-1, -2, -16, -17, -18, -1000, math.MinInt, math.MinInt + 1} {
		l = append(l, share(5, n), share(n, 16), share(n, n), share(-n, n), share(100-n, n))
	}
	for _, n := range []int{201, 982, 983, 1 << 31, 1 << 32, 1 << 53, 1 << 62, math.MaxInt - 1, math.MaxInt} {
		l = append(l, share(n, 16), share(n, n), share(n, -n), share(n, 100-n))
	}
	return l
}

// TestSharesBeyond: they are answered, and nothing is written.
func TestSharesBeyond(t *testing.T) {
	for _, s := range beyond() {
		d, _ := dev.New([]int{1000, 22})
		mustNotMake(t, d, 0, s)
		mustNotMake(t, d, 1, s)
		for i := range 1000 {
			d.Write(0, i, anchor(0, uint32(i)))
		}
		mustNotMount(t, d, 0, s)
	}
	for _, n := range []int{1 << 31, 1 << 32, 1 << 53, 1 << 62, math.MaxInt - 1, math.MaxInt} {
		d, _ := dev.New([]int{1000})
		mustNotMake(t, d, 0, share(5, n))
		d.Write(0, 1, anchor(0, 1))
		mustNotMount(t, d, 0, share(5, n))
	}
}

// TestSmallLogs: a log out of the limits is never left, be it too small for
// a change.
func TestSmallLogs(t *testing.T) {
	for log := range 14 {
		r := started(t, share(13, log))
		x := some(log)
		for range 60 {
			l := aChange(&x, 13)
			if len(l) < log {
				r.change(t, l)
				continue
			}
			if e := r.v.Change(l); e != api.EArg {
				t.Fatalf("log %d: Change of %d: %d", log, len(l), e)
			}
			r.mustBeAlike(t, "Change that no log has room for")
		}
		if !r.mount(t, "Mount") {
			t.Fatalf("log %d: it is corrupt", log)
		}
	}
}

// TestMakeAnew: a region that had one already is written as another is.
func TestMakeAnew(t *testing.T) {
	s := share(5, 16)
	d, v := made(t, s)
	mustChange(t, v, all('a', 1, 2))
	n := len(d.Trace(1))
	mustMake(t, d, 1, s)
	l := d.Trace(1)
	if !slices.EqualFunc(l[n:], l[:8], bytes.Equal) {
		t.Errorf("Make anew: %x", l[n:])
	}
}

func TestMountOfNothing(t *testing.T) {
	s := share(5, 16)
	d, _ := made(t, s)
	mustNotMount(t, nil, 0, s)
	mustNotMount(t, nil, 1, s)
	for _, region := range []int{0, 2, 3, -1, 1<<32 + 1, math.MinInt, math.MaxInt} {
		mustNotMount(t, d, region, s)
	}
	// Regions too small for anything that a volume has.
	for n := 1; n < 23; n++ {
		d, _ := dev.New([]int{n})
		mustNotMount(t, d, 0, s)
		d.Write(0, 1, anchor(0, 1))
		for at := range 5 {
			d.Write(0, 18+at, sealed(0, at, one('a')))
		}
		mustNotMount(t, d, 0, s)
	}
}

// TestMountOfAnchors: which of them tells the epoch.
func TestMountOfAnchors(t *testing.T) {
	const last = math.MaxUint32
	empty := make([]byte, 64)
	turned := anchor(0, 6)
	turned[20]++
	for i, x := range []struct {
		a, b []byte
		want uint32 // nought: it is corrupt
	}{
		{anchor(0, 2), anchor(0, 1), 3},
		{anchor(0, 2), anchor(0, 3), 4},
		{anchor(0, 0), empty, 1},
		{anchor(0, 0), anchor(0, 1), 2},
		{empty, anchor(0, 1), 2},
		{empty, empty, 0},
		{anchor(0, 8), anchor(0, 3), 9},
		{anchor(0, 2), anchor(0, 9), 10},
		// not at their places
		{anchor(0, 1), anchor(0, 2), 0},
		{anchor(0, 7), anchor(0, 1), 2},
		{anchor(0, 2), anchor(0, 8), 3},
		{anchor(0, 7), empty, 0},
		{empty, anchor(0, 4), 0},
		// of another label, or turned
		{anchor(1, 8), anchor(0, 3), 4},
		{anchor(1, 8), anchor(1, 9), 0},
		{turned, anchor(0, 5), 6},
		{turned, empty, 0},
		// far epochs
		{anchor(0, 1<<16), anchor(0, 1), 1<<16 + 1},
		{anchor(0, 1<<31), anchor(0, 1<<31-1), 1<<31 + 1},
		{anchor(0, 1<<31-2), anchor(0, 1<<31-1), 1 << 31},
		{anchor(0, 2), anchor(0, last-2), last - 1},
		{anchor(0, last-1), anchor(0, last-2), last},
		{anchor(0, last-1), anchor(0, last), last},
		{anchor(0, 6), anchor(0, last), 7},
		{empty, anchor(0, last), 0},
	} {
		s := share(5, 16)
		d, _ := made(t, s)
		d.Write(1, 0, x.a)
		d.Write(1, 1, x.b)
		if x.want == 0 {
			mustNotMount(t, d, 1, s)
			continue
		}
		r := &run{d: d, s: s}
		if !r.mount(t, "Mount of anchors") || r.v.Epoch() != x.want {
			t.Errorf("%d: epoch %d, want %d", i, r.v.Epoch(), x.want)
		}
	}
}

// TestLastEpochs: an epoch's number wraps round as a number of 32 bits does.
func TestLastEpochs(t *testing.T) {
	s := share(5, 16)
	d, _ := made(t, s)
	d.Write(1, 1, anchor(0, math.MaxUint32-2))
	r := &run{d: d, s: s}
	for _, want := range []uint32{math.MaxUint32 - 1, math.MaxUint32, 0, 1, 2} {
		if want == math.MaxUint32-1 {
			r.mount(t, "Mount")
		} else {
			r.tidy(t)
		}
		if r.v.Epoch() != want {
			t.Fatalf("epoch %d, want %d", r.v.Epoch(), want)
		}
		r.change(t, all('a', 1, 2))
		r.sync(t)
	}
	if !r.mount(t, "Mount") || r.v.Epoch() != 3 || said(r.v) != ".aa.." {
		t.Errorf("epoch %d, %q", r.v.Epoch(), said(r.v))
	}
}

// put writes those blocks at the log's block i and behind it.
func put(d *dev.Dev, i int, log ...[]byte) {
	for k, b := range log {
		d.Write(1, 2+i+k, b)
	}
}

// TestMountOfRecords: which of them are changes.
func TestMountOfRecords(t *testing.T) {
	// an is a record of the epoch that a made volume has.
	an := func(seq uint32, l []api.Write) [][]byte { return record(0, 2, seq, l) }
	for i, x := range []struct {
		log  [][]byte
		want string
	}{
		{nil, "....."},
		{an(0, all('a', 3)), "...a."},
		{an(0, all('a', 4, 0, 2)), "a.a.a"},
		{slices.Concat(an(0, all('a', 3, 2)), an(1, all('b', 2, 1))), ".bba."},
		{slices.Concat(an(0, all('a', 3, 2)), an(1, all('b', 2, 1)), an(2, all('c', 0))), "cbba."},
		// numbers that are not 0, 1 and so on
		{slices.Concat(an(1, all('a', 3, 2)), an(2, all('b', 2, 1))), "....."},
		{slices.Concat(an(0, all('a', 3, 2)), an(0, all('b', 2, 1))), "..aa."},
		{slices.Concat(an(0, all('a', 3, 2)), an(2, all('b', 2, 1)), an(1, all('c', 0))), "..aa."},
		{slices.Concat(an(0, all('a', 3)), an(1<<16+1, all('b', 2))), "...a."},
		// not one behind the other
		{slices.Concat([][]byte{make([]byte, 64)}, an(0, all('a', 3))), "....."},
		{slices.Concat(an(0, all('a', 3)), [][]byte{make([]byte, 64)}, an(1, all('b', 3))), "...a."},
		{slices.Concat(an(0, all('a', 3, 4))[:2], an(1, all('b', 1))), "....."},
		// of another epoch, or label
		{slices.Concat(an(0, all('a', 3)), record(0, 1, 1, all('b', 2))), "...a."},
		{slices.Concat(an(0, all('a', 3)), record(0, 3, 1, all('b', 2))), "...a."},
		{slices.Concat(an(0, all('a', 3)), record(0, 1<<16+2, 1, all('b', 2))), "...a."},
		{slices.Concat(an(0, all('a', 3)), record(16, 2, 1, all('b', 2))), "...a."},
		{record(0, 1, 0, all('a', 3)), "....."},
		// places beyond
		{an(0, all('a', 5)), "....."},
		{an(0, all('a', 199, 3, 5)), "...a."},
		{slices.Concat(an(0, all('a', 5, 6, 7)), an(1, all('b', 2))), "..b.."},
		{slices.Concat(an(0, all('a', 3)), an(1, all('b', 200)), an(2, all('c', 2))), "...a."},
		// such as a change can't be
		{slices.Concat(an(0, all('a', 3)), an(1, nil), an(2, all('c', 2))), "...a."},
		{slices.Concat(an(0, all('a', 3)), an(1, all('b', 2, 2))), "...a."},
		{an(0, all('a', 3, 4, 5, 6, 7, 8, 9, 10, 11, 12, 13, 14)), "...aa"},
		{an(0, all('a', 3, 4, 5, 6, 7, 8, 9, 10, 11, 12, 13, 14, 15)), "....."},
	} {
		s := share(5, 16)
		d, _ := made(t, s)
		put(d, 0, x.log...)
		r := &run{d: d, s: s}
		if !r.mount(t, "Mount of records") {
			t.Fatalf("%d: it is corrupt", i)
		}
		if r.v.Epoch() != 3 || r.v.Room() != 16 || said(r.v) != x.want {
			t.Errorf("%d: epoch %d, room %d, %q; want %q", i, r.v.Epoch(), r.v.Room(), said(r.v), x.want)
		}
		// What was in the log is at home, and in the log no more.
		d.Crash(nil)
		if !r.mount(t, "Mount again") || said(r.v) != x.want {
			t.Errorf("%d: again: %q; want %q", i, said(r.v), x.want)
		}
	}
}

// TestMountOfAFullLog: the log's last block is its last one, and the first
// home is none of it.
func TestMountOfAFullLog(t *testing.T) {
	s := share(12, 16)
	r := started(t, s)
	r.change(t, all('a', 0, 1, 2, 3, 4, 5, 6, 7, 8, 9, 10, 11))
	r.change(t, all('b', 11, 5))
	if r.v.Room() != 0 || r.v.Epoch() != 2 {
		t.Fatalf("room %d, epoch %d", r.v.Room(), r.v.Epoch())
	}
	if !r.mount(t, "Mount") || said(r.v) != "aaaaabaaaaab" {
		t.Fatalf("%q", said(r.v))
	}
	// A record that goes on where the homes are.
	r.change(t, all('c', 0, 1, 2, 3, 4, 5, 6, 7, 8, 9, 10, 11))
	l := record(0, 3, 1, all('d', 1, 2, 3))
	put(r.d, 13, l...)
	if r.mount(t, "Mount of a record beyond the log") && said(r.v) != "cccccccccccc" {
		t.Errorf("%q", said(r.v))
	}
}

// TestMountOfHomes: one that is not opened is no matter just if a record has
// it.
func TestMountOfHomes(t *testing.T) {
	s := share(5, 16)
	turned := sealed(0, 2, one('x'))
	turned[63]++
	for i, x := range []struct {
		b    []byte // what is where block 2 is at home
		want string // "": it is corrupt
	}{
		{sealed(0, 2, one('x')), "..x.."},
		{sealed(0, 2, api.Block{Kind: 7}), "....."},
		{make([]byte, 64), ""},
		{turned, ""},
		{sealed(0, 1, one('x')), ""},
		{sealed(0, 258, one('x')), ""},
		{sealed(1, 2, one('x')), ""},
		{sealed(0, 2, api.Block{Kind: 8}), ""},
		{bytes.Repeat([]byte{255}, 64), ""},
		{anchor(0, 2), ""},
	} {
		d, v := made(t, s)
		mustChange(t, v, all('a', 1, 3))
		d.Write(1, 20, x.b)
		r := &run{d: d, s: s}
		if ok := r.mount(t, "Mount of a home"); ok != (x.want != "") {
			t.Errorf("%d: %v", i, ok)
		}
		// A record that has it may be any of them.
		d, v = made(t, s)
		mustChange(t, v, all('a', 2, 3))
		mustChange(t, v, all('b', 3, 1))
		d.Write(1, 20, x.b)
		r = &run{d: d, s: s}
		if !r.mount(t, "Mount of a home that a record has") || said(r.v) != ".bab." {
			t.Errorf("%d: %q", i, said(r.v))
		}
		// A record that is not taken is none.
		d, v = made(t, s)
		mustChange(t, v, all('a', 1, 3))
		mustChange(t, v, all('b', 2))
		d.Write(1, 5, make([]byte, 64))
		d.Write(1, 20, x.b)
		r = &run{d: d, s: s}
		if ok := r.mount(t, "Mount of a home that no record has"); ok != (x.want != "") {
			t.Errorf("%d: %v", i, ok)
		}
	}
}

// TestMountOfEachHome: none of them is passed over.
func TestMountOfEachHome(t *testing.T) {
	for _, s := range shares() {
		d, _ := made(t, s)
		for at := range s.Blocks {
			c := d.Copy()
			c.Write(1, 2+s.Log+at, make([]byte, 64))
			mustNotMount(t, c, 1, s)
			l := record(byte(16*s.Label.Level+s.Label.Cats), 2, 0, all('a', at))
			c.Write(1, 2, l[0])
			c.Write(1, 3, l[1])
			r := &run{d: c, s: s}
			if !r.mount(t, "Mount") {
				t.Errorf("%v: the home of %d: it is corrupt", s, at)
			}
		}
	}
}

func (r *run) change(t *testing.T, l []api.Write) {
	t.Helper()
	given := slices.Clone(l)
	e, want := r.v.Change(given), r.m.change(l)
	if e != want {
		t.Fatalf("Change(%v): %d, want %d", l, e, want)
	}
	if !slices.Equal(given, l) {
		t.Fatalf("Change(%v): the list is %v", l, given)
	}
	r.mustBeAlike(t, "Change")
}

func (r *run) sync(t *testing.T) {
	t.Helper()
	r.v.Sync()
	r.m.barrier()
	r.mustBeAlike(t, "Sync")
}

func (r *run) tidy(t *testing.T) {
	t.Helper()
	r.v.Tidy()
	r.m.tidy()
	r.mustBeAlike(t, "Tidy")
}

// TestRuns: of all that is done, what is written and what is told.
func TestRuns(t *testing.T) {
	for i, s := range shares() {
		for seed := range 6 {
			x := some(100*i + seed)
			r := started(t, s)
			for range 250 {
				switch x.below(20) {
				case 0:
					r.sync(t)
				case 1:
					r.tidy(t)
				case 2:
					if !r.mount(t, "Mount") {
						t.Fatal("it is corrupt")
					}
				case 3:
					r.d.Crash(nil)
					if !r.mount(t, "Mount behind a crash") {
						t.Fatal("it is corrupt")
					}
				default:
					r.change(t, anyWrites(&x, s.Blocks))
				}
			}
		}
	}
}

// TestRoom: a change of n blocks takes one more, and the log is put in order
// just when they are not left.
func TestRoom(t *testing.T) {
	for _, log := range []int{16, 17, 18, 26, 39, 100} {
		for n := 1; n <= 12; n++ {
			d, v := made(t, share(12, log))
			room, epoch := log, uint32(2)
			for range 2*log/n + 1 {
				if room < n+1 {
					room, epoch = log, epoch+1
				}
				room -= n + 1
				before := len(d.Trace(1))
				mustChange(t, v, all('a', []int{0, 1, 2, 3, 4, 5, 6, 7, 8, 9, 10, 11}[:n]...))
				if v.Room() != room || v.Epoch() != epoch {
					t.Fatalf("log %d, changes of %d: room %d, epoch %d; want %d, %d", log, n, v.Room(), v.Epoch(), room, epoch)
				}
				if l := d.Trace(1)[before:]; hasBarrier(l) != (room == log-n-1 && epoch > 2) {
					t.Fatalf("log %d, changes of %d: written at %v", log, n, told(l))
				}
			}
		}
	}
}

// TestOrder: in the log as they are told, home by their places, of each block
// the last one alone.
func TestOrder(t *testing.T) {
	r := started(t, share(5, 16))
	r.change(t, all('a', 4, 1, 3))
	r.change(t, all('b', 3, 0))
	r.change(t, all('c', 3))
	r.v.Tidy()
	l := r.traced()
	if got, want := told(l), []int{-1, 18, 19, 21, 22, -1, 1, -1}; !slices.Equal(got, want) {
		t.Fatalf("Tidy writes at %v, want at %v", got, want)
	}
	if string([]byte{l[1][6], l[2][6], l[3][6], l[4][6]}) != "baca" {
		t.Errorf("Tidy writes %q", l)
	}
	// Nothing was changed since: nothing goes home.
	r.v.Tidy()
	if got, want := told(r.traced()), []int{-1, -1, 0, -1}; !slices.Equal(got, want) {
		t.Errorf("Tidy of nothing writes at %v, want at %v", got, want)
	}
	// What is changed to what it was is changed.
	mustChange(t, r.v, all('c', 3))
	r.traced()
	r.v.Tidy()
	if got, want := told(r.traced()), []int{-1, 21, -1, 1, -1}; !slices.Equal(got, want) {
		t.Errorf("Tidy writes at %v, want at %v", got, want)
	}
}

func TestChangesThatAreNone(t *testing.T) {
	s := share(5, 16)
	many := func(n int) []api.Write {
		var l []api.Write
		for i := range n {
			l = append(l, api.Write{At: i})
		}
		return l
	}
	wrong := [][]api.Write{
		nil, {}, all('a', 5), all('a', -1), all('a', 199), all('a', 200), all('a', 65536), all('a', math.MinInt), all('a', math.MaxInt),
		all('a', 1, 5), all('a', 5, 1), all('a', 1, -1, 2), all('a', 1, 1), all('a', 1, 2, 3, 1), many(6), many(13), many(1000),
		{{At: 1, B: api.Block{Kind: -1}}}, {{At: 1, B: api.Block{Kind: 8}}}, {{At: 1, B: api.Block{Kind: 256}}},
		{{At: 1}, {At: 2, B: api.Block{Kind: math.MinInt}}}, {{At: 2, B: api.Block{Kind: math.MaxInt}}, {At: 1}},
	}
	// Be the log empty, in use or full.
	for _, before := range [][][]api.Write{nil, {all('a', 1)}, {all('a', 0, 1, 2, 3, 4), all('b', 0, 1, 2, 3, 4), all('c', 0, 1, 2)}} {
		r := started(t, s)
		for _, l := range before {
			r.change(t, l)
		}
		for i, l := range wrong {
			if e := r.v.Change(l); e != api.EArg {
				t.Errorf("%d: %d", i, e)
			}
			r.mustBeAlike(t, "Change that is none")
		}
		r.change(t, all('z', 4, 3))
	}
	// Places that are within for one are not for another.
	_, v := made(t, share(12, 16))
	if e := v.Change(many(12)); e != api.OK {
		t.Errorf("12 of 12: %d", e)
	}
	_, v = made(t, share(200, 16))
	if e := v.Change(all('a', 199)); e != api.OK {
		t.Errorf("199 of 200: %d", e)
	}
	if e := v.Change(many(13)); e != api.EArg {
		t.Errorf("13 of 200: %d", e)
	}
	if e := v.Change(all('a', 200)); e != api.EArg {
		t.Errorf("200 of 200: %d", e)
	}
}

// TestWhatIsGiven: neither changed nor kept, spare room too.
func TestWhatIsGiven(t *testing.T) {
	s := share(5, 16)
	d, v := made(t, s)
	spare := all('s', 0, 1, 2, 3, 4)
	l := append(spare[:0:5], all('a', 3, 1)...)
	want := slices.Clone(spare)
	for range 20 {
		mustChange(t, v, l)
	}
	v.Tidy()
	if !slices.Equal(spare, want) {
		t.Errorf("the list is %v", spare)
	}
	mustChange(t, v, l)
	for i := range spare {
		spare[i] = api.Write{At: 4, B: one('k')}
	}
	if said(v) != ".a.a." {
		t.Errorf("%q", said(v))
	}
	v.Sync()
	d.Crash(nil)
	if w := mustMount(t, d, 1, s); said(w) != ".a.a." {
		t.Errorf("%q", said(w))
	}
	// What is told is not the volume's.
	b, _ := v.Get(1)
	b.Body[0], b.Kind = 'k', 7
	if said(v) != ".a.a." {
		t.Errorf("%q", said(v))
	}
}

// TestFrames: how many there are is not to be seen.
func TestFrames(t *testing.T) {
	var want [][]byte
	for _, frames := range []int{1, 3, 50, 0, -1, math.MaxInt, math.MinInt} {
		s := share(9, 16)
		s.Frames = frames
		d, v := made(t, s)
		x := some(1)
		for range 40 {
			mustChange(t, v, aChange(&x, 9))
			v.Get(x.below(9))
		}
		if want == nil {
			want = d.Trace(1)
		}
		if l := d.Trace(1); !slices.EqualFunc(l, want, bytes.Equal) {
			t.Errorf("%d frames: written is something else", frames)
		}
	}
}

// TestDevicesThatChange: what a volume tells hangs on what was done to it.
func TestDevicesThatChange(t *testing.T) {
	s := share(5, 16)
	for seed := range uint32(20) {
		x := some(seed)
		d, v := made(t, s)
		m := mounted(d.Copy(), 1, s)
		m.epoch-- // it was mounted once more
		r := &run{d: d, s: s, v: v, m: m}
		steps := func() {
			for range 20 {
				l := aChange(&x, 5)
				if e := v.Change(l); e != r.m.change(l) {
					t.Fatalf("Change: %d", e)
				}
				if x.below(4) == 0 {
					v.Tidy()
					r.m.tidy()
				}
				r.traced()
				r.m.trace = nil
				r.mustBeAlike(t, "on a device that changes")
			}
		}
		d.Stop(x.below(30))
		steps()
		d.Crash(nil)
		steps()
		for i := range 23 {
			d.Write(1, i, make([]byte, 64))
		}
		steps()
	}
}

// TestOtherRegions: volumes of one device are apart.
func TestOtherRegions(t *testing.T) {
	s := []api.Share{share(5, 16), labelled(1, 0, share(7, 20)), labelled(1, 1, share(4, 16))}
	run := func(d *dev.Dev, regions ...int) {
		v := map[int]*vol.Vol{}
		x := map[int]*some{}
		for _, i := range regions {
			mustMake(t, d, i, s[i])
			v[i] = mustMount(t, d, i, s[i])
			x[i] = new(some)
		}
		for range 100 {
			for _, i := range regions {
				mustChange(t, v[i], aChange(x[i], s[i].Blocks))
				if x[i].below(5) == 0 {
					v[i].Sync()
				}
			}
		}
	}
	sizes := []int{23, 29, 22}
	together, _ := dev.New(sizes)
	run(together, 0, 1, 2)
	for i := range s {
		alone, _ := dev.New(sizes)
		run(alone, i)
		if !slices.EqualFunc(together.Trace(i), alone.Trace(i), bytes.Equal) {
			t.Errorf("region %d: not as it is alone", i)
		}
	}
}

// history is what a run of changes came to, change by change.
type history struct {
	states [][]api.Block
	sure   int // how many of them are, at the least
}

func (h *history) now() []api.Block {
	return slices.Clone(h.states[len(h.states)-1])
}

// step does something to the volume, and asks the device what is sure then.
func (h *history) step(d *dev.Dev, v *vol.Vol, x *some) {
	before, seen := len(h.states)-1, len(d.Trace(1))
	switch x.below(10) {
	case 0:
		v.Sync()
	case 1:
		v.Tidy()
	default:
		l := aChange(x, v.Blocks())
		next := h.now()
		for _, w := range l {
			next[w.At] = w.B
		}
		v.Change(l)
		h.states = append(h.states, next)
	}
	if hasBarrier(d.Trace(1)[seen:]) {
		h.sure = before
	}
}

// blocks is all that the volume has.
func blocks(v *vol.Vol) []api.Block {
	var l []api.Block
	for at := range v.Blocks() {
		b, _ := v.Get(at)
		l = append(l, b)
	}
	return l
}

// keep is which of the writes survive that are not sure.
func keep(x *some) [][]byte {
	text := make([]byte, x.below(12))
	for i := range text {
		switch x.below(3) {
		case 0:
			text[i] = 255
		case 1:
			text[i] = byte(x.next())
		}
	}
	return [][]byte{nil, text}
}

// TestCrashes: behind a crash there is what some first changes came to, at
// least those ahead of the last Barrier; be it that mounting crashes too.
func TestCrashes(t *testing.T) {
	for seed := range uint32(1500) {
		x := some(seed)
		s := share(4+x.below(6), 16+x.below(10))
		d, v := made(t, s)
		h := &history{states: [][]api.Block{blocks(v)}}
		for range 4 {
			d.Stop(x.below(60))
			for range 3 + x.below(20) {
				h.step(d, v, &x)
			}
			d.Crash(keep(&x))
			for range x.below(3) {
				d.Stop(x.below(8))
				vol.Mount(d, 1, s)
				d.Crash(keep(&x))
			}
			w, e := vol.Mount(d, 1, s)
			if e != api.OK {
				t.Fatalf("%d: %d", seed, e)
			}
			now := blocks(w)
			// Two states may be alike: the last one of those counts.
			n := len(h.states) - 1
			for n >= 0 && !slices.Equal(h.states[n], now) {
				n--
			}
			if n < h.sure {
				t.Fatalf("%d: there is state %d, of %d; %d are sure", seed, n, len(h.states), h.sure)
			}
			v, h = w, &history{states: [][]api.Block{now}}
		}
	}
}

// TestStopsEverywhere: the same, at each write of a run, with nothing, all or
// the last of what is not sure.
func TestStopsEverywhere(t *testing.T) {
	s := share(4, 16)
	for stop := range 80 {
		for _, text := range [][]byte{nil, bytes.Repeat([]byte{255}, 40), {0xfe, 255, 255, 255}, {0, 255, 255}, {0x7f}, {0x55, 0x55, 0x55}, {0xaa, 0xaa, 0xaa}} {
			x := some(7)
			d, v := made(t, s)
			h := &history{states: [][]api.Block{blocks(v)}}
			d.Stop(stop)
			for range 16 {
				h.step(d, v, &x)
			}
			d.Crash([][]byte{nil, text})
			now := blocks(mustMount(t, d, 1, s))
			n := len(h.states) - 1
			for n >= 0 && !slices.Equal(h.states[n], now) {
				n--
			}
			if n < h.sure {
				t.Fatalf("stop at %d: there is state %d, of %d; %d are sure", stop, n, len(h.states), h.sure)
			}
		}
	}
}

// TestImages: of whatever bytes a region has, it is what the words say.
func TestImages(t *testing.T) {
	corrupt, whole := 0, 0
	for seed := range uint32(3000) {
		x := some(seed)
		s := share(4+x.below(4), 16+x.below(4))
		n := 2 + s.Log + s.Blocks
		d, v := made(t, s)
		for range x.below(12) {
			mustChange(t, v, aChange(&x, s.Blocks))
		}
		for range 1 + x.below(3) {
			i := x.below(n)
			if x.below(2) == 0 {
				i = x.below(8) // where more hangs on it
			}
			b, _ := d.Read(1, i)
			switch x.below(5) {
			case 0:
				b = make([]byte, 64)
			case 1:
				b, _ = d.Read(1, x.below(n))
			case 2:
				b = anchor(byte(x.below(2)), uint32(x.below(9)))
			case 3: // turned, its sum as it should be
				b[x.below(60)] ^= byte(1 << x.below(8))
				b = summed(b[:60]...)
			default:
				b[x.below(64)] ^= byte(1 << x.below(8))
			}
			d.Write(1, i, b)
		}
		r := &run{d: d, s: s}
		if !r.mount(t, "Mount of an image") {
			corrupt++
			continue
		}
		whole++
		for range 10 {
			r.change(t, aChange(&x, s.Blocks))
		}
		if !r.mount(t, "Mount again") {
			t.Fatalf("%d: it is corrupt", seed)
		}
	}
	if corrupt < 300 || whole < 300 {
		t.Errorf("%d are corrupt, %d are whole: the images are not of all sorts", corrupt, whole)
	}
}

func TestNil(t *testing.T) {
	for _, v := range []*vol.Vol{nil, new(vol.Vol)} {
		for range 2 {
			for _, at := range []int{0, 1, -1, math.MaxInt, math.MinInt} {
				if b, ok := v.Get(at); ok || b != (api.Block{}) {
					t.Errorf("Get(%d): %v, %v", at, b, ok)
				}
			}
			for _, l := range [][]api.Write{nil, {}, all('a', 0), all('a', 0, 1, 2)} {
				if e := v.Change(l); e != api.EArg {
					t.Errorf("Change(%v): %d", l, e)
				}
			}
			v.Sync()
			if v.Room() != 0 || v.Blocks() != 0 || v.Epoch() != 0 {
				t.Errorf("%d, %d, %d", v.Room(), v.Blocks(), v.Epoch())
			}
		}
		v.Tidy()
		if v == nil && v.Epoch() != 0 {
			t.Errorf("Epoch: %d", v.Epoch())
		}
	}
}
