package file_test

import (
	"bytes"
	"encoding/binary"
	"maps"
	"math"
	"slices"
	"strings"
	"testing"

	"clathri/api"
	"clathri/dev"
	"clathri/file"
	"clathri/tx"
	"clathri/vol"
)

// What the document's numbers come to, so that no answer of the package
// decides what is tested.
const (
	body     = 56
	direct   = 4
	allPlace = 20
	maxFile  = 1120

	freeKind  = 0
	fileKind  = 1
	dataKind  = 4
	indexKind = 5

	none = -1
)

// some is a row of numbers of all sorts.
type some uint32

func (s *some) next() uint32 {
	*s = *s*1664525 + 1013904223
	return uint32(*s >> 8)
}

func (s *some) below(n int) int {
	return int(s.next() % uint32(n))
}

func (s *some) bytes(n int) []byte {
	b := make([]byte, n)
	for i := range b {
		b[i] = byte(1 + s.below(255))
	}
	return b
}

// plain is a file by the words of the promise.
type plain struct {
	gen, links, size int
	places           [allPlace]int // of all its blocks
	index            int
}

func empty(gen, links int) *plain {
	p := &plain{gen: gen, links: links, index: none}
	for k := range p.places {
		p.places[k] = none
	}
	return p
}

func putNumber(b []byte, x, size int) {
	for i := range size {
		b[i] = byte(x >> (8 * (size - 1 - i)))
	}
}

// node is the file's node as a block, by the words of its chapter.
func (p *plain) node() api.Block {
	b := api.Block{Kind: fileKind}
	putNumber(b.Body[:], p.gen, 4)
	putNumber(b.Body[4:], p.links, 2)
	putNumber(b.Body[6:], p.size, 4)
	for i := range direct {
		putNumber(b.Body[10+2*i:], p.places[i]+1, 2)
	}
	putNumber(b.Body[18:], p.index+1, 2)
	return b
}

// names is the file's index as a block, by the words of its chapter.
func (p *plain) names() api.Block {
	b := api.Block{Kind: indexKind}
	for i, at := range p.places[direct:] {
		putNumber(b.Body[2*i:], at+1, 2)
	}
	return b
}

// has is all blocks that the file has, its node's too.
func (p *plain) has(at int) []int {
	return append(slices.Clone(p.places[:]), p.index, at)
}

// model is what a change comes to by the words of the promise, byte by byte.
type model struct {
	image []api.Block // all blocks as the change has them
	files map[int]plain
	taken map[int]int
	puts  map[int]int
}

func newModel(blocks int) *model {
	m := &model{image: make([]api.Block, blocks), files: map[int]plain{}}
	m.image[0].Kind = 7
	m.image[0].Body[3] = 1
	m.begin()
	return m
}

func (m *model) begin() {
	m.taken, m.puts = map[int]int{}, map[int]int{}
}

func (m *model) clone() *model {
	return &model{slices.Clone(m.image), maps.Clone(m.files), maps.Clone(m.taken), maps.Clone(m.puts)}
}

func (m *model) free() []int {
	in := maps.Clone(m.taken)
	in[0]++
	for at, p := range m.files {
		for _, at := range p.has(at) {
			in[at]++
		}
	}
	var l []int
	for at := range m.image {
		if in[at] == 0 {
			l = append(l, at)
		}
	}
	return l
}

func (m *model) put(at int, b api.Block) {
	m.image[at] = b
	m.puts[at]++
}

func (m *model) take() (int, bool) {
	l := m.free()
	if len(l) == 0 {
		return 0, false
	}
	m.taken[l[0]]++
	return l[0], true
}

// putFile makes it so that the file is p.
func (m *model) putFile(at int, p *plain) {
	m.files[at] = *p
	m.put(at, p.node())
	if p.index != none {
		m.put(p.index, p.names())
	}
}

// own takes what block k of the file needs.
func (m *model) own(p *plain, k int) bool {
	if k >= direct && p.index == none {
		at, ok := m.take()
		if !ok {
			return false
		}
		p.index = at
	}
	at, ok := m.take()
	if !ok {
		return false
	}
	p.places[k] = at
	m.put(at, api.Block{Kind: dataKind})
	return true
}

func (m *model) read(at, off, n int) ([]byte, api.Errno) {
	p, ok := m.files[at]
	if !ok {
		return nil, 2
	}
	if off < 0 || n < 0 {
		return nil, 1
	}
	var l []byte
	for i := off; i < p.size && len(l) < n; i++ {
		b := api.Block{}
		if at := p.places[i/body]; at != none {
			b = m.image[at]
		}
		l = append(l, b.Body[i%body])
	}
	return l, 0
}

func (m *model) write(at, off int, b []byte) (int, api.Errno) {
	p, ok := m.files[at]
	switch {
	case !ok:
		return 0, 2
	case off < 0:
		return 0, 1
	case len(b) == 0:
		return 0, 0
	case off >= maxFile:
		return 0, 13
	}
	done := 0
	for _, c := range b {
		i := off + done
		k := i / body
		if k >= allPlace || k-off/body >= 4 {
			break
		}
		if p.places[k] == none && !m.own(&p, k) {
			return 0, 9
		}
		x := m.image[p.places[k]]
		x.Body[i%body] = c
		m.put(p.places[k], x)
		done++
	}
	p.size = max(p.size, off+done)
	m.putFile(at, &p)
	return done, 0
}

func (m *model) trunc(at, size int) api.Errno {
	p, ok := m.files[at]
	switch {
	case !ok:
		return 2
	case size < 0:
		return 1
	case size > maxFile:
		return 13
	}
	named := 0
	for k, at := range p.places {
		switch {
		case k*body >= size:
			p.places[k] = none
		case at != none:
			x := m.image[at]
			for i := range x.Body {
				if k*body+i >= size {
					x.Body[i] = 0
				}
			}
			m.put(at, x)
		}
		if k >= direct && p.places[k] != none {
			named++
		}
	}
	if named == 0 {
		p.index = none
	}
	p.size = size
	m.putFile(at, &p)
	return 0
}

func fresh(t *testing.T, blocks, log int) *vol.Vol {
	t.Helper()
	s := api.Share{Blocks: blocks, Log: log, Frames: 3}
	d, ok := dev.New([]int{2 + log + blocks})
	if !ok || !vol.Make(d, 0, s) {
		t.Fatal("Make")
	}
	v, e := vol.Mount(d, 0, s)
	if e != api.OK {
		t.Fatalf("Mount: %d", e)
	}
	return v
}

// pair is a change, and what it should come to.
type pair struct {
	v *vol.Vol
	x *tx.Tx
	m *model

	// was is what the change began with.
	was *model
}

func newPair(t *testing.T, blocks int) *pair {
	t.Helper()
	v := fresh(t, blocks, 40)
	m := newModel(blocks)
	return &pair{v, tx.New(v), m, m.clone()}
}

// begun has a new file at 1.
func begun(t *testing.T, blocks int) *pair {
	t.Helper()
	p := newPair(t, blocks)
	p.putFile(t, 1, empty(1, 1))
	return p
}

// putFile puts the file, and whatever blocks it names.
func (p *pair) putFile(t *testing.T, at int, f *plain) {
	t.Helper()
	p.m.putFile(at, f)
	for _, at := range f.has(at) {
		if at == none {
			continue
		}
		p.putBlock(t, at, p.m.image[at])
	}
}

// putBlock puts a block that no file needs to have.
func (p *pair) putBlock(t *testing.T, at int, b api.Block) {
	t.Helper()
	p.m.put(at, b)
	if !p.x.Put(at, b) {
		t.Fatalf("Put(%d)", at)
	}
}

func (p *pair) drop() {
	p.x, p.m = tx.New(p.v), p.was.clone()
}

func (p *pair) commit(t *testing.T) {
	t.Helper()
	if e := p.x.Commit(); e != api.OK {
		t.Fatalf("Commit: %d", e)
	}
	p.m.begin()
	p.was = p.m.clone()
}

// same holds all blocks of the change against what they should be.
func (p *pair) same(t *testing.T) {
	t.Helper()
	for at, want := range p.m.image {
		if b, ok := p.x.Get(at); b != want || !ok {
			t.Fatalf("block %d is %v, not %v", at, b, want)
		}
	}
	if n := p.x.Left(); n != len(p.m.free()) {
		t.Fatalf("Left: %d, not %d", n, len(p.m.free()))
	}
	for _, w := range p.x.Writes() {
		if p.m.puts[w.At] == 0 {
			t.Fatalf("block %d was put", w.At)
		}
	}
}

func (p *pair) read(t *testing.T, at, off, n int) {
	t.Helper()
	b, e := file.Read(p.x, at, off, n)
	want, wantE := p.m.read(at, off, n)
	if e != wantE || !bytes.Equal(b, want) {
		t.Fatalf("Read(%d, %d, %d): %q, %d, not %q, %d", at, off, n, b, e, want, wantE)
	}
	p.same(t)
}

// write tells whether the change is of use still.
func (p *pair) write(t *testing.T, at, off int, b []byte) bool {
	t.Helper()
	n, e := file.Write(p.x, at, off, b)
	want, wantE := p.m.write(at, off, b)
	if n != want || e != wantE {
		t.Fatalf("Write(%d, %d, %d bytes): %d, %d, not %d, %d", at, off, len(b), n, e, want, wantE)
	}
	if e == api.ESpace {
		return false
	}
	p.same(t)
	return true
}

func (p *pair) trunc(t *testing.T, at, size int) {
	t.Helper()
	if e, want := file.Trunc(p.x, at, size), p.m.trunc(at, size); e != want {
		t.Fatalf("Trunc(%d, %d): %d, not %d", at, size, e, want)
	}
	p.same(t)
}

// places holds where the blocks of the file at 1 are against those named, the
// index ahead of them; the others are holes.
func (p *pair) places(t *testing.T, index int, places map[int]int) {
	t.Helper()
	f := p.m.files[1]
	want := empty(f.gen, f.links)
	want.size, want.index = f.size, index
	for k, at := range places {
		want.places[k] = at
	}
	if b, _ := p.x.Get(1); b != want.node() {
		t.Fatalf("the node is %v, not %v", b, want.node())
	}
	if index == none {
		return
	}
	if b, _ := p.x.Get(index); b != want.names() {
		t.Fatalf("the index is %v, not %v", b, want.names())
	}
}

// refuse is what all calls of no file's node answer.
func refuse(t *testing.T, x *tx.Tx, at int) {
	t.Helper()
	before := x.Writes()
	for _, n := range []int{0, 1, -1, 5000, math.MinInt, math.MaxInt} {
		if b, e := file.Read(x, at, n, -n); e != 2 || len(b) != 0 {
			t.Fatalf("Read: %v, %d", b, e)
		}
		if n, e := file.Write(x, at, n, make([]byte, max(0, min(n, 2)))); e != 2 || n != 0 {
			t.Fatalf("Write: %d, %d", n, e)
		}
		if e := file.Trunc(x, at, n); e != 2 {
			t.Fatalf("Trunc: %d", e)
		}
	}
	if !slices.Equal(x.Writes(), before) {
		t.Fatal("something is put")
	}
}

func TestNoFile(t *testing.T) {
	refuse(t, nil, 1)
	refuse(t, tx.New(nil), 0)
	refuse(t, &tx.Tx{}, 1)
	p := begun(t, 8)
	good := p.m.image[1]
	for _, at := range []int{0, 2, 7, 8, 200, none, -2, math.MinInt, math.MaxInt, 1<<32 + 1} {
		refuse(t, p.x, at)
	}
	for _, kind := range []int{0, 2, 3, 4, 5, 6, 7, 8, -1, 257, 1<<32 + 1} {
		b := good
		b.Kind = kind
		p.putBlock(t, 2, b)
		refuse(t, p.x, 2)
	}
	sign := api.Block{Kind: 3}
	copy(sign.Body[:], "\x00\x00\x00\x01\x00\x01\x00\x00\x00\x01\x00\x00\x00\x00\x00\x00\x00\x00\x00\x00\x01/")
	for _, b := range []api.Block{sign, {Kind: 2, Body: good.Body}} {
		p.putBlock(t, 2, b)
		refuse(t, p.x, 2)
	}
	// a body that is no node's: made as the 0th, too long, block 0, a target
	for i, to := range map[int]byte{3: 0, 8: 5, 11: 1, 20: 1, 55: 1} {
		b := good
		b.Body[i] = to
		p.putBlock(t, 2, b)
		refuse(t, p.x, 2)
	}
	p.putBlock(t, 2, api.Block{})
	p.read(t, 1, 0, 5)
}

func TestWrongNumbers(t *testing.T) {
	p := begun(t, 30)
	p.write(t, 1, 0, []byte("some bytes"))
	for _, x := range []int{-1, -2, -56, -1120, math.MinInt, math.MinInt + 1, -1 << 32, -1<<32 + 3} {
		p.read(t, 1, x, 3)
		p.read(t, 1, 3, x)
		p.read(t, 1, x, x)
		p.write(t, 1, x, []byte("x"))
		p.write(t, 1, x, nil)
		p.trunc(t, 1, x)
	}
	for _, x := range []int{1120, 1121, 1176, 5000, 1 << 31, 1 << 32, 1<<32 + 3, math.MaxInt, math.MaxInt - 1} {
		p.read(t, 1, x, 3)
		p.read(t, 1, 3, x)
		p.read(t, 1, x, x)
		p.write(t, 1, x, []byte("x"))
		p.write(t, 1, x, nil)
		p.write(t, 1, x, []byte{})
		if x > 1120 {
			p.trunc(t, 1, x)
		}
	}
	if e := file.Trunc(p.x, 1, 1121); e != api.EBig {
		t.Fatalf("Trunc: %d", e)
	}
	if _, e := file.Write(p.x, 1, 1120, []byte("x")); e != api.EBig {
		t.Fatalf("Write: %d", e)
	}
	p.read(t, 1, 0, 20)
}

func TestTheExample(t *testing.T) {
	p := begun(t, 10)
	if n, e := file.Write(p.x, 1, 0, []byte("abc")); n != 3 || e != api.OK {
		t.Fatalf("%d, %d", n, e)
	}
	if b, e := file.Read(p.x, 1, 0, 9); string(b) != "abc" || e != api.OK {
		t.Fatalf("%q, %d", b, e)
	}
}

// From every byte on, as many as there may be and one more.
func TestHowManyBytesAWriteHas(t *testing.T) {
	p := begun(t, 30)
	p.commit(t)
	s := some(2)
	for off := range maxFile {
		whole := min(4*body-off%body, maxFile-off)
		for _, n := range []int{whole - 1, whole, whole + 1, 2 * maxFile} {
			p.write(t, 1, off, s.bytes(n))
			if got := p.m.files[1].size; got != off+min(n, whole) && n > 0 {
				t.Fatalf("Size from %d on, of %d: %d", off, n, got)
			}
			p.drop()
		}
	}
}

func TestWhichBlocksAreTaken(t *testing.T) {
	p := begun(t, 40)
	p.write(t, 1, 3*body, []byte("d"))
	p.places(t, none, map[int]int{3: 2})
	p.write(t, 1, 3*body-1, []byte("cdef"))
	p.places(t, none, map[int]int{3: 2, 2: 3})
	// the index is taken between those of the node and the first of its own
	p.write(t, 1, 2*body+5, bytes.Repeat([]byte("x"), 3*body))
	p.places(t, 4, map[int]int{3: 2, 2: 3, 4: 5, 5: 6})
	p.write(t, 1, 19*body+55, []byte("z"))
	p.places(t, 4, map[int]int{3: 2, 2: 3, 4: 5, 5: 6, 19: 7})
	p.write(t, 1, 0, []byte("a"))
	p.places(t, 4, map[int]int{3: 2, 2: 3, 4: 5, 5: 6, 19: 7, 0: 8})
	p.commit(t)
	p.read(t, 1, 0, maxFile)
	// what there is already is not taken anew
	p.write(t, 1, 0, bytes.Repeat([]byte("y"), 55))
	p.write(t, 1, 4*body, bytes.Repeat([]byte("y"), 2*body))
	p.places(t, 4, map[int]int{3: 2, 2: 3, 4: 5, 5: 6, 19: 7, 0: 8})
}

// A file whose first bytes are those of its index.
func TestTheIndexIsTakenFirst(t *testing.T) {
	for k := direct; k < allPlace; k++ {
		p := begun(t, 12)
		p.write(t, 1, k*body+7, []byte("x"))
		p.places(t, 2, map[int]int{k: 3})
	}
}

// Least ones first, between others that are in use.
func TestGapsAreTaken(t *testing.T) {
	p := newPair(t, 14)
	p.putFile(t, 1, empty(1, 1))
	other := empty(2, 3)
	other.places[0], other.places[9], other.index = 2, 7, 5
	p.putFile(t, 4, other)
	p.write(t, 1, 2*body, bytes.Repeat([]byte("x"), 4*body))
	p.places(t, 8, map[int]int{2: 3, 3: 6, 4: 9, 5: 10})
	p.write(t, 4, 11*body, []byte("y"))
	p.read(t, 4, 0, maxFile)
}

// What a block has been before is not to be seen, be it one of this file too.
func TestBlocksThatAreTakenAreNoughts(t *testing.T) {
	p := newPair(t, 12)
	for at := 2; at < 12; at++ {
		b := api.Block{Kind: []int{dataKind, indexKind, freeKind, 7, 8}[at%5]}
		for i := range b.Body {
			b.Body[i] = byte(at + i)
		}
		p.putBlock(t, at, b)
	}
	p.putFile(t, 1, empty(1, 1))
	p.write(t, 1, 3*body+50, []byte("0123456789"))
	p.read(t, 1, 0, maxFile)
	p.trunc(t, 1, 0)
	p.write(t, 1, 1100, []byte("x"))
	p.read(t, 1, 0, maxFile)
}

func TestAnIndexThatWasLetGoIsNotTakenUpAgain(t *testing.T) {
	p := begun(t, 12)
	p.write(t, 1, 4*body, bytes.Repeat([]byte("x"), 2*body))
	p.places(t, 2, map[int]int{4: 3, 5: 4})
	p.commit(t)
	p.trunc(t, 1, 4*body)
	p.places(t, none, nil)
	p.commit(t)
	// the same block is the index again, and had the names of 3 and 4 in it
	p.write(t, 1, 19*body, []byte("y"))
	p.places(t, 2, map[int]int{19: 3})
	p.read(t, 1, 0, maxFile)
}

func TestSizeIsNotMadeLess(t *testing.T) {
	p := begun(t, 30)
	p.trunc(t, 1, 500)
	for _, off := range []int{0, 100, 300, 499, 497, 500, 501} {
		p.write(t, 1, off, []byte("ab"))
	}
	if n := p.m.files[1].size; n != 503 {
		t.Fatalf("Size: %d", n)
	}
}

func TestGenAndLinksAreKept(t *testing.T) {
	for _, f := range []*plain{empty(1, 0), empty(7, 1), empty(1<<32-1, 1000), empty(1<<24, 256)} {
		p := newPair(t, 30)
		p.putFile(t, 1, f)
		p.write(t, 1, 200, bytes.Repeat([]byte("x"), 100))
		p.places(t, 3, map[int]int{3: 2, 4: 4, 5: 5})
		p.trunc(t, 1, 50)
		p.read(t, 1, 0, 50)
		p.places(t, none, nil)
	}
}

// From every size to every other one, at and around the edges of blocks.
func TestSizes(t *testing.T) {
	var sizes []int
	for k := range allPlace + 1 {
		for _, x := range []int{-1, 0, 1, 28} {
			if n := k*body + x; n >= 0 && n <= maxFile {
				sizes = append(sizes, n)
			}
		}
	}
	s := some(4)
	p := begun(t, 30)
	for k := range allPlace {
		p.write(t, 1, k*body, s.bytes(body))
		p.commit(t)
	}
	p.read(t, 1, 0, maxFile)
	for _, x := range sizes {
		p.trunc(t, 1, x)
		p.read(t, 1, 0, maxFile+1)
		for _, y := range sizes {
			p.trunc(t, 1, y)
			p.read(t, 1, max(0, min(x, y)-60), 200)
			p.drop()
			p.trunc(t, 1, x)
		}
		p.drop()
	}
}

// Of a file with holes: each of its blocks alone is there.
func TestSizesOfHoles(t *testing.T) {
	for k := range allPlace {
		p := begun(t, 10)
		p.write(t, 1, k*body, bytes.Repeat([]byte("x"), body))
		p.commit(t)
		for _, size := range []int{0, 1, k * body, k*body + 1, k*body + 55, k*body + 56, k*body - 1, 20, 223, 224, 225, 1063, 1065, maxFile} {
			p.trunc(t, 1, max(0, min(size, maxFile)))
			p.read(t, 1, 0, maxFile)
			p.write(t, 1, maxFile-1, []byte("z"))
			p.read(t, 1, 0, maxFile)
			p.drop()
		}
	}
}

func TestAnIndexThatWouldNameNoneIsNoMore(t *testing.T) {
	// be it that there was none to be cut off
	for _, size := range []int{0, 100, 224, 500, maxFile} {
		p := newPair(t, 12)
		f := empty(1, 1)
		f.index, f.size, f.places[0] = 5, 300, 3
		p.putFile(t, 1, f)
		p.trunc(t, 1, size)
		if size > 0 {
			p.places(t, none, map[int]int{0: 3})
		} else {
			p.places(t, none, nil)
		}
		if b, _ := p.x.Get(5); b != empty(1, 1).names() {
			t.Fatal("its block is not as it was")
		}
	}
	// a write leaves it there, and takes none
	p := newPair(t, 12)
	f := empty(1, 1)
	f.index = 5
	p.putFile(t, 1, f)
	p.write(t, 1, 0, []byte("x"))
	p.places(t, 5, map[int]int{0: 2})
	p.write(t, 1, 1000, []byte("x"))
	p.places(t, 5, map[int]int{0: 2, 17: 3})
}

func TestBytesOfBlocksOfOtherKinds(t *testing.T) {
	for _, kind := range []int{0, 5, 7} {
		p := newPair(t, 12)
		f := empty(1, 1)
		f.size, f.places[0] = 20, 3
		p.putFile(t, 1, f)
		b := api.Block{Kind: kind}
		copy(b.Body[:], "what there is behind Size too")
		p.putBlock(t, 3, b)
		p.read(t, 1, 0, 100)
		p.write(t, 1, 2, []byte("xyz"))
		p.read(t, 1, 0, 100)
	}
}

func TestWhatIsNoIndexNamesNone(t *testing.T) {
	for _, b := range []api.Block{{}, {Kind: dataKind, Body: [body]byte{1: 8}}, {Kind: indexKind, Body: [body]byte{1: 8, 3: 8}}, {Kind: indexKind, Body: [body]byte{1: 8, 55: 1}}} {
		p := newPair(t, 12)
		f := empty(1, 1)
		f.size, f.index = maxFile, 5
		p.putFile(t, 1, f)
		p.putBlock(t, 5, b)
		p.putBlock(t, 7, api.Block{Kind: dataKind, Body: [body]byte{'x'}})
		if l, e := file.Read(p.x, 1, 0, maxFile); e != api.OK || !bytes.Equal(l, make([]byte, maxFile)) {
			t.Fatalf("%q, %d", l, e)
		}
		p.write(t, 1, 300, []byte("y"))
		p.places(t, 5, map[int]int{5: 2})
	}
}

// Of blocks that there are not there are no bytes: they are taken as holes.
func TestNamesOfBlocksThatThereAreNot(t *testing.T) {
	x := tx.New(fresh(t, 8, 40))
	f := empty(1, 1)
	f.size = maxFile
	f.places[0], f.places[1], f.index = 8, 199, 100
	if !x.Put(1, f.node()) {
		t.Fatal("Put")
	}
	if b, e := file.Read(x, 1, 0, 500); e != api.OK || !bytes.Equal(b, make([]byte, 500)) {
		t.Fatalf("%q, %d", b, e)
	}
	for _, off := range []int{1, 300} {
		if n, e := file.Write(x, 1, off, []byte("abc")); n != 3 || e != api.OK {
			t.Fatalf("%d, %d", n, e)
		}
		if b, e := file.Read(x, 1, off-1, 5); string(b) != "\x00abc\x00" || e != api.OK {
			t.Fatalf("%q, %d", b, e)
		}
	}
	if e := file.Trunc(x, 1, 60); e != api.OK {
		t.Fatalf("%d", e)
	}
}

// No call panics, whatever blocks a file names, itself among them.
func TestFilesThatNameAnything(t *testing.T) {
	s := some(9)
	for range 3000 {
		x := tx.New(fresh(t, 6, 16))
		for at := range 6 {
			f := empty(1, 1)
			f.size, f.index = s.below(maxFile+1), s.below(9)-1
			for k := range f.places {
				f.places[k] = s.below(9) - 1
			}
			x.Put(at, f.node())
			if s.below(3) == 0 {
				x.Put(at, f.names())
			}
		}
		for range 6 {
			file.Write(x, s.below(7), s.below(maxFile), s.bytes(s.below(300)))
			file.Read(x, s.below(7), s.below(maxFile), s.below(maxFile))
			file.Trunc(x, s.below(7), s.below(maxFile+1))
		}
	}
}

// How many blocks are left, and whether a write of four blocks from there on
// is told ESpace, at every one.
func TestSpace(t *testing.T) {
	for blocks := 4; blocks <= 8; blocks++ {
		for k := range allPlace {
			p := begun(t, blocks)
			need := min(4, allPlace-k)
			if k+need > direct {
				need++
			}
			off := k * body
			of := p.write(t, 1, off, bytes.Repeat([]byte("x"), 4*body))
			if of != (need <= blocks-2) {
				t.Fatalf("of %d blocks %d are needed: %v", blocks, need, of)
			}
		}
	}
	// what is there already needs none
	p := begun(t, 4)
	p.write(t, 1, 0, bytes.Repeat([]byte("x"), 2*body))
	p.commit(t)
	p.write(t, 1, 0, bytes.Repeat([]byte("y"), 2*body))
	p.read(t, 1, 0, 2*body)
	if p.write(t, 1, 2*body-1, []byte("zz")) {
		t.Fatal("there is a block left")
	}
	p.drop()
	p.read(t, 1, 0, 2*body)
	p.trunc(t, 1, maxFile)
	p.trunc(t, 1, 0)
	p.commit(t)
	p.write(t, 1, 900, []byte("y"))
	p.read(t, 1, 890, 20)
}

func TestWhatIsHandedInIsNeitherChangedNorKept(t *testing.T) {
	p := begun(t, 12)
	all := []byte(strings.Repeat("abcdefgh", 60))
	b := all[:100:400]
	p.write(t, 1, 30, b)
	if string(all) != strings.Repeat("abcdefgh", 60) {
		t.Fatal("it is changed")
	}
	clear(all)
	p.read(t, 1, 0, 200)
	l, _ := file.Read(p.x, 1, 20, 100)
	m, _ := file.Read(p.x, 1, 20, 100)
	clear(l[:cap(l)])
	if bytes.Equal(l, m) {
		t.Fatal("what is told is not new memory")
	}
	p.read(t, 1, 0, 200)
	f, _ := file.Read(p.x, 1, 20, 100)
	file.Write(p.x, 1, 20, []byte("other bytes"))
	if !bytes.Equal(f, m) {
		t.Fatal("what was told changes")
	}
}

// Read puts nothing, an empty write neither, nor does one that is refused.
func TestWhatPutsNothing(t *testing.T) {
	p := begun(t, 12)
	p.write(t, 1, 300, []byte("abc"))
	p.commit(t)
	file.Read(p.x, 1, 0, maxFile)
	file.Write(p.x, 1, 0, nil)
	file.Write(p.x, 1, maxFile, []byte("x"))
	file.Write(p.x, 1, -1, []byte("x"))
	file.Write(p.x, 2, 0, []byte("x"))
	file.Trunc(p.x, 1, -1)
	file.Trunc(p.x, 1, maxFile+1)
	if l := p.x.Writes(); len(l) != 0 {
		t.Fatalf("%v", l)
	}
	if room := p.v.Room(); p.x.Commit() != api.OK || p.v.Room() != room {
		t.Fatal("something is changed")
	}
}

// A change has room for a write that touches the most, with its node and
// index, and for a Trunc.
func TestAChangeHasRoom(t *testing.T) {
	for k := range allPlace {
		p := begun(t, 30)
		p.commit(t)
		p.write(t, 1, k*body+1, bytes.Repeat([]byte("x"), 5*body))
		if n := len(p.x.Writes()); n > 6 {
			t.Fatalf("a write puts %d", n)
		}
		p.commit(t)
		p.trunc(t, 1, k*body+7)
		if n := len(p.x.Writes()); n > 3 {
			t.Fatalf("Trunc puts %d", n)
		}
		p.commit(t)
		p.read(t, 1, 0, maxFile)
	}
}

// edge is a number to limit, at and around the edges of blocks mostly.
func edge(s *some, limit int) int {
	if s.below(3) == 0 {
		return s.below(limit + 1)
	}
	return min(max(s.below(limit/body+1)*body+s.below(5)-2, 0), limit)
}

// step does something to one of the files, and to the change.
func step(t *testing.T, p *pair, s *some) {
	t.Helper()
	at := 1 + s.below(min(len(p.m.image)-1, 9))
	switch s.below(12) {
	case 0, 1, 2:
		at, ok := p.x.Take()
		if _, wantOk := p.m.take(); ok != wantOk {
			t.Fatalf("Take: %v", ok)
		}
		if ok {
			p.putFile(t, at, empty(1+s.below(1<<31), s.below(1001)))
		}
	case 3:
		if _, there := p.m.files[at]; there {
			delete(p.m.files, at)
			p.putBlock(t, at, api.Block{Kind: freeKind})
		}
	case 4:
		p.trunc(t, at, edge(s, maxFile))
	case 5, 6:
		p.read(t, at, edge(s, maxFile+60), edge(s, maxFile+60))
	case 7:
		if len(p.x.Writes()) > 12 {
			p.drop()
		}
		p.commit(t)
	case 8:
		p.drop()
	default:
		if !p.write(t, at, edge(s, maxFile+1), s.bytes(edge(s, 6*body))) {
			p.drop()
		}
	}
	p.same(t)
}

func TestLongRuns(t *testing.T) {
	s := some(1)
	for _, blocks := range []int{4, 5, 6, 7, 8, 10, 12, 15, 20, 30, 40, 60, 100, 200} {
		for range 12 {
			p := newPair(t, blocks)
			for range 200 {
				step(t, p, &s)
			}
		}
	}
}

// What was written is there for others behind Commit, and not ahead of it.
func TestAnotherChangeReadsIt(t *testing.T) {
	p := begun(t, 12)
	p.write(t, 1, 200, []byte("over the edge of the node's blocks, and on"))
	y := tx.New(p.v)
	if _, e := file.Read(y, 1, 0, 10); e != api.ENone {
		t.Fatalf("nothing is done yet: %d", e)
	}
	p.commit(t)
	if b, e := file.Read(y, 1, 200, 100); string(b) != "over the edge of the node's blocks, and on" || e != api.OK {
		t.Fatalf("%q, %d", b, e)
	}
	if b, _ := y.Get(1); binary.BigEndian.Uint32(b.Body[6:]) != 242 {
		t.Fatalf("%v", b)
	}
}
