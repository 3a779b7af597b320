package tx_test

import (
	"bytes"
	"encoding/binary"
	"math"
	"reflect"
	"slices"
	"testing"

	"clathri/api"
	"clathri/dev"
	"clathri/tx"
	"clathri/vol"
)

// some is a row of numbers of all sorts.
type some uint32

func (s *some) next() uint32 {
	*s = *s*1664525 + 1013904223
	return uint32(*s >> 8)
}

func (s *some) below(n int) int {
	return int(s.next() % uint32(n))
}

// none is that no block is named.
const none = -1

// fileOf is a file that names those blocks (4, and its index), by the words of
// the chapter of nodes.
func fileOf(index int, direct ...int) api.Block {
	b := api.Block{Kind: 1}
	b.Body[3] = 1 // its generation
	b.Body[5] = 1 // its links
	for i, at := range append(slices.Clone(direct), index) {
		binary.BigEndian.PutUint16(b.Body[10+2*i:], uint16(at+1))
	}
	return b
}

// indexOf is an index that names those blocks first.
func indexOf(at ...int) api.Block {
	b := api.Block{Kind: 5}
	for i, at := range at {
		binary.BigEndian.PutUint16(b.Body[2*i:], uint16(at+1))
	}
	return b
}

// lone is a file that names no blocks but one.
func lone(at int) api.Block {
	return fileOf(none, at, none, none, none)
}

func ofKind(kind int) api.Block {
	return api.Block{Kind: kind}
}

// one is a block that is told by a letter.
func one(c byte) api.Block {
	b := ofKind(4)
	b.Body[0] = c
	return b
}

// named is the blocks that the numbers there name; no: none may name so.
func named(l []byte, n int) ([]int, bool) {
	var all []int
	for i := range n {
		x := int(binary.BigEndian.Uint16(l[2*i:]))
		switch {
		case x == 0:
		case x == 1 || x > 200 || slices.Contains(all, x-1):
			return nil, false
		default:
			all = append(all, x-1)
		}
	}
	return all, true
}

func noughts(l []byte) bool {
	return bytes.Equal(l, make([]byte, len(l)))
}

// takeFile is all that a file's node names, and its index.
func takeFile(b api.Block) (all []int, index int, ok bool) {
	gen := binary.BigEndian.Uint32(b.Body[:])
	links := binary.BigEndian.Uint16(b.Body[4:])
	size := binary.BigEndian.Uint32(b.Body[6:])
	if b.Kind != 1 || gen == 0 || links > 1000 || size > 20*56 || !noughts(b.Body[20:]) {
		return nil, 0, false
	}
	all, ok = named(b.Body[10:], 5)
	return all, int(binary.BigEndian.Uint16(b.Body[18:])) - 1, ok
}

func takeIndex(b api.Block) []int {
	all, ok := named(b.Body[:], 16)
	if b.Kind != 5 || !ok || !noughts(b.Body[32:]) {
		return nil
	}
	return all
}

// model is a change by the words of the promise. Of the volume it knows the
// blocks alone.
type model struct {
	vol   *[]api.Block // shared by all changes of it
	puts  map[int]api.Block
	taken map[int]int
}

func newModel(vol *[]api.Block) *model {
	return &model{vol, map[int]api.Block{}, map[int]int{}}
}

func (m *model) has(at int) bool {
	return at >= 0 && at < len(*m.vol)
}

func (m *model) get(at int) (api.Block, bool) {
	if !m.has(at) {
		return api.Block{}, false
	}
	if b, put := m.puts[at]; put {
		return b, true
	}
	return (*m.vol)[at], true
}

func (m *model) put(at int, b api.Block) bool {
	if !m.has(at) {
		return false
	}
	m.puts[at] = b
	return true
}

// free is all that is not in use and was not taken, rising.
func (m *model) free() []int {
	in := map[int]int{0: 1}
	for at := range *m.vol {
		b, _ := m.get(at)
		if b.Kind == 1 || b.Kind == 2 || b.Kind == 3 || b.Kind == 6 {
			in[at]++
		}
		all, index, ok := takeFile(b)
		if !ok {
			continue
		}
		x, _ := m.get(index)
		for _, at := range append(all, takeIndex(x)...) {
			in[at]++
		}
	}
	var free []int
	for at := range *m.vol {
		if in[at]+m.taken[at] == 0 {
			free = append(free, at)
		}
	}
	return free
}

func (m *model) take() (int, bool) {
	free := m.free()
	if len(free) == 0 {
		return 0, false
	}
	m.taken[free[0]]++
	return free[0], true
}

func (m *model) writes() []api.Write {
	var l []api.Write
	for at := range *m.vol {
		if b, put := m.puts[at]; put {
			l = append(l, api.Write{At: at, B: b})
		}
	}
	return l
}

func change(vol *[]api.Block, l []api.Write) api.Errno {
	if len(l) < 1 || len(l) > 12 {
		return api.EArg
	}
	for _, w := range l {
		if w.B.Kind < 0 || w.B.Kind > 7 {
			return api.EArg
		}
	}
	for _, w := range l {
		(*vol)[w.At] = w.B
	}
	return api.OK
}

func (m *model) commit() api.Errno {
	if len(m.puts) > 0 {
		if e := change(m.vol, m.writes()); e != api.OK {
			return e
		}
	}
	m.puts, m.taken = map[int]api.Block{}, map[int]int{}
	return api.OK
}

// fresh is a new volume of so many blocks, on a device of one region.
func fresh(t *testing.T, blocks, log int) (*dev.Dev, *vol.Vol) {
	t.Helper()
	s := api.Share{Blocks: blocks, Log: log, Frames: 3}
	d, ok := dev.New([]int{2 + log + blocks})
	if !ok || !vol.Make(d, 0, s) {
		t.Fatal("Make")
	}
	v, e := vol.Mount(d, 0, s)
	if e != api.OK {
		t.Fatalf("Mount: %d", e)
	}
	return d, v
}

// begun is a new change of a new volume of so many blocks.
func begun(t *testing.T, blocks int) *tx.Tx {
	t.Helper()
	_, v := fresh(t, blocks, 40)
	return tx.New(v)
}

func mustPut(t *testing.T, x *tx.Tx, at int, b api.Block) {
	t.Helper()
	if !x.Put(at, b) {
		t.Fatalf("Put(%d, %v): no", at, b)
	}
	mustGet(t, x, at, b)
}

func mustGet(t *testing.T, x *tx.Tx, at int, want api.Block) {
	t.Helper()
	if b, ok := x.Get(at); b != want || !ok {
		t.Fatalf("Get(%d): %v, %v", at, b, ok)
	}
}

// mustNotHave: there is no such block.
func mustNotHave(t *testing.T, x *tx.Tx, at int) {
	t.Helper()
	if b, ok := x.Get(at); ok || b != (api.Block{}) {
		t.Fatalf("Get(%d): %v, %v", at, b, ok)
	}
	before := x.Writes()
	if x.Put(at, one('a')) {
		t.Fatalf("Put(%d): yes", at)
	}
	if !reflect.DeepEqual(x.Writes(), before) {
		t.Fatalf("Put(%d) put something", at)
	}
}

// mustTake: those are free, and no others. They are taken then.
func mustTake(t *testing.T, x *tx.Tx, want ...int) {
	t.Helper()
	for i, to := range want {
		if n := x.Left(); n != len(want)-i {
			t.Fatalf("Left is %d ahead of %d", n, to)
		}
		if at, ok := x.Take(); at != to || !ok {
			t.Fatalf("Take: %d, %v, not %d", at, ok, to)
		}
	}
	if n := x.Left(); n != 0 {
		t.Fatalf("Left is %d behind all", n)
	}
	if at, ok := x.Take(); ok || at != 0 {
		t.Fatalf("Take behind all: %d, %v", at, ok)
	}
}

func mustCommit(t *testing.T, x *tx.Tx, want api.Errno) {
	t.Helper()
	if e := x.Commit(); e != want {
		t.Fatalf("Commit: %d, not %d", e, want)
	}
}

// mustBeAs holds all that may be asked without a change against the model.
func mustBeAs(t *testing.T, x *tx.Tx, m *model) {
	t.Helper()
	for at := -1; at <= len(*m.vol); at++ {
		b, ok := x.Get(at)
		if want, wantOk := m.get(at); b != want || ok != wantOk {
			t.Fatalf("Get(%d): %v, %v, not %v, %v", at, b, ok, want, wantOk)
		}
	}
	if n := x.Left(); n != len(m.free()) {
		t.Fatalf("Left: %d, not %v", n, m.free())
	}
	if l := x.Writes(); !slices.Equal(l, m.writes()) {
		t.Fatalf("Writes: %v, not %v", l, m.writes())
	}
}

func TestANewVolumeIsFreeButForTheSuper(t *testing.T) {
	for blocks := 4; blocks <= 200; blocks++ {
		x := begun(t, blocks)
		var all []int
		for at := 1; at < blocks; at++ {
			all = append(all, at)
		}
		mustTake(t, x, all...)
		if l := x.Writes(); len(l) != 0 {
			t.Fatalf("what is taken is not put: %v", l)
		}
	}
}

func TestTheSuperIsInUseWhateverItIs(t *testing.T) {
	for kind := range 8 {
		x := begun(t, 4)
		mustPut(t, x, 0, ofKind(kind))
		mustTake(t, x, 1, 2, 3)
	}
}

// Bodies that are of no node and no name: the kind alone counts.
func TestKindsThatAreInUse(t *testing.T) {
	bodies := []api.Block{ofKind(0), one('x'), fileOf(2, 3, 4, 5, 6), indexOf(2, 3, 4)}
	for kind := range 8 {
		for _, b := range bodies {
			b.Kind = kind
			x := begun(t, 4)
			mustPut(t, x, 1, b)
			switch {
			case kind == 1 && b.Body[3] == 1:
				mustTake(t, x)
			case kind == 1 || kind == 2 || kind == 3 || kind == 6:
				mustTake(t, x, 2, 3)
			default:
				mustTake(t, x, 1, 2, 3)
			}
		}
	}
	for _, kind := range []int{-1, 8, 9, 257, 1 << 32, 1<<32 + 1, math.MaxInt, math.MinInt} {
		x := begun(t, 4)
		mustPut(t, x, 1, ofKind(kind))
		mustTake(t, x, 1, 2, 3)
	}
}

func TestWhatAFileNames(t *testing.T) {
	for at := 2; at < 8; at++ {
		for i := range 5 {
			l := []int{none, none, none, none, none}
			l[i] = at
			x := begun(t, 8)
			mustPut(t, x, 1, fileOf(l[4], l[:4]...))
			mustTake(t, x, slices.DeleteFunc([]int{2, 3, 4, 5, 6, 7}, func(y int) bool { return y == at })...)
		}
	}
	x := begun(t, 8)
	mustPut(t, x, 7, fileOf(3, 6, none, 1, 4))
	mustTake(t, x, 2, 5)
}

func TestWhatAnIndexNames(t *testing.T) {
	// each place of it
	for i := range 16 {
		l := slices.Repeat([]int{none}, 16)
		l[i] = 5
		x := begun(t, 8)
		mustPut(t, x, 1, fileOf(2, none, none, none, none))
		mustPut(t, x, 2, indexOf(l...))
		mustTake(t, x, 3, 4, 6, 7)
	}
	// all of them
	x := begun(t, 20)
	mustPut(t, x, 1, fileOf(2, none, none, none, none))
	mustPut(t, x, 2, indexOf(3, 4, 5, 6, 7, 8, 9, 10, 11, 12, 13, 14, 15, 16, 17, 18))
	mustTake(t, x, 19)
	// one that no file names as its index names none, and is not in use
	x = begun(t, 8)
	mustPut(t, x, 1, lone(2))
	mustPut(t, x, 2, indexOf(3))
	mustPut(t, x, 4, indexOf(5))
	mustTake(t, x, 3, 4, 5, 6, 7)
	// one ahead of its file
	x = begun(t, 8)
	mustPut(t, x, 6, fileOf(2, none, none, none, none))
	mustPut(t, x, 2, indexOf(1, 7))
	mustTake(t, x, 3, 4, 5)
	// one that names itself and its file
	x = begun(t, 5)
	mustPut(t, x, 1, fileOf(2, none, none, none, none))
	mustPut(t, x, 2, indexOf(2, 1, 4))
	mustTake(t, x, 3)
	// an index of an index names none
	x = begun(t, 6)
	mustPut(t, x, 1, fileOf(2, none, none, none, none))
	mustPut(t, x, 2, indexOf(3))
	mustPut(t, x, 3, indexOf(4))
	mustTake(t, x, 4, 5)
}

func TestWhatIsNoNodeNamesNone(t *testing.T) {
	good := fileOf(2, 3, 4, 5, 6)
	turn := func(i int, to byte) api.Block {
		b := good
		b.Body[i] = to
		return b
	}
	bad := []api.Block{
		turn(3, 0),     // made as the 0th
		turn(4, 4),     // too many links
		turn(8, 5),     // too long
		turn(11, 1),    // block 0
		turn(11, 202),  // block 201
		turn(13, 4),    // one block twice
		turn(20, 1),    // a target
		turn(21, 'a'),  // one of no length
		turn(55, 1),    // no nought at the end
		turn(10, 0xff), // a block far off
	}
	for _, b := range bad {
		x := begun(t, 8)
		mustPut(t, x, 7, b)
		mustPut(t, x, 2, indexOf(1))
		mustTake(t, x, 1, 2, 3, 4, 5, 6)
	}
	x := begun(t, 8)
	mustPut(t, x, 7, good)
	mustPut(t, x, 2, indexOf(1))
	mustTake(t, x)
}

func TestWhatIsNoIndexNamesNone(t *testing.T) {
	wrongKind := indexOf(3, 4)
	wrongKind.Kind = 4
	long := indexOf(3, 4)
	long.Body[32] = 1
	end := indexOf(3, 4)
	end.Body[55] = 1
	for _, b := range []api.Block{wrongKind, long, end, indexOf(3, 3), indexOf(3, 0), indexOf(3, 200), ofKind(0), lone(3), ofKind(7)} {
		x := begun(t, 5)
		mustPut(t, x, 1, fileOf(2, none, none, none, none))
		mustPut(t, x, 2, b)
		if b == lone(3) {
			mustTake(t, x, 4) // it is a file, of its own right
			continue
		}
		mustTake(t, x, 3, 4)
	}
}

func TestNamesOfBlocksThatThereAreNot(t *testing.T) {
	x := begun(t, 6)
	mustPut(t, x, 1, fileOf(6, 199, 3, 7, none))
	mustTake(t, x, 2, 4, 5)
	x = begun(t, 6)
	mustPut(t, x, 1, fileOf(2, none, none, none, none))
	mustPut(t, x, 2, indexOf(6, 199, 4))
	mustTake(t, x, 3, 5)
	x = begun(t, 200)
	mustPut(t, x, 1, lone(199))
	if n := x.Left(); n != 197 {
		t.Fatalf("Left: %d", n)
	}
}

func TestTakenIsTakenWhateverBecomesOfIt(t *testing.T) {
	x := begun(t, 5)
	if at, ok := x.Take(); at != 1 || !ok {
		t.Fatalf("Take: %d", at)
	}
	// a block that is taken, put, and let go is not there to be taken again
	mustPut(t, x, 1, lone(2))
	if n := x.Left(); n != 2 {
		t.Fatalf("Left: %d", n)
	}
	mustPut(t, x, 1, ofKind(0))
	mustTake(t, x, 2, 3, 4)
	mustGet(t, x, 1, ofKind(0))
	// a new change has nothing taken
	mustCommit(t, x, api.OK)
	mustTake(t, x, 1, 2, 3, 4)
}

func TestAChangeThatPutsNothing(t *testing.T) {
	d, v := fresh(t, 5, 40)
	x := tx.New(v)
	before := len(d.Trace(0))
	mustCommit(t, x, api.OK)
	if at, _ := x.Take(); at != 1 {
		t.Fatalf("Take: %d", at)
	}
	mustCommit(t, x, api.OK)
	mustTake(t, x, 1, 2, 3, 4)
	if len(d.Trace(0)) != before || v.Room() != 40 || v.Epoch() != 2 {
		t.Fatal("a change of nothing was made")
	}
}

func TestWhatAChangeLetsGoIsFree(t *testing.T) {
	x := begun(t, 8)
	mustPut(t, x, 1, fileOf(3, 2, none, none, none))
	mustPut(t, x, 3, indexOf(4))
	mustPut(t, x, 5, ofKind(2))
	mustPut(t, x, 6, ofKind(6))
	mustCommit(t, x, api.OK)
	if n := x.Left(); n != 1 {
		t.Fatalf("Left: %d", n)
	}
	mustPut(t, x, 6, ofKind(0))
	mustPut(t, x, 3, indexOf())
	mustTake(t, x, 4, 6, 7)
	mustCommit(t, x, api.OK)
	mustPut(t, x, 1, ofKind(0))
	mustTake(t, x, 1, 2, 3, 4, 6, 7)
}

func TestGetAndPutOfPlaces(t *testing.T) {
	beyond := []int{
		-1, -2, -200, math.MinInt32, math.MinInt, math.MinInt + 1, 200, 201, 255, 256, 1 << 16, 1<<16 + 1,
		1 << 31, 1 << 32, 1<<32 + 1, math.MaxInt32, math.MaxInt - 1, math.MaxInt,
	}
	for _, blocks := range []int{4, 5, 63, 64, 199, 200} {
		x := begun(t, blocks)
		super := ofKind(7)
		super.Body[3] = 1
		mustGet(t, x, 0, super)
		mustGet(t, x, blocks-1, ofKind(0))
		mustPut(t, x, blocks-1, one('z'))
		mustPut(t, x, 0, one('a'))
		mustPut(t, x, 0, one('b'))
		mustNotHave(t, x, blocks)
		for _, at := range beyond {
			mustNotHave(t, x, at)
		}
		if l := x.Writes(); !slices.Equal(l, []api.Write{{At: 0, B: one('b')}, {At: blocks - 1, B: one('z')}}) {
			t.Fatalf("Writes: %v", l)
		}
	}
}

func TestWritesAreByAtInWhateverOrder(t *testing.T) {
	s := some(7)
	for range 200 {
		x := begun(t, 30)
		want := map[int]api.Block{}
		for range s.below(40) {
			at, b := s.below(30), one(byte(s.next()))
			mustPut(t, x, at, b)
			want[at] = b
		}
		l := x.Writes()
		if len(l) != len(want) || !slices.IsSortedFunc(l, func(a, b api.Write) int { return a.At - b.At }) {
			t.Fatalf("%v", l)
		}
		for _, w := range l {
			if want[w.At] != w.B {
				t.Fatalf("%v", w)
			}
		}
	}
}

// A block that is put as it was is one that was put.
func TestAPutOfTheSameIsAPut(t *testing.T) {
	_, v := fresh(t, 5, 40)
	x := tx.New(v)
	mustPut(t, x, 3, ofKind(0))
	if l := x.Writes(); !slices.Equal(l, []api.Write{{At: 3}}) {
		t.Fatalf("%v", l)
	}
	mustCommit(t, x, api.OK)
	if v.Room() != 38 {
		t.Fatalf("Room: %d", v.Room())
	}
}

func TestWritesIsNewMemory(t *testing.T) {
	x := begun(t, 5)
	mustPut(t, x, 1, one('a'))
	mustPut(t, x, 2, one('b'))
	l := x.Writes()
	l[0] = api.Write{At: 3, B: one('c')}
	_ = append(l[:1], api.Write{At: 4})
	mustGet(t, x, 1, one('a'))
	mustGet(t, x, 2, one('b'))
	mustGet(t, x, 3, ofKind(0))
	l = x.Writes()
	mustPut(t, x, 1, one('d'))
	if l[0].B != one('a') {
		t.Fatal("what was told changes")
	}
	// spare room is not shared either
	_ = append(l, api.Write{At: 9, B: one('e')})
	mustPut(t, x, 3, one('f'))
	mustPut(t, x, 0, one('g'))
	if l := x.Writes(); len(l) != 4 || l[3].B != one('f') {
		t.Fatalf("%v", l)
	}
}

func TestNothingIsDoneAheadOfCommit(t *testing.T) {
	d, v := fresh(t, 10, 40)
	x, y := tx.New(v), tx.New(v)
	before := len(d.Trace(0))
	mustPut(t, x, 3, one('a'))
	mustPut(t, x, 4, lone(5))
	x.Take()
	if len(d.Trace(0)) != before || v.Room() != 40 {
		t.Fatal("something is written")
	}
	mustGet(t, y, 3, ofKind(0))
	if b, _ := v.Get(3); b != ofKind(0) {
		t.Fatal("the volume has it")
	}
	if y.Left() != 9 || x.Left() != 6 {
		t.Fatalf("Left: %d, %d", y.Left(), x.Left())
	}
	mustCommit(t, y, api.OK)
	if len(d.Trace(0)) != before {
		t.Fatal("another's change is written")
	}
	mustCommit(t, x, api.OK)
	mustGet(t, y, 3, one('a'))
	if b, _ := v.Get(3); b != one('a') {
		t.Fatal("the volume has it not")
	}
	if y.Left() != 7 || x.Left() != 7 {
		t.Fatalf("Left: %d, %d", y.Left(), x.Left())
	}
}

// What Commit writes is what Change of the same would write.
func TestCommitIsAChangeOfWrites(t *testing.T) {
	s := some(3)
	d, v := fresh(t, 30, 16)
	e, w := fresh(t, 30, 16)
	x := tx.New(v)
	for range 300 {
		for range 1 + s.below(12) {
			mustPut(t, x, s.below(30), one(byte(s.next())))
		}
		l := x.Writes()
		mustCommit(t, x, api.OK)
		if e := w.Change(l); e != api.OK {
			t.Fatalf("Change: %d", e)
		}
		if s.below(9) == 0 {
			v.Sync()
			w.Sync()
		}
	}
	if !reflect.DeepEqual(d.Trace(0), e.Trace(0)) {
		t.Fatal("they are written otherwise")
	}
}

func TestAnErrorLeavesAllAsItWas(t *testing.T) {
	for _, kind := range []int{-1, 8, 256, 263, math.MaxInt, math.MinInt} {
		mustGoOn(t, 3, func(x *tx.Tx) { mustPut(t, x, 4, ofKind(kind)) })
	}
	mustGoOn(t, 13, func(x *tx.Tx) {
		for at := 1; at <= 13; at++ {
			mustPut(t, x, at, one(byte(at)))
		}
	})
	// 12 are not too many
	x := begun(t, 20)
	for at := 1; at <= 12; at++ {
		mustPut(t, x, at, one(byte(at)))
	}
	mustCommit(t, x, api.OK)
}

// mustGoOn: a change that is refused goes on, with all that was put, n of
// them, and taken.
func mustGoOn(t *testing.T, n int, spoil func(x *tx.Tx)) {
	t.Helper()
	d, v := fresh(t, 20, 40)
	x := tx.New(v)
	mustPut(t, x, 1, fileOf(none, 3, none, none, none))
	mustPut(t, x, 2, one('b'))
	if at, ok := x.Take(); at != 2 || !ok {
		t.Fatalf("Take: %d", at)
	}
	spoil(x)
	before, left, wrote := x.Writes(), x.Left(), len(d.Trace(0))
	for range 3 {
		mustCommit(t, x, api.EArg)
		if l := x.Writes(); len(l) != n || !slices.Equal(l, before) || x.Left() != left || len(d.Trace(0)) != wrote || v.Room() != 40 {
			t.Fatalf("it is not as it was: %v", l)
		}
		if b, _ := v.Get(2); b != ofKind(0) {
			t.Fatal("something is done")
		}
	}
}

func TestNilChanges(t *testing.T) {
	if tx.New(nil) != nil {
		t.Fatal("a change of nothing")
	}
	var x *tx.Tx
	for _, at := range []int{-1, 0, 1, math.MaxInt} {
		if b, ok := x.Get(at); ok || b != (api.Block{}) || x.Put(at, one('a')) {
			t.Fatalf("at %d", at)
		}
	}
	if at, ok := x.Take(); ok || at != 0 || x.Left() != 0 || len(x.Writes()) != 0 || x.Commit() != api.EArg {
		t.Fatal("a nil change has something")
	}
	// one that New did not make has no blocks
	var y tx.Tx
	if at, ok := y.Take(); ok || at != 0 || y.Left() != 0 || y.Put(0, one('a')) || len(y.Writes()) != 0 || y.Commit() != api.OK {
		t.Fatal("a change of no volume has something")
	}
}

// anyBlock is a block of all sorts, of those that there may be mostly.
func anyBlock(s *some, blocks int) api.Block {
	place := func() int { return s.below(blocks+2) - 1 }
	switch s.below(12) {
	case 0, 1, 2:
		return fileOf(place(), place(), place(), none, none)
	case 3, 4:
		return fileOf(place(), none, none, none, none)
	case 5:
		return indexOf(place(), place(), place(), none)
	case 6:
		return indexOf(none, place(), none, place())
	case 7:
		return ofKind(s.below(9))
	case 8:
		b := fileOf(place(), place(), place(), place(), place())
		b.Body[s.below(56)] ^= 1
		return b
	default:
		return ofKind(s.below(8))
	}
}

// runner is a volume, with two changes of it, each with its model.
type runner struct {
	v      *vol.Vol
	blocks []api.Block
	x      [2]*tx.Tx
	m      [2]*model
}

func newRunner(t *testing.T, blocks, log int) *runner {
	t.Helper()
	_, v := fresh(t, blocks, log)
	r := &runner{v: v, blocks: make([]api.Block, blocks)}
	r.blocks[0].Kind = 7
	r.blocks[0].Body[3] = 1
	for i := range 2 {
		r.x[i], r.m[i] = tx.New(v), newModel(&r.blocks)
	}
	return r
}

func (r *runner) step(t *testing.T, s *some) {
	t.Helper()
	i, blocks := s.below(2), len(r.blocks)
	x, m := r.x[i], r.m[i]
	switch s.below(10) {
	default:
		at, b := s.below(blocks+4)-2, anyBlock(s, blocks)
		if ok, want := x.Put(at, b), m.put(at, b); ok != want {
			t.Fatalf("Put(%d): %v", at, ok)
		}
	case 0, 1, 2:
		at, ok := x.Take()
		if want, wantOk := m.take(); at != want || ok != wantOk {
			t.Fatalf("Take: %d, %v, not %d, %v", at, ok, want, wantOk)
		}
	case 3, 4:
		e := x.Commit()
		if want := m.commit(); e != want {
			t.Fatalf("Commit: %d, not %d", e, want)
		}
		if e != api.OK { // else it is refused for ever
			r.x[i], r.m[i] = tx.New(r.v), newModel(&r.blocks)
		}
	case 5: // somebody else changes the volume
		l := []api.Write{{At: s.below(blocks), B: anyBlock(s, blocks)}}
		if e, want := r.v.Change(l), change(&r.blocks, l); e != want {
			t.Fatalf("Change: %d", e)
		}
	case 6:
		r.v.Tidy()
	}
}

func TestLongRuns(t *testing.T) {
	s := some(1)
	for _, blocks := range []int{4, 5, 6, 7, 8, 9, 10, 12, 15, 20, 40, 100, 200} {
		for range 8 {
			r := newRunner(t, blocks, 16+s.below(85))
			for range 150 {
				r.step(t, &s)
				mustBeAs(t, r.x[0], r.m[0])
				mustBeAs(t, r.x[1], r.m[1])
			}
		}
	}
}
