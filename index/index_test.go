package index_test

import (
	"math"
	"slices"
	"testing"

	"clathri/api"
	"clathri/index"
)

// What the document's numbers come to, so that no answer of the package
// decides what is tested.
const (
	direct    = 4
	places    = 16
	maxBlocks = 200
	maxFile   = 1120
	body      = 56

	indexKind = 5
)

// far is numbers that are out of every limit: such as wrap round to one that
// is not, and the ends of int.
func far() []int {
	return []int{
		-2, -3, -255, -256, -257, -65535, -65536, -1 << 31, -1<<31 + 1, -1 << 32, -1<<32 - 1,
		1<<16 - 1, 1 << 16, 1<<16 + 1, 1<<31 - 1, 1 << 31, 1<<32 - 1, 1 << 32, 1<<32 + 1, 1<<32 + 3,
		1<<53 + 1, math.MaxInt, math.MaxInt - 1, math.MinInt, math.MinInt + 1,
	}
}

// none is an index that names no block.
func none() []int {
	return slices.Repeat([]int{-1}, places)
}

// full is an index that names as many as it may, of one byte and of its ends.
func full() []int {
	return []int{199, 1, 128, 127, 2, 64, 100, 150, 3, 198, 77, 4, 5, 190, 6, 7}
}

// with is l, but for the places that it is told.
func with(l []int, at int, x ...int) []int {
	l = slices.Clone(l)
	copy(l[at:], x)
	return l
}

// may is what the words of the promise say.
func may(l []int) bool {
	if len(l) != places {
		return false
	}
	for i, x := range l {
		for j, y := range l {
			if i != j && x == y && x != -1 {
				return false
			}
		}
		if x < -1 || x == 0 || x > maxBlocks-1 {
			return false
		}
	}
	return true
}

// put is the places as a block, by the words of the promise, whether they may
// be or not.
func put(l []int) api.Block {
	b := api.Block{Kind: indexKind}
	for i, x := range l {
		b.Body[2*i] = byte((x + 1) / 256)
		b.Body[2*i+1] = byte((x + 1) % 256)
	}
	return b
}

// ask holds Put and Take against the words of the promise.
func ask(t *testing.T, l []int) {
	t.Helper()
	if !may(l) {
		mustRefuse(t, l)
		return
	}
	mustBe(t, l, put(l))
}

func mustRefuse(t *testing.T, l []int) {
	t.Helper()
	if b, ok := index.Put(l); ok || b != (api.Block{}) {
		t.Errorf("Put(%v) is %v, %v", l, b, ok)
	}
}

func mustBe(t *testing.T, l []int, want api.Block) {
	t.Helper()
	if b, ok := index.Put(l); b != want || !ok {
		t.Errorf("Put(%v) is %v, %v", l, b, ok)
	}
	if got, ok := index.Take(want); !slices.Equal(got, l) || !ok {
		t.Errorf("Take(%v) is %v, %v, not %v", want, got, ok, l)
	}
}

func mustNotTake(t *testing.T, b api.Block) {
	t.Helper()
	if l, ok := index.Take(b); ok || len(l) != 0 {
		t.Errorf("Take(%v) is %v, %v", b, l, ok)
	}
}

// toBlock is an index of those bytes, with noughts behind.
func toBlock(bytes string) api.Block {
	b := api.Block{Kind: indexKind}
	copy(b.Body[:], bytes)
	return b
}

func TestWhere(t *testing.T) {
	for k := -1000; k < 1000; k++ {
		d, in, ok := index.Where(k)
		switch {
		case k < 0 || k >= direct+places:
			if d != 0 || in != 0 || ok {
				t.Errorf("Where(%d) is %d, %d, %v", k, d, in, ok)
			}
		case k < direct:
			if d != k || in != -1 || !ok {
				t.Errorf("Where(%d) is %d, %d, %v", k, d, in, ok)
			}
		default:
			if d != -1 || in != k-direct || !ok {
				t.Errorf("Where(%d) is %d, %d, %v", k, d, in, ok)
			}
		}
	}
	for _, k := range far() {
		if d, in, ok := index.Where(k); d != 0 || in != 0 || ok {
			t.Errorf("Where(%d) is %d, %d, %v", k, d, in, ok)
		}
	}
}

// TestEachPlaceIsOneBlocks: no two blocks of a file are at the same place.
func TestEachPlaceIsOneBlocks(t *testing.T) {
	seen := map[[2]int]int{}
	for k := range direct + places {
		d, in, _ := index.Where(k)
		seen[[2]int{d, in}]++
	}
	if len(seen) != direct+places {
		t.Errorf("%v", seen)
	}
}

func TestKnownOnes(t *testing.T) {
	mustBe(t, none(), toBlock(""))
	mustBe(t, with(none(), 0, 1), toBlock("\x00\x02"))
	mustBe(t, with(none(), 0, 199, 7), toBlock("\x00\xc8\x00\x08"))
	mustBe(t, with(none(), 3, 127), toBlock("\x00\x00\x00\x00\x00\x00\x00\x80"))
	mustBe(t, full(), toBlock("\x00\xc8\x00\x02\x00\x81\x00\x80\x00\x03\x00\x41\x00\x65\x00\x97\x00\x04\x00\xc7\x00\x4e\x00\x05\x00\x06\x00\xbf\x00\x07\x00\x08"))
}

func TestPlaces(t *testing.T) {
	numbers := far()
	for x := -3; x < 700; x++ {
		numbers = append(numbers, x)
	}
	for _, x := range numbers {
		for i := range places {
			ask(t, with(none(), i, x))
			ask(t, with(full(), i, x))
			ask(t, with(slices.Repeat([]int{x}, places), i, -1))
		}
		askAll(t, x)
	}
}

// askAll asks an index that names the same block at all places.
func askAll(t *testing.T, x int) {
	t.Helper()
	l := slices.Repeat([]int{x}, places)
	if x == -1 {
		mustBe(t, l, toBlock(""))
	} else {
		mustRefuse(t, l)
	}
}

func TestHowMany(t *testing.T) {
	mustRefuse(t, nil)
	for n := range 400 {
		all := make([]int, n)
		for i := range all {
			all[i] = i%(maxBlocks-1) + 1
		}
		ask(t, all)
		ask(t, slices.Repeat([]int{-1}, n))
	}
	mustRefuse(t, make([]int, 1<<20))
	mustRefuse(t, append(full(), full()...))
}

func TestNoBlockIsThereTwice(t *testing.T) {
	for x := -1; x <= maxBlocks; x++ {
		for one := range places {
			for other := range one {
				ask(t, with(with(none(), one, x), other, x))
				askTwice(t, x, one, other)
			}
		}
	}
}

// askTwice asks a block twice among others that are all unlike.
func askTwice(t *testing.T, x, one, other int) {
	t.Helper()
	l := make([]int, places)
	for i := range l {
		if l[i] = 30 + i; x >= 20 && x < 100 {
			l[i] = 130 + i
		}
	}
	l[one], l[other] = x, x
	if b, ok := index.Put(l); ok != (x == -1) {
		t.Errorf("Put(%v) is %v, %v", l, b, ok)
	}
	if x != -1 {
		mustNotTake(t, put(l))
	}
}

// TestAllNumbersOfAPlace: as two bytes there are just those that may be.
func TestAllNumbersOfAPlace(t *testing.T) {
	for i := range places {
		for x := range 1 << 16 {
			l := with(none(), i, x-1)
			if b := put(l); may(l) {
				mustBe(t, l, b)
			} else {
				mustNotTake(t, b)
			}
		}
	}
}

func TestTakeAsksTheKind(t *testing.T) {
	for _, l := range [][]int{none(), full()} {
		b := put(l)
		kinds := far()
		for kind := -300; kind < 300; kind++ {
			kinds = append(kinds, kind)
		}
		for _, kind := range kinds {
			if b.Kind = kind; kind == indexKind {
				mustBe(t, l, b)
			} else {
				mustNotTake(t, b)
			}
		}
	}
	mustNotTake(t, api.Block{})
}

func TestBehindThePlacesAreNoughts(t *testing.T) {
	for _, l := range [][]int{none(), full()} {
		for i := 2 * places; i < body; i++ {
			for x := 1; x < 256; x++ {
				b := put(l)
				b.Body[i] = byte(x)
				mustNotTake(t, b)
			}
		}
	}
}

// TestTurnedBytes: what one byte was turned in is another index, or none.
func TestTurnedBytes(t *testing.T) {
	for _, l := range [][]int{none(), full(), with(none(), 7, 199)} {
		b := put(l)
		for i := range b.Body {
			for by := 1; by < 256; by++ {
				turned := b
				turned.Body[i] ^= byte(by)
				got, ok := index.Take(turned)
				if !ok {
					mustNotTake(t, turned)
				} else if slices.Equal(got, l) || !may(got) || put(got) != turned {
					t.Errorf("Take(%v) is %v", turned, got)
				}
			}
		}
	}
	var ones api.Block
	for i := range ones.Body {
		ones.Body[i] = 255
	}
	ones.Kind = indexKind
	mustNotTake(t, ones)
}

func TestPutNeitherChangesNorUsesSpareRoom(t *testing.T) {
	all := append(append([]int{9, 9}, full()...), 8, 8)
	was := slices.Clone(all)
	if b, ok := index.Put(all[2:18]); !ok || b != put(full()) {
		t.Errorf("%v, %v", b, ok)
	}
	mustRefuse(t, all[2:17])
	mustRefuse(t, all[2:19])
	if !slices.Equal(all, was) {
		t.Errorf("it is %v", all)
	}
}

func TestWhatIsTakenIsNewMemory(t *testing.T) {
	one, _ := index.Take(put(full()))
	other, _ := index.Take(put(full()))
	clear(one[:cap(one)])
	if !slices.Equal(other, full()) {
		t.Errorf("it is %v", other)
	}
	mustBe(t, full(), put(full()))
}

func mustBeIn(t *testing.T, off, n int, want ...index.Piece) {
	t.Helper()
	if got := index.Pieces(off, n); !slices.Equal(got, want) {
		t.Errorf("Pieces(%d, %d) is %v, not %v", off, n, got, want)
	}
}

func TestKnownPieces(t *testing.T) {
	mustBeIn(t, 50, 10, index.Piece{K: 0, From: 50, To: 56}, index.Piece{K: 1, From: 0, To: 4})
	mustBeIn(t, 0, 1, index.Piece{K: 0, From: 0, To: 1})
	mustBeIn(t, 0, 56, index.Piece{K: 0, From: 0, To: 56})
	mustBeIn(t, 0, 57, index.Piece{K: 0, From: 0, To: 56}, index.Piece{K: 1, From: 0, To: 1})
	mustBeIn(t, 55, 1, index.Piece{K: 0, From: 55, To: 56})
	mustBeIn(t, 55, 2, index.Piece{K: 0, From: 55, To: 56}, index.Piece{K: 1, From: 0, To: 1})
	mustBeIn(t, 56, 1, index.Piece{K: 1, From: 0, To: 1})
	mustBeIn(t, 60, 20, index.Piece{K: 1, From: 4, To: 24})
	mustBeIn(t, 223, 58, index.Piece{K: 3, From: 55, To: 56}, index.Piece{K: 4, From: 0, To: 56}, index.Piece{K: 5, From: 0, To: 1})
	mustBeIn(t, 1119, 1, index.Piece{K: 19, From: 55, To: 56})
	mustBeIn(t, 1064, 56, index.Piece{K: 19, From: 0, To: 56})
	mustBeIn(t, 1063, 57, index.Piece{K: 18, From: 55, To: 56}, index.Piece{K: 19, From: 0, To: 56})
}

func TestNoPieces(t *testing.T) {
	for _, x := range [][2]int{
		{-1, 0}, {-1, 1}, {-1, 2}, {0, -1}, {5, -1}, {1120, -1}, {-5, 10}, {-56, 1120}, {-1, 1121}, {100, -100}, {-100, -100},
		{0, 1121}, {1, 1120}, {1119, 2}, {1120, 1}, {1121, 0}, {1121, -1}, {560, 561}, {1176, 0}, {1200, 56},
	} {
		mustBeIn(t, x[0], x[1])
	}
	for _, x := range far() {
		for _, y := range append(far(), -1, 0, 1, 55, 56, 57, 1119, 1120, 1121) {
			mustBeIn(t, x, y)
			mustBeIn(t, y, x)
		}
	}
}

// TestPiecesAreAllBytes asks all offsets and lengths in and around the limits:
// the pieces go from off to off + n without a gap, and no block has two.
func TestPiecesAreAllBytes(t *testing.T) {
	for off := -3; off <= maxFile+3; off++ {
		for n := -3; n <= maxFile+3; n++ {
			l := index.Pieces(off, n)
			if off < 0 || n <= 0 || off+n > maxFile {
				if len(l) != 0 {
					t.Fatalf("Pieces(%d, %d) is %v", off, n, l)
				}
				continue
			}
			at, last := off, -1
			for _, p := range l {
				if p.K <= last || p.K*body+p.From != at || p.From < 0 || p.From >= p.To || p.To > body {
					t.Fatalf("Pieces(%d, %d) is %v", off, n, l)
				}
				at, last = p.K*body+p.To, p.K
			}
			if at != off+n {
				t.Fatalf("Pieces(%d, %d) is %v", off, n, l)
			}
		}
	}
}

// TestPiecesAreOfBlocksOfAFile: what has pieces, Where knows.
func TestPiecesAreOfBlocksOfAFile(t *testing.T) {
	l := index.Pieces(0, maxFile)
	if len(l) != direct+places {
		t.Fatalf("%v", l)
	}
	for i, p := range l {
		if _, _, ok := index.Where(p.K); !ok || p != (index.Piece{K: i, From: 0, To: body}) {
			t.Errorf("%v", p)
		}
	}
}

func TestPiecesAreNewMemory(t *testing.T) {
	one, other := index.Pieces(50, 200), index.Pieces(50, 200)
	clear(one[:cap(one)])
	if !slices.Equal(other, index.Pieces(50, 200)) || len(other) != 5 {
		t.Errorf("%v", other)
	}
	clear(other[:cap(other)])
	mustBeIn(t, 50, 10, index.Piece{K: 0, From: 50, To: 56}, index.Piece{K: 1, From: 0, To: 4})
}
