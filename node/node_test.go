package node_test

import (
	"math"
	"strings"
	"testing"

	"clathri/api"
	"clathri/node"
)

// What the document's numbers come to, so that no answer of the package
// decides what is tested.
const (
	maxLinks  = 1000
	maxFile   = 1120
	maxBlocks = 200
	maxTarget = 32
	body      = 56

	fileKind, folderKind, signKind = 1, 2, 3
)

// bare is a node that names no blocks.
func bare(gen uint32, links, size int) api.Node {
	return api.Node{Gen: gen, Links: links, Size: size, Direct: [4]int{-1, -1, -1, -1}, Index: -1}
}

func at(direct [4]int, index int) api.Node {
	n := bare(1, 1, 1)
	n.Direct, n.Index = direct, index
	return n
}

func sign(target string) api.Node {
	n := bare(1, 1, len(target))
	n.Target = target
	return n
}

// may is what the words of the promise say.
func may(kind int, n api.Node) bool {
	if n.Gen == 0 || n.Links < 0 || n.Links > maxLinks {
		return false
	}
	l := append(n.Direct[:], n.Index)
	seen := map[int]int{}
	for _, x := range l {
		seen[x]++
	}
	switch kind {
	case fileKind:
		for x, times := range seen {
			if x != -1 && (x < 1 || x > maxBlocks-1 || times > 1) {
				return false
			}
		}
		return n.Size >= 0 && n.Size <= maxFile && n.Target == ""
	case folderKind:
		return n.Links < 2 && n.Size == 0 && n.Target == "" && seen[-1] == 5
	case signKind:
		for _, x := range []byte(n.Target) {
			if x <= ' ' || x > '~' {
				return false
			}
		}
		return n.Target != "" && len(n.Target) <= maxTarget && n.Size == len(n.Target) && seen[-1] == 5
	}
	return false
}

// put is the node as its bytes, by the words of the promise.
func put(kind int, n api.Node) api.Block {
	l := []int{
		int(n.Gen) / 256 / 256 / 256, int(n.Gen) / 256 / 256, int(n.Gen) / 256, int(n.Gen),
		n.Links / 256, n.Links,
		0, 0, n.Size / 256, n.Size,
	}
	for _, x := range append(n.Direct[:], n.Index) {
		l = append(l, 0, x+1)
	}
	l = append(l, len(n.Target))
	b := api.Block{Kind: kind}
	for i, x := range l {
		b.Body[i] = byte(x % 256)
	}
	for i := range len(n.Target) {
		b.Body[len(l)+i] = n.Target[i]
	}
	return b
}

// ask holds all three calls against the words of the promise.
func ask(t *testing.T, kind int, n api.Node) {
	t.Helper()
	if !may(kind, n) {
		mustRefuse(t, kind, n)
		return
	}
	mustBe(t, kind, n, put(kind, n))
}

func mustRefuse(t *testing.T, kind int, n api.Node) {
	t.Helper()
	if node.May(kind, n) {
		t.Errorf("May(%d, %v): yes", kind, n)
	}
	if b, ok := node.Put(kind, n); ok || b != (api.Block{}) {
		t.Errorf("Put(%d, %v) is %v, %v", kind, n, b, ok)
	}
}

func mustBe(t *testing.T, kind int, n api.Node, want api.Block) {
	t.Helper()
	if !node.May(kind, n) {
		t.Errorf("May(%d, %v): no", kind, n)
	}
	if b, ok := node.Put(kind, n); b != want || !ok {
		t.Errorf("Put(%d, %v) is %v, %v", kind, n, b, ok)
	}
	if got, ok := node.Take(want); got != n || !ok {
		t.Errorf("Take(%v) is %v, %v, not %v", want, got, ok, n)
	}
}

func mustNotTake(t *testing.T, b api.Block) {
	t.Helper()
	if n, ok := node.Take(b); ok || n != (api.Node{}) {
		t.Errorf("Take(%v) is %v, %v", b, n, ok)
	}
}

// toBlock is a block of those bytes, with noughts behind.
func toBlock(kind int, bytes string) api.Block {
	b := api.Block{Kind: kind}
	copy(b.Body[:], bytes)
	return b
}

// far is numbers that are out of every limit: such as wrap round to one that
// is not, and the ends of int.
func far() []int {
	return []int{
		-2, -3, -255, -256, -65535, -65536, -1 << 31, -1<<31 + 1, -1 << 32, -1<<32 - 1,
		1<<16 - 1, 1 << 16, 1<<16 + 1, 1<<31 - 1, 1 << 31, 1<<32 - 1, 1 << 32, 1<<32 + 1, 1<<32 + 3,
		math.MaxInt, math.MaxInt - 1, math.MinInt, math.MinInt + 1,
	}
}

func TestKnownOnes(t *testing.T) {
	mustBe(t, fileKind, bare(1, 0, 0), toBlock(fileKind, "\x00\x00\x00\x01"))
	mustBe(t, folderKind, bare(0x01020304, 1, 0), toBlock(folderKind, "\x01\x02\x03\x04\x00\x01"))

	f := bare(0xfffefdfc, 1000, 1120)
	f.Direct, f.Index = [4]int{199, -1, 1, 128}, 2
	mustBe(t, fileKind, f, toBlock(fileKind, "\xff\xfe\xfd\xfc\x03\xe8\x00\x00\x04\x60\x00\xc8\x00\x00\x00\x02\x00\x81\x00\x03"))

	s := sign("/a")
	s.Gen, s.Links = 256, 258
	mustBe(t, signKind, s, toBlock(signKind, "\x00\x00\x01\x00\x01\x02\x00\x00\x00\x02"+strings.Repeat("\x00", 10)+"\x02/a"))
}

func TestTheNoughtsAreOfNoKind(t *testing.T) {
	for kind := -2; kind < 300; kind++ {
		mustRefuse(t, kind, api.Node{})
		mustNotTake(t, toBlock(kind, ""))
		mustNotTake(t, toBlock(kind, strings.Repeat("\xff", body)))
	}
}

func TestThereAreThreeKinds(t *testing.T) {
	for _, n := range []api.Node{bare(1, 1, 0), bare(1, 1, 1), at([4]int{1, 2, 3, 4}, 5), sign("a")} {
		for kind := -300; kind < 300; kind++ {
			ask(t, kind, n)
		}
		for _, kind := range far() {
			mustRefuse(t, kind, n)
		}
	}
}

// TestTakeAsksTheKind: the bytes of one kind are another's only if they may be.
func TestTakeAsksTheKind(t *testing.T) {
	for kind, n := range map[int]api.Node{fileKind: bare(1, 1, 1), folderKind: bare(1, 1, 0), signKind: sign("a")} {
		b, _ := node.Put(kind, n)
		for other := -300; other < 300; other++ {
			b.Kind = other
			if !may(other, n) {
				mustNotTake(t, b)
			} else {
				mustBe(t, other, n, b)
			}
		}
		for _, other := range far() {
			b.Kind = other
			mustNotTake(t, b)
		}
	}
}

func TestGenerations(t *testing.T) {
	gens := []uint32{0, 1, 2, 255, 256, 257, 65535, 65536, 0x01020304, math.MaxInt32, math.MaxUint32 - 1, math.MaxUint32}
	for bit := range 32 {
		gens = append(gens, 1<<bit)
	}
	for _, gen := range gens {
		f, s := bare(gen, 1, 0), sign("a")
		s.Gen = gen
		ask(t, fileKind, f)
		ask(t, folderKind, f)
		ask(t, signKind, s)
	}
}

func TestLinks(t *testing.T) {
	links := far()
	for x := -3; x < 1100; x++ {
		links = append(links, x)
	}
	for _, x := range links {
		s := sign("a")
		s.Links = x
		ask(t, fileKind, bare(1, x, 0))
		ask(t, folderKind, bare(1, x, 0))
		ask(t, signKind, s)
	}
}

func TestSizes(t *testing.T) {
	sizes := far()
	for x := -3; x < 1300; x++ {
		sizes = append(sizes, x)
	}
	for _, x := range sizes {
		s, long := sign("a"), sign(strings.Repeat("x", maxTarget))
		s.Size, long.Size = x, x
		ask(t, fileKind, bare(1, 1, x))
		ask(t, folderKind, bare(1, 1, x))
		ask(t, signKind, s)
		ask(t, signKind, long)
	}
}

// inPlace is a node like n, but for the block that it names there: the last
// place is the index.
func inPlace(n api.Node, place, x int) api.Node {
	if place == len(n.Direct) {
		n.Index = x
	} else {
		n.Direct[place] = x
	}
	return n
}

func TestPlacesOfBlocks(t *testing.T) {
	places := far()
	for x := -3; x < 300; x++ {
		places = append(places, x)
	}
	for _, x := range places {
		for place := range 5 {
			ask(t, fileKind, inPlace(bare(1, 1, 1), place, x))
			ask(t, fileKind, inPlace(at([4]int{10, 20, 30, 40}, 50), place, x))
			ask(t, folderKind, inPlace(bare(1, 1, 0), place, x))
			ask(t, signKind, inPlace(sign("a"), place, x))
		}
	}
}

func TestNoBlockIsNamedTwice(t *testing.T) {
	for one := range 5 {
		for other := range one {
			for _, x := range []int{-1, 1, 7, 128, 199} {
				ask(t, fileKind, inPlace(inPlace(bare(1, 1, 1), one, x), other, x))
				ask(t, fileKind, inPlace(inPlace(at([4]int{10, 20, 30, 40}, 50), one, x), other, x))
			}
		}
	}
}

// TestAllWaysOfFewBlocks asks all nodes of some few blocks, such as may not be
// too.
func TestAllWaysOfFewBlocks(t *testing.T) {
	l := []int{-2, -1, 0, 1, 2, 199, 200}
	for _, a := range l {
		for _, b := range l {
			for _, c := range l {
				for _, d := range l {
					for _, e := range l {
						ask(t, fileKind, at([4]int{a, b, c, d}, e))
					}
				}
			}
		}
	}
}

func TestBytesOfATarget(t *testing.T) {
	for x := range 256 {
		one := string([]byte{byte(x)})
		ask(t, signKind, sign(one))
		ask(t, signKind, sign(one+"abc"))
		ask(t, signKind, sign("ab"+one+"c"))
		ask(t, signKind, sign("abc"+one))
		ask(t, signKind, sign(strings.Repeat("a", maxTarget-1)+one))
	}
	for _, target := range []string{"\u00e9", "\u4e16", "a b", "a\tb", "\xff", "..", "/", "//a//", "~", "!"} {
		ask(t, signKind, sign(target))
	}
}

func TestLengthsOfATarget(t *testing.T) {
	for n := range 400 {
		ask(t, signKind, sign(strings.Repeat("q", n)))
	}
	mustRefuse(t, signKind, sign(strings.Repeat("q", 1<<16+1)))
	long := sign(strings.Repeat("q", maxTarget+256))
	for size := range 400 {
		long.Size = size
		mustRefuse(t, signKind, long)
	}
}

func TestOnlyASignHasATarget(t *testing.T) {
	for _, target := range []string{"a", "\x00", strings.Repeat("a", maxTarget)} {
		for _, kind := range []int{fileKind, folderKind} {
			n := bare(1, 1, 0)
			n.Target = target
			mustRefuse(t, kind, n)
			n.Size = len(target)
			mustRefuse(t, kind, n)
			mustNotTake(t, put(kind, n))
		}
	}
}

// TestWhatMayNotBeIsNotTaken: bytes as they would be, were there no limits.
func TestWhatMayNotBeIsNotTaken(t *testing.T) {
	for _, x := range []struct {
		kind int
		n    api.Node
	}{
		{fileKind, bare(0, 1, 0)}, {fileKind, bare(1, maxLinks+1, 0)}, {fileKind, bare(1, 1, maxFile+1)},
		{fileKind, bare(1, 65535, 0)}, {fileKind, bare(1, 1, 65535)},
		{fileKind, at([4]int{0, 1, 2, 3}, 4)}, {fileKind, at([4]int{1, 2, 3, 200}, 4)}, {fileKind, at([4]int{1, 2, 3, 4}, 200)},
		{fileKind, at([4]int{1, 2, 3, 4}, 0)}, {fileKind, at([4]int{1, 2, 1, -1}, -1)}, {fileKind, at([4]int{-1, -1, -1, 9}, 9)},
		{folderKind, bare(1, 2, 0)}, {folderKind, bare(1, 1, 1)}, {folderKind, bare(0, 1, 0)},
		{folderKind, inPlace(bare(1, 1, 0), 0, 1)}, {folderKind, inPlace(bare(1, 1, 0), 4, 1)},
		{signKind, bare(1, 1, 0)}, {signKind, sign("a b")}, {signKind, sign("\x7f")}, {signKind, inPlace(sign("a"), 4, 1)},
		{signKind, sign(strings.Repeat("a", maxTarget+1))}, {signKind, sign(strings.Repeat("a", body-21))},
	} {
		mustRefuse(t, x.kind, x.n)
		mustNotTake(t, put(x.kind, x.n))
	}
}

// TestTheLengthIsThatOfTheTarget: a length that is not the target's, and one
// that leads behind the block.
func TestTheLengthIsThatOfTheTarget(t *testing.T) {
	for _, target := range []string{"a", "abc", strings.Repeat("a", maxTarget)} {
		b, _ := node.Put(signKind, sign(target))
		for length := range 256 {
			b.Body[20] = byte(length)
			if length == len(target) {
				mustBe(t, signKind, sign(target), b)
			} else {
				mustNotTake(t, b)
			}
		}
	}
	for _, kind := range []int{fileKind, folderKind} {
		b, _ := node.Put(kind, bare(1, 1, 0))
		for length := 1; length < 256; length++ {
			b.Body[20] = byte(length)
			mustNotTake(t, b)
		}
	}
}

// TestTheLengthIsNotTheSize: each is asked, though both are the same.
func TestTheLengthIsNotTheSize(t *testing.T) {
	b, _ := node.Put(signKind, sign("abc"))
	for size := range 256 {
		if b.Body[9] = byte(size); size != 3 {
			mustNotTake(t, b)
		}
	}
}

// TestTurnedBytes: what one byte was turned in is another node, or none.
func TestTurnedBytes(t *testing.T) {
	f := at([4]int{1, 20, 199, -1}, 7)
	f.Gen, f.Links, f.Size = 0x01020304, 1000, 1120
	for _, x := range []struct {
		kind int
		n    api.Node
	}{{fileKind, f}, {fileKind, bare(1, 0, 0)}, {folderKind, bare(1, 1, 0)}, {signKind, sign("/ab")}, {signKind, sign(strings.Repeat("z", maxTarget))}} {
		b, _ := node.Put(x.kind, x.n)
		for i := range b.Body {
			for by := 1; by < 256; by++ {
				turned := b
				turned.Body[i] ^= byte(by)
				n, ok := node.Take(turned)
				if !ok {
					mustNotTake(t, turned)
				} else if n == x.n || !may(x.kind, n) || put(x.kind, n) != turned {
					t.Errorf("Take(%v) is %v", turned, n)
				}
			}
		}
	}
}

// TestWhichTurnedBytesAreTaken: bytes that may be of another node are of it.
func TestWhichTurnedBytesAreTaken(t *testing.T) {
	for gen := 1; gen < 256; gen++ {
		for i := range 4 {
			b := toBlock(fileKind, "")
			b.Body[i] = byte(gen)
			mustBe(t, fileKind, bare(uint32(gen)<<(24-8*i), 0, 0), b)
		}
	}
	for x := range 2000 {
		b := toBlock(fileKind, "\x00\x00\x00\x01")
		b.Body[4], b.Body[5] = byte(x/256), byte(x)
		if n := bare(1, x, 0); may(fileKind, n) {
			mustBe(t, fileKind, n, b)
		} else {
			mustNotTake(t, b)
		}
	}
	for high := 1; high < 256; high++ {
		for _, i := range []int{6, 7, 10, 12, 14, 16, 18} {
			b := toBlock(fileKind, "\x00\x00\x00\x01")
			b.Body[i] = byte(high)
			mustNotTake(t, b)
			b.Body[i+1] = 2
			mustNotTake(t, b)
		}
	}
}

func TestBehindATargetAreNoughts(t *testing.T) {
	for _, x := range []struct {
		kind   int
		n      api.Node
		behind int
	}{{fileKind, bare(1, 1, 0), 21}, {folderKind, bare(1, 1, 0), 21}, {signKind, sign("ab"), 23}, {signKind, sign(strings.Repeat("a", maxTarget)), 53}} {
		b, _ := node.Put(x.kind, x.n)
		for i := x.behind; i < body; i++ {
			for _, y := range []byte{1, 'a', 255} {
				c := b
				c.Body[i] = y
				mustNotTake(t, c)
			}
		}
	}
}

func TestTheSameIsToldEachTime(t *testing.T) {
	s := sign("/over/there")
	one, _ := node.Put(signKind, s)
	n, _ := node.Take(one)
	clear(one.Body[:])
	other, ok := node.Put(signKind, s)
	if !ok || n != s || other != put(signKind, s) {
		t.Errorf("%v, %v, %v", n, other, ok)
	}
}
