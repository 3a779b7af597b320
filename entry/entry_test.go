package entry_test

import (
	"math"
	"strings"
	"testing"

	"clathri/api"
	"clathri/entry"
)

// What the document's numbers come to, so that no answer of the package
// decides what is tested.
const (
	maxLabel  = 7
	maxPlace  = 199
	maxName   = 14
	body      = 56
	entryKind = 6
)

func root() api.ID {
	return api.ID{Label: -1}
}

func named(s string) api.Name {
	return api.Name{Dir: root(), Name: s, At: 9, Gen: 4}
}

func of(label, at int, gen uint32, s string, whom int, made uint32) api.Name {
	return api.Name{Dir: api.ID{Label: label, At: at, Gen: gen}, Name: s, At: whom, Gen: made}
}

// mayName is what the words of the promise say.
func mayName(s string) bool {
	for _, x := range []byte(s) {
		if x <= ' ' || x > '~' || x == '/' {
			return false
		}
	}
	return s != "" && s != "." && s != ".." && len(s) <= maxName
}

func mayDir(id api.ID) bool {
	if id == root() {
		return true
	}
	return id.Label >= 0 && id.Label <= maxLabel && id.At > 0 && id.At <= maxPlace && id.Gen != 0
}

func may(n api.Name) bool {
	return mayDir(n.Dir) && mayName(n.Name) && n.At > 0 && n.At <= maxPlace && n.Gen != 0
}

// put is the name as its bytes, by the words of the promise; it cuts off what
// is beyond a byte, a number or the block.
func put(n api.Name) api.Block {
	l := []int{
		n.Dir.Label, n.Dir.At >> 8, n.Dir.At,
		int(n.Dir.Gen) >> 24, int(n.Dir.Gen) >> 16, int(n.Dir.Gen) >> 8, int(n.Dir.Gen),
		n.At >> 8, n.At,
		int(n.Gen) >> 24, int(n.Gen) >> 16, int(n.Gen) >> 8, int(n.Gen),
		len(n.Name),
	}
	b := api.Block{Kind: entryKind}
	for i, x := range l {
		b.Body[i] = byte(x & 255)
	}
	copy(b.Body[len(l):], n.Name)
	return b
}

// ask holds all calls against the words of the promise.
func ask(t *testing.T, n api.Name) {
	t.Helper()
	if !may(n) {
		mustRefuse(t, n)
		return
	}
	mustBe(t, n, put(n))
}

func askName(t *testing.T, s string) {
	t.Helper()
	if got := entry.MayName(s); got != mayName(s) {
		t.Errorf("MayName(%q): %v", s, got)
	}
	ask(t, named(s))
}

func mustRefuse(t *testing.T, n api.Name) {
	t.Helper()
	if entry.May(n) {
		t.Errorf("May(%v): yes", n)
	}
	if b, ok := entry.Put(n); ok || b != (api.Block{}) {
		t.Errorf("Put(%v) is %v, %v", n, b, ok)
	}
}

func mustBe(t *testing.T, n api.Name, want api.Block) {
	t.Helper()
	if !entry.May(n) || !entry.MayName(n.Name) {
		t.Errorf("May(%v): no", n)
	}
	if b, ok := entry.Put(n); b != want || !ok {
		t.Errorf("Put(%v) is %v, %v", n, b, ok)
	}
	if got, ok := entry.Take(want); got != n || !ok {
		t.Errorf("Take(%v) is %v, %v, not %v", want, got, ok, n)
	}
}

func mustNotTake(t *testing.T, b api.Block) {
	t.Helper()
	if n, ok := entry.Take(b); ok || n != (api.Name{}) {
		t.Errorf("Take(%v) is %v, %v", b, n, ok)
	}
}

// toBlock is a block of those bytes, with noughts behind.
func toBlock(kind int, bytes string) api.Block {
	b := api.Block{Kind: kind}
	copy(b.Body[:], bytes)
	return b
}

// far is numbers that are no label and no place: such as wrap round to one
// that is, and the ends of int.
func far() []int {
	return []int{
		-2, -3, -57, -128, -247, -255, -256, -257, -65535, -65536, -1<<31 + 9, -1 << 32, -1<<32 - 1,
		200, 201, 255, 256, 257, 265, 65535, 65536, 65537, 65545, 1<<31 - 1, 1 << 31, 1<<32 - 1, 1 << 32, 1<<32 + 9,
		math.MaxInt, math.MaxInt - 1, math.MinInt, math.MinInt + 9,
	}
}

// gens is generations of all sorts: each bit by itself, and the ends.
func gens() []uint32 {
	l := []uint32{0, 3, 255, 257, 0x01020304, 0xfffefdfc, math.MaxInt32, math.MaxUint32 - 1, math.MaxUint32}
	for bit := range 32 {
		l = append(l, 1<<bit)
	}
	return l
}

func TestKnownOnes(t *testing.T) {
	mustBe(t, of(-1, 0, 0, "a", 1, 1), toBlock(entryKind, "\xff\x00\x00\x00\x00\x00\x00\x00\x01\x00\x00\x00\x01\x01a"))
	mustBe(t, of(7, 199, math.MaxUint32, "~!", 199, math.MaxUint32), toBlock(entryKind, "\x07\x00\xc7\xff\xff\xff\xff\x00\xc7\xff\xff\xff\xff\x02~!"))
	mustBe(t, of(0, 1, 0x01020304, "...", 128, 0x05060708), toBlock(entryKind, "\x00\x00\x01\x01\x02\x03\x04\x00\x80\x05\x06\x07\x08\x03..."))
	mustBe(t, of(3, 2, 256, "abcdefghijklmn", 2, 65536), toBlock(entryKind, "\x03\x00\x02\x00\x00\x01\x00\x00\x02\x00\x01\x00\x00\x0eabcdefghijklmn"))
}

func TestKnownNames(t *testing.T) {
	for _, s := range []string{"a", "!", "~", "-", "...", "....", ".a", "a.", "..a", ".~", "a..b", "\\", "0123456789abcd", strings.Repeat(".", maxName)} {
		if !entry.MayName(s) {
			t.Errorf("MayName(%q): no", s)
		}
	}
	for _, s := range []string{"", ".", "..", "/", "a/b", "/a", "a/", "./", "../", "//", " ", "a b", " a", "a ", "\x7f", "\x00", "a\x00", "\t", "\n", "\xff", "\u00e9", "\u4e16", "0123456789abcde", strings.Repeat(".", maxName+1)} {
		if entry.MayName(s) {
			t.Errorf("MayName(%q): yes", s)
		}
		mustRefuse(t, named(s))
	}
}

func TestBytesOfAName(t *testing.T) {
	for x := range 256 {
		one := string([]byte{byte(x)})
		askName(t, one)
		for i := range maxName {
			askName(t, strings.Repeat("a", i)+one)
			askName(t, one+strings.Repeat("~", i))
			askName(t, strings.Repeat("a", i)+one+strings.Repeat("b", maxName-1-i))
		}
		for y := range 256 {
			askName(t, string([]byte{byte(x), byte(y)}))
		}
	}
}

func TestLengthsOfAName(t *testing.T) {
	for n := range 600 {
		for _, x := range []string{"q", ".", "/", "\x00"} {
			askName(t, strings.Repeat(x, n))
		}
	}
	for _, n := range []int{1 << 16, 1<<16 + 1, 1<<20 + maxName} {
		askName(t, strings.Repeat("q", n))
	}
}

func TestTheNoughts(t *testing.T) {
	mustRefuse(t, api.Name{})
	for kind := -2; kind < 300; kind++ {
		mustNotTake(t, toBlock(kind, ""))
		mustNotTake(t, toBlock(kind, strings.Repeat("\xff", body)))
	}
}

func TestEachPartIsAsked(t *testing.T) {
	fine := of(3, 5, 7, "ab", 9, 4)
	mustBe(t, fine, put(fine))
	for i, turn := range []func(n *api.Name){
		func(n *api.Name) { n.Dir = api.ID{} },
		func(n *api.Name) { n.Dir.Label = -1 },
		func(n *api.Name) { n.Dir.Label = -2 },
		func(n *api.Name) { n.Dir.Label = 8 },
		func(n *api.Name) { n.Dir.Label = 255 },
		func(n *api.Name) { n.Dir.At = 0 },
		func(n *api.Name) { n.Dir.At = -1 },
		func(n *api.Name) { n.Dir.At = 200 },
		func(n *api.Name) { n.Dir.Gen = 0 },
		func(n *api.Name) { n.Name = "" },
		func(n *api.Name) { n.Name = "." },
		func(n *api.Name) { n.Name = ".." },
		func(n *api.Name) { n.Name = "a/b" },
		func(n *api.Name) { n.Name = "a b" },
		func(n *api.Name) { n.Name = "0123456789abcde" },
		func(n *api.Name) { n.At = 0 },
		func(n *api.Name) { n.At = -1 },
		func(n *api.Name) { n.At = 200 },
		func(n *api.Name) { n.Gen = 0 },
		func(n *api.Name) { n.Dir, n.Dir.At = root(), 1 },
		func(n *api.Name) { n.Dir, n.Dir.Gen = root(), 1 },
	} {
		n := fine
		turn(&n)
		if may(n) {
			t.Errorf("%d: %v may be", i, n)
		}
		mustRefuse(t, n)
	}
}

func TestFoldersInAndAroundTheLimits(t *testing.T) {
	for label := -3; label <= 10; label++ {
		for at := -3; at <= 203; at++ {
			for _, gen := range gens() {
				ask(t, of(label, at, gen, "ab", 9, 4))
			}
		}
	}
	for _, x := range far() {
		for _, gen := range []uint32{0, 1} {
			ask(t, of(x, 5, gen, "ab", 9, 4))
			ask(t, of(x, 0, gen, "ab", 9, 4))
			ask(t, of(3, x, gen, "ab", 9, 4))
			ask(t, of(-1, x, gen, "ab", 9, 4))
		}
	}
}

func TestWhomItNamesInAndAroundTheLimits(t *testing.T) {
	for at := -300; at <= 600; at++ {
		for _, gen := range gens() {
			ask(t, of(-1, 0, 0, "ab", at, gen))
			ask(t, of(7, 199, 1, "abcdefghijklmn", at, gen))
		}
	}
	for _, x := range far() {
		mustRefuse(t, of(-1, 0, 0, "ab", x, 1))
	}
}

// TestTheFolderIsNotWhomItNames: the numbers of one decide nothing about the
// other.
func TestTheFolderIsNotWhomItNames(t *testing.T) {
	for _, at := range []int{0, 1, 199, 200} {
		for _, whom := range []int{0, 1, 199, 200} {
			for _, gen := range []uint32{0, 1, math.MaxUint32} {
				for _, made := range []uint32{0, 1, math.MaxUint32} {
					ask(t, of(3, at, gen, "ab", whom, made))
					ask(t, of(-1, at, gen, "ab", whom, made))
				}
			}
		}
	}
}

func TestThereIsOneKind(t *testing.T) {
	b := put(named("ab"))
	for _, kind := range append(far(), -1, 0, 1, 2, 3, 4, 5, 7, 8, 6+256, 6+65536, 6+1<<32, 6-256, -6) {
		b.Kind = kind
		mustNotTake(t, b)
	}
}

// TestWhatMayNotBeIsNotTaken: bytes as they would be, were there no limits.
func TestWhatMayNotBeIsNotTaken(t *testing.T) {
	for _, n := range []api.Name{
		named(""), named("."), named(".."), named("/"), named("a/b"), named("a b"), named("\x7f"), named("\xff"), named("a\x00"),
		named("0123456789abcde"), named(strings.Repeat("a", body-14)),
		of(0, 0, 0, "ab", 9, 4), of(8, 1, 1, "ab", 9, 4), of(254, 1, 1, "ab", 9, 4), of(3, 0, 1, "ab", 9, 4), of(3, 200, 1, "ab", 9, 4), of(3, 256, 1, "ab", 9, 4),
		of(3, 257, 1, "ab", 9, 4), of(3, 1, 0, "ab", 9, 4), of(-1, 1, 0, "ab", 9, 4), of(-1, 0, 1, "ab", 9, 4), of(-1, 1, 1, "ab", 9, 4),
		of(-1, 0, 0, "ab", 0, 4), of(-1, 0, 0, "ab", 200, 4), of(-1, 0, 0, "ab", 256, 4), of(-1, 0, 0, "ab", 265, 4), of(-1, 0, 0, "ab", 9, 0),
	} {
		mustRefuse(t, n)
		mustNotTake(t, put(n))
	}
}

// TestTheLengthIsThatOfTheName: a length that is not the name's, and one that
// leads behind the block.
func TestTheLengthIsThatOfTheName(t *testing.T) {
	for _, s := range []string{"a", "ab", "abc", "0123456789abcd"} {
		b := put(named(s))
		for length := range 256 {
			b.Body[13] = byte(length)
			if length == len(s) {
				mustBe(t, named(s), b)
			} else {
				mustNotTake(t, b)
			}
		}
	}
}

// TestAPartOfADotName: a name that may be, whose length would leave one that
// may not.
func TestAPartOfADotName(t *testing.T) {
	b := put(named("..."))
	for _, length := range []byte{0, 1, 2, 4, 14, 15, 42, 43, 255} {
		b.Body[13] = length
		mustNotTake(t, b)
	}
}

func TestBehindANameAreNoughts(t *testing.T) {
	for _, s := range []string{"a", "ab", "0123456789abcd"} {
		for i := 14 + len(s); i < body; i++ {
			for by := 1; by < 256; by++ {
				b := put(named(s))
				b.Body[i] = byte(by)
				mustNotTake(t, b)
			}
		}
	}
}

// TestTurnedBytes: what one byte was turned in is another name, or none.
func TestTurnedBytes(t *testing.T) {
	for _, n := range []api.Name{named("a"), named("..."), of(5, 100, 0x01020304, "ab", 199, 0x05060708), of(0, 1, 1, "0123456789abcd", 1, 1)} {
		b := put(n)
		for i := range b.Body {
			for by := 1; by < 256; by++ {
				turned := b
				turned.Body[i] ^= byte(by)
				askBlock(t, turned)
				if got, ok := entry.Take(turned); ok && got == n {
					t.Errorf("Take(%v) is %v still", turned, got)
				}
			}
		}
	}
}

// askBlock holds Take against the name that the bytes tell by the words of
// the promise.
func askBlock(t *testing.T, b api.Block) {
	t.Helper()
	number := func(from, to int) int {
		x := 0
		for _, y := range b.Body[from:to] {
			x = x*256 + int(y)
		}
		return x
	}
	label := int(b.Body[0])
	if label == 255 {
		label = -1
	}
	n := of(label, number(1, 3), uint32(number(3, 7)), string(b.Body[14:min(body, 14+int(b.Body[13]))]), number(7, 9), uint32(number(9, 13)))
	if !may(n) || put(n) != b {
		mustNotTake(t, b)
		return
	}
	mustBe(t, n, b)
}

func TestAPlaceHasTwoBytes(t *testing.T) {
	for high := 1; high < 256; high++ {
		for _, low := range []byte{0, 1, 9, 199, 255} {
			for _, i := range []int{1, 7} {
				b := put(of(3, 5, 7, "ab", 9, 4))
				b.Body[i], b.Body[i+1] = byte(high), low
				mustNotTake(t, b)
			}
		}
	}
}

// TestLikeNamesAreApart: of two names that are not the same, neither are the
// blocks.
func TestLikeNamesAreApart(t *testing.T) {
	seen := map[api.Block]api.Name{}
	for _, dir := range []api.ID{root(), {Label: 0, At: 1, Gen: 1}, {Label: 1, At: 1, Gen: 1}, {Label: 0, At: 2, Gen: 1}, {Label: 0, At: 1, Gen: 256}} {
		for _, s := range []string{"a", "b", "aa", "A", "a.", ".a"} {
			for _, at := range []int{1, 2, 199} {
				for _, gen := range []uint32{1, 2, 256, 65536, 1 << 24} {
					n := api.Name{Dir: dir, Name: s, At: at, Gen: gen}
					b, _ := entry.Put(n)
					if other, ok := seen[b]; ok {
						t.Errorf("%v and %v are one block", n, other)
					}
					seen[b] = n
				}
			}
		}
	}
}

func TestTheSameIsToldEachTime(t *testing.T) {
	n := of(3, 5, 7, "ab", 9, 4)
	one, _ := entry.Put(n)
	got, _ := entry.Take(one)
	clear(one.Body[:])
	other, ok := entry.Put(n)
	if !ok || got != n || other != put(n) {
		t.Errorf("%v, %v, %v", got, other, ok)
	}
}
