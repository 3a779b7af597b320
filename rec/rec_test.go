package rec_test

import (
	"bytes"
	"encoding/binary"
	"hash/adler32"
	"math"
	"slices"
	"testing"

	"clathri/api"
	"clathri/rec"
)

// some is a row of numbers of all sorts.
type some uint32

func (s *some) next() uint32 {
	*s = *s*1664525 + 1013904223
	return uint32(*s >> 8)
}

// write is a write there, of that kind, its body of all sorts of bytes.
func write(at, kind int, seed uint32) api.Write {
	s := some(seed)
	w := api.Write{At: at, B: api.Block{Kind: kind}}
	for i := range w.B.Body {
		w.B.Body[i] = byte(s.next())
	}
	return w
}

// writes is n writes at places and of kinds of all sorts, no place twice.
func writes(n int, seed uint32) []api.Write {
	s := some(seed)
	first := int(s.next() % 200)
	var l []api.Write
	for i := range n {
		l = append(l, write((first+7*i)%200, int(s.next()%8), s.next()))
	}
	return l
}

// row is n writes from place 0 on; beyond place 199 it begins anew.
func row(n int) []api.Write {
	var l []api.Write
	for i := range n {
		l = append(l, write(i%200, i%8, uint32(i)))
	}
	return l
}

// summed is those bytes, noughts behind them to 60, and their sum.
func summed(front string) []byte {
	c := append([]byte(front), make([]byte, 60-len(front))...)
	return binary.BigEndian.AppendUint32(c, adler32.Checksum(c))
}

// resum makes the sum of a block anew.
func resum(c []byte) {
	binary.BigEndian.PutUint32(c[60:], adler32.Checksum(c[:60]))
}

func two(n uint32) string {
	return string([]byte{byte(n >> 8), byte(n)})
}

func four(n uint32) string {
	return two(n>>16) + two(n)
}

// plain is a record by the words of the promise; of writes that may not be it
// is what a Put that does not ask for limits would make of them, as far as
// there is room.
func plain(label byte, epoch, seq uint32, l []api.Write) [][]byte {
	front := "H" + string([]byte{label}) + four(epoch) + four(seq) + string([]byte{byte(len(l))})
	for _, w := range l {
		front += two(uint32(w.At)) + string([]byte{byte(w.B.Kind)})
	}
	log := [][]byte{summed(front[:min(len(front), 60)])}
	for _, w := range l {
		log = append(log, summed(string(w.B.Body[:])+two(epoch)+two(seq)))
	}
	return log
}

func equal(a, b [][]byte) bool {
	return slices.EqualFunc(a, b, bytes.Equal)
}

func cloned(log [][]byte) [][]byte {
	var l [][]byte
	for _, b := range log {
		l = append(l, bytes.Clone(b))
	}
	return l
}

// put is the Put, which must be told.
func put(t *testing.T, label byte, epoch, seq uint32, l []api.Write) [][]byte {
	t.Helper()
	log, ok := rec.Put(label, epoch, seq, l)
	if !ok {
		t.Fatalf("Put(%d, %d, %d) of %d writes: no", label, epoch, seq, len(l))
	}
	return log
}

func mustNotPut(t *testing.T, l []api.Write) {
	t.Helper()
	if log, ok := rec.Put(1, 2, 3, l); ok || len(log) != 0 {
		t.Errorf("Put of %d writes: %x, %v", len(l), log, ok)
	}
}

func mustTake(t *testing.T, label byte, epoch, seq uint32, log [][]byte, want []api.Write) {
	t.Helper()
	l, n, ok := rec.Take(label, epoch, seq, log)
	if !ok || n != 1+len(want) || !slices.Equal(l, want) {
		t.Fatalf("Take(%d, %d, %d): %v, %d, %v", label, epoch, seq, l, n, ok)
	}
}

func mustNotTake(t *testing.T, label byte, epoch, seq uint32, log [][]byte) {
	t.Helper()
	if l, n, ok := rec.Take(label, epoch, seq, log); ok || n != 0 || len(l) != 0 {
		t.Fatalf("Take(%d, %d, %d) of %x: %v, %d, %v", label, epoch, seq, log, l, n, ok)
	}
}

// numbers is epochs and numbers of records: edges, and such as are alike in
// their first or last 16 bits.
func numbers() []uint32 {
	return []uint32{
		0, 1, 2, 255, 256, 0xffff, 0x10000, 0x10001, 0x12345678, 0x12340000, 0x5678, 0x56781234, 0x78563412,
		1<<31 - 1, 1 << 31, 1<<32 - 2, 1<<32 - 1,
	}
}

// noKinds is kinds that there are not, such as a byte would wrap round to one
// that there is among them, and the ends of int.
func noKinds() []int {
	return []int{
		-1, -2, -248, -255, -256, -1 << 32, math.MinInt, math.MinInt + 1,
		8, 9, 127, 128, 255, 256, 256 + 4, 1 << 16, 1 << 32, 1<<32 + 7, math.MaxInt - 1, math.MaxInt,
	}
}

// noPlaces is the same of places: two bytes would wrap round to one.
func noPlaces() []int {
	return []int{
		-1, -2, -56, -200, -255, -256, -65536, -65536 + 199, -1 << 32, math.MinInt, math.MinInt + 1,
		200, 201, 255, 256, 256 + 5, 65535, 65536, 65536 + 5, 1<<31 - 1, 1 << 32, 1<<32 + 199, math.MaxInt - 1, math.MaxInt,
	}
}

func TestPutOfKnownOnes(t *testing.T) {
	var noughts, full api.Write
	full = api.Write{At: 199, B: api.Block{Kind: 7}}
	for i := range full.B.Body {
		full.B.Body[i] = 255
	}
	log := put(t, 0, 0, 0, []api.Write{noughts})
	for i, want := range []string{
		"H" + string(make([]byte, 9)) + "\x01" + string(make([]byte, 49)) + "\x11\x4e\x00\x4a",
		string(make([]byte, 60)) + "\x00\x3c\x00\x01",
	} {
		if len(log) != 2 || string(log[i]) != want {
			t.Errorf("of noughts: %x", log)
		}
	}
	log = put(t, 0x3f, 1<<32-1, 0x01020304, []api.Write{full, noughts})
	for i, want := range []string{
		"H\x3f\xff\xff\xff\xff\x01\x02\x03\x04\x02\x00\xc7\x07\x00\x00\x00" + string(make([]byte, 43)),
		string(full.B.Body[:]) + "\xff\xff\x03\x04",
		string(make([]byte, 56)) + "\xff\xff\x03\x04",
	} {
		if len(log) != 3 || !bytes.Equal(log[i], summed(want)) {
			t.Errorf("%x", log)
		}
	}
}

// TestOfOneWrite: two blocks.
func TestOfOneWrite(t *testing.T) {
	l := writes(1, 1)
	log := put(t, 1, 2, 3, l)
	if len(log) != 2 {
		t.Errorf("%d blocks", len(log))
	}
	mustTake(t, 1, 2, 3, log, l)
}

// TestHowMany: each number of writes that may be, and some that may not,
// among them such as a byte would wrap round to one that may.
func TestHowMany(t *testing.T) {
	for n := 1; n <= 12; n++ {
		l := row(n)
		log := put(t, 9, 8, 7, l)
		if len(log) != n+1 || !equal(log, plain(9, 8, 7, l)) {
			t.Errorf("%d writes: %x", n, log)
		}
		for _, b := range log {
			if len(b) != 64 {
				t.Errorf("%d writes: a block of %d bytes", n, len(b))
			}
		}
		mustTake(t, 9, 8, 7, log, l)
	}
	mustNotPut(t, nil)
	mustNotPut(t, []api.Write{})
	mustNotPut(t, row(12)[:0])
	for _, n := range []int{13, 14, 16, 17, 100, 200, 255, 256, 257, 256 + 12, 65536, 65537} {
		mustNotPut(t, row(n))
	}
}

// TestEachLabelAndNumber: a label is any byte, be there such a label or not,
// an epoch and a number any number.
func TestEachLabelAndNumber(t *testing.T) {
	for i, epoch := range numbers() {
		for k, seq := range numbers() {
			mustPutAndTake(t, byte(i*17+k), epoch, seq)
		}
	}
	s := some(3)
	for label := range 256 {
		mustPutAndTake(t, byte(label), 2, 3)
		mustPutAndTake(t, byte(label), 1<<32-1, 1<<32-1)
		mustPutAndTake(t, byte(label), s.next()<<8, s.next())
	}
}

func mustPutAndTake(t *testing.T, label byte, epoch, seq uint32) {
	t.Helper()
	l := writes(1+int(label)%3, epoch+seq)
	log := put(t, label, epoch, seq, l)
	if !equal(log, plain(label, epoch, seq, l)) {
		t.Fatalf("Put(%d, %d, %d): %x", label, epoch, seq, log)
	}
	mustTake(t, label, epoch, seq, log, l)
}

// TestEachPlaceAndKind, at each place of the list.
func TestEachPlaceAndKind(t *testing.T) {
	for at := range 200 {
		for kind := range 8 {
			for i := range 12 {
				l := writes(12, uint32(at))
				for k := range l {
					l[k].At = (at + k - i + 200) % 200
				}
				l[i].B.Kind = kind
				log := put(t, 1, 2, 3, l)
				if l[i].At != at || !equal(log, plain(1, 2, 3, l)) {
					t.Fatalf("kind %d at %d: %x", kind, at, log)
				}
				mustTake(t, 1, 2, 3, log, l)
			}
		}
	}
}

func TestKindsAndPlacesThatMayNotBe(t *testing.T) {
	for n := 1; n <= 12; n++ {
		for i := range n {
			for _, kind := range noKinds() {
				l := row(n)
				l[i].B.Kind = kind
				mustNotPut(t, l)
			}
			for _, at := range noPlaces() {
				l := row(n)
				l[i].At = at
				mustNotPut(t, l)
				l[i].B.Kind = 8
				mustNotPut(t, l)
			}
		}
	}
}

// TestPlacesThatAreThereTwice, be the writes alike or not.
func TestPlacesThatAreThereTwice(t *testing.T) {
	for n := 2; n <= 12; n++ {
		for i := range n {
			for k := range i {
				for _, at := range []int{0, 1, 100, 199} {
					l := row(n)
					for j := range l {
						l[j].At = 50 + j
					}
					l[i].At, l[k].At = at, at
					mustNotPut(t, l)
					l[i] = l[k]
					mustNotPut(t, l)
				}
			}
		}
	}
}

// TestWhatIsBehind: a log may go on behind a record with whatever it likes.
func TestWhatIsBehind(t *testing.T) {
	for n := 1; n <= 12; n++ {
		l := writes(n, uint32(n))
		log := put(t, 1, 2, 3, l)
		for _, more := range [][][]byte{
			{nil}, {{}}, {make([]byte, 64)}, {make([]byte, 63)}, {make([]byte, 65)}, log, put(t, 1, 2, 4, row(12)),
			{log[0]}, {log[1]}, make([][]byte, 100),
		} {
			mustTake(t, 1, 2, 3, slices.Concat(log, more), l)
		}
	}
}

// TestOneBehindTheOther: of some records each is taken where it begins, and
// nothing where none begins.
func TestOneBehindTheOther(t *testing.T) {
	var log [][]byte
	var lists [][]api.Write
	for seq := range uint32(10) {
		l := writes(1+int(seq*5%12), seq)
		lists = append(lists, l)
		log = append(log, put(t, 1, 2, seq, l)...)
	}
	at := 0
	for seq, l := range lists {
		for other := range uint32(11) {
			if int(other) != seq {
				mustNotTake(t, 1, 2, other, log[at:])
			}
		}
		mustTake(t, 1, 2, uint32(seq), log[at:], l)
		for range l {
			at++
			mustNotTake(t, 1, 2, uint32(seq), log[at:])
			mustNotTake(t, 1, 2, uint32(seq)+1, log[at:])
		}
		at++
	}
	if at != len(log) {
		t.Errorf("%d of %d blocks", at, len(log))
	}
}

// TestOfItsOwnAlone takes records as those of other labels, epochs, numbers.
func TestOfItsOwnAlone(t *testing.T) {
	l := writes(2, 5)
	for _, epoch := range numbers() {
		for _, seq := range numbers() {
			log := put(t, 0x2a, epoch, seq, l)
			for _, other := range numbers() {
				if other != epoch {
					mustNotTake(t, 0x2a, other, seq, log)
				}
				if other != seq {
					mustNotTake(t, 0x2a, epoch, other, log)
				}
			}
			if epoch != seq {
				mustNotTake(t, 0x2a, seq, epoch, log)
			}
			for _, label := range []byte{0, 0x29, 0x2b, 0x6a, 0xaa, 0xff} {
				mustNotTake(t, label, epoch, seq, log)
			}
		}
	}
}

// TestBlocksOfAnother: blocks that bear the same writes, but for another
// epoch or number, are none of the record's; those that are alike in the last
// 16 bits of both are the same, as is what bears a write of another label.
func TestBlocksOfAnother(t *testing.T) {
	l := writes(3, 6)
	log := put(t, 1, 0x00010002, 0x00030004, l)
	for _, x := range []struct {
		label      byte
		epoch, seq uint32
		same       bool
	}{
		{1, 0x00010003, 0x00030004, false},
		{1, 0x00010002, 0x00030005, false},
		{1, 0x00010102, 0x00030004, false},
		{1, 0x00010002, 0x00030104, false},
		{1, 0x00030004, 0x00010002, false},
		{1, 0x00010004, 0x00030002, false},
		{1, 0x00000002, 0x00030004, true},
		{1, 0x00010002, 0xffff0004, true},
		{2, 0x00010002, 0x00030004, true},
	} {
		other := put(t, x.label, x.epoch, x.seq, l)
		for i := range log {
			mixed := slices.Clone(log)
			mixed[i] = other[i]
			if i > 0 && x.same {
				mustTake(t, 1, 0x00010002, 0x00030004, mixed, l)
			} else {
				mustNotTake(t, 1, 0x00010002, 0x00030004, mixed)
			}
		}
	}
}

// TestBlocksThatAreNotThere: a record of which a block is missing, empty, too
// short or too long is none, a torn one neither.
func TestBlocksThatAreNotThere(t *testing.T) {
	mustNotTake(t, 1, 2, 3, nil)
	mustNotTake(t, 1, 2, 3, [][]byte{})
	for n := 1; n <= 12; n++ {
		log := put(t, 1, 2, 3, writes(n, uint32(n)))
		for i := range log {
			mustNotTake(t, 1, 2, 3, log[:i])
			mustNotTake(t, 1, 2, 3, log[i+1:])
			mustNotTake(t, 1, 2, 3, slices.Delete(slices.Clone(log), i, i+1))
			for _, b := range [][]byte{
				nil, {}, log[i][:1], log[i][:10], log[i][:11], log[i][:47], log[i][:56], log[i][:60], log[i][:63],
				log[i][1:], append(bytes.Clone(log[i]), 0), slices.Concat(log[i], log[i]), make([]byte, 64),
			} {
				other := slices.Clone(log)
				other[i] = b
				mustNotTake(t, 1, 2, 3, other)
			}
		}
	}
}

// TestEveryLengthOfEachBlock, cut from a longer one or of noughts.
func TestEveryLengthOfEachBlock(t *testing.T) {
	l := writes(12, 4)
	log := put(t, 1, 2, 3, l)
	for i := range log {
		long := slices.Concat(log[i], log[i])
		for n := range long {
			other := slices.Clone(log)
			other[i] = long[:n]
			if n == 64 {
				mustTake(t, 1, 2, 3, other, l)
			} else {
				mustNotTake(t, 1, 2, 3, other)
			}
			other[i] = make([]byte, n)
			mustNotTake(t, 1, 2, 3, other)
		}
	}
}

// TestOrderOfBlocks: two blocks that change places, or one that is there
// again in the place of another one, are told, but for those that bear
// writes: which is which is told by where it is.
func TestOrderOfBlocks(t *testing.T) {
	l := writes(4, 7)
	log := put(t, 1, 2, 3, l)
	for i := range log {
		for k := range i {
			other, list := slices.Clone(log), slices.Clone(l)
			other[i], other[k] = other[k], other[i]
			again := slices.Clone(log)
			again[i] = again[k]
			if k == 0 {
				mustNotTake(t, 1, 2, 3, other)
				mustNotTake(t, 1, 2, 3, again)
				continue
			}
			list[i-1].B.Body, list[k-1].B.Body = list[k-1].B.Body, list[i-1].B.Body
			mustTake(t, 1, 2, 3, other, list)
			list = slices.Clone(l)
			list[i-1].B.Body = list[k-1].B.Body
			mustTake(t, 1, 2, 3, again, list)
		}
	}
}

// TestNoOtherByteIsTaken turns each byte of a record into each other one: the
// sums tell it.
func TestNoOtherByteIsTaken(t *testing.T) {
	for _, n := range []int{1, 5} {
		l := writes(n, 11)
		log := put(t, 0x2f, 0x12345678, 0x9abcdef0, l)
		for _, b := range log {
			for i, was := range b {
				for x := range 256 {
					b[i] = byte(x)
					if byte(x) == was {
						mustTake(t, 0x2f, 0x12345678, 0x9abcdef0, log, l)
					} else {
						mustNotTake(t, 0x2f, 0x12345678, 0x9abcdef0, log)
					}
				}
				b[i] = was
			}
		}
	}
}

// TestFirstBlocksThatAreRightlySummed turns each byte of the first block too,
// but makes the sum anew: what then is another record's is that, anything
// else is none.
func TestFirstBlocksThatAreRightlySummed(t *testing.T) {
	l := writes(5, 12)
	for i := range l {
		l[i].At = 30 * i
	}
	log := put(t, 1, 2, 3, l)
	b := log[0]
	for i := range 60 {
		was := b[i]
		for x := range 256 {
			b[i] = byte(x)
			resum(b)
			nth, part := (i-11)/3, (i-11)%3
			list := slices.Clone(l)
			taken := byte(x) == was
			switch {
			case i < 10 || i >= 11+15:
			case i == 10:
				// Of fewer, noughts are to be behind the last one.
			case part == 1:
				list[nth].At = x
				taken = x < 200 && !slices.ContainsFunc(l, func(w api.Write) bool { return w.At == x && w != l[nth] })
			case part == 2:
				list[nth].B.Kind = x
				taken = x < 8
			}
			if taken {
				mustTake(t, 1, 2, 3, log, list)
			} else {
				mustNotTake(t, 1, 2, 3, log)
			}
		}
		b[i] = was
	}
}

// TestOtherBlocksThatAreRightlySummed: the same of those that bear writes.
func TestOtherBlocksThatAreRightlySummed(t *testing.T) {
	l := writes(3, 13)
	log := put(t, 1, 0x10002, 0x30004, l)
	for k := 1; k < len(log); k++ {
		b := log[k]
		for i := range 60 {
			was := b[i]
			for x := range 256 {
				b[i] = byte(x)
				resum(b)
				list := slices.Clone(l)
				if i < 56 {
					list[k-1].B.Body[i] = byte(x)
				}
				if i < 56 || byte(x) == was {
					mustTake(t, 1, 0x10002, 0x30004, log, list)
				} else {
					mustNotTake(t, 1, 0x10002, 0x30004, log)
				}
			}
			b[i] = was
		}
		resum(b)
	}
}

// TestRecordsOfWhatMayNotBe: what a Put that does not ask for limits would
// make is not taken.
func TestRecordsOfWhatMayNotBe(t *testing.T) {
	mustNotTake(t, 1, 2, 3, plain(1, 2, 3, nil))
	mustNotTake(t, 1, 2, 3, slices.Concat(plain(1, 2, 3, nil), plain(1, 2, 3, row(1))))
	for n := 13; n < 300; n++ {
		mustNotTake(t, 1, 2, 3, plain(1, 2, 3, row(n)))
	}
	for n := 1; n <= 12; n++ {
		for i := range n {
			for _, kind := range noKinds() {
				l := row(n)
				l[i].B.Kind = kind
				if byte(kind) > 7 {
					mustNotTake(t, 1, 2, 3, plain(1, 2, 3, l))
				}
			}
			for _, at := range []int{200, 201, 255, 256, 256 + 5, 300, 0x8000, 65535} {
				l := row(n)
				l[i].At = at
				mustNotTake(t, 1, 2, 3, plain(1, 2, 3, l))
			}
			if i > 0 {
				l := row(n)
				l[i].At = l[i/2].At
				mustNotTake(t, 1, 2, 3, plain(1, 2, 3, l))
			}
		}
	}
}

// TestCountsThatAreNot: a first block that says another number of writes than
// it was made of, with the blocks for them there and noughts or no noughts
// behind.
func TestCountsThatAreNot(t *testing.T) {
	for n := 1; n <= 12; n++ {
		log := put(t, 1, 2, 3, row(n))
		for range 300 {
			log = append(log, log[1])
		}
		for count := range 256 {
			log[0][10] = byte(count)
			resum(log[0])
			if count != n {
				// Place 0 is in a row from the first on, so noughts behind
				// it are there twice.
				mustNotTake(t, 1, 2, 3, log)
			} else {
				mustTake(t, 1, 2, 3, log[:n+1], row(n))
			}
		}
	}
}

func TestLogsOfNoughtsAndSuch(t *testing.T) {
	for n := range 120 {
		for _, b := range [][]byte{
			nil, {}, make([]byte, 64), bytes.Repeat([]byte{255}, 64), bytes.Repeat([]byte("H"), 64),
			summed(""), summed("H"), summed("H\x01"), rec.Anchor(1, 2), rec.Anchor(0, 0),
		} {
			log := make([][]byte, n)
			for i := range log {
				log[i] = b
			}
			mustNotTake(t, 0, 0, 0, log)
			mustNotTake(t, 1, 2, 3, log)
		}
	}
}

// TestWhatIsTakenIsPutSo: of logs that were meddled with, those that are
// taken are just those that begin with what the taken writes are put as.
func TestWhatIsTakenIsPutSo(t *testing.T) {
	s := some(99)
	taken := 0
	for range 30000 {
		epoch, seq := s.next()%3, s.next()%3
		log := plain(1, epoch, seq, writes(int(s.next()%14), s.next()))
		for range s.next() % 3 {
			b := log[s.next()%uint32(len(log))]
			b[s.next()%60] = byte(s.next() % 16)
			resum(b)
		}
		l, n, ok := rec.Take(1, epoch, 1, log)
		if !ok {
			if n != 0 || len(l) != 0 {
				t.Fatalf("beside a no: %v, %d", l, n)
			}
			continue
		}
		taken++
		if again := put(t, 1, epoch, 1, l); n != len(again) || !equal(again, log[:n]) {
			t.Fatalf("taken %x, put %x", log[:n], again)
		}
	}
	if taken < 1000 {
		t.Errorf("only %d were taken", taken)
	}
}

func TestPutChangesAndKeepsNothing(t *testing.T) {
	whole := row(12)
	was := slices.Clone(whole)
	first, second := put(t, 1, 2, 3, whole[:5]), put(t, 1, 2, 3, whole[:5])
	if !slices.Equal(whole, was) {
		t.Error("the writes were changed")
	}
	mustNotPut(t, append(slices.Clone(whole), whole[0]))
	want := plain(1, 2, 3, was[:5])
	clear(whole)
	if !equal(first, want) || !equal(second, want) {
		t.Error("the blocks hang on the writes yet")
	}

	// What is done to one block, its spare room too, is not seen in another,
	// nor what is done to one list.
	for i := range first {
		b := first[i][:cap(first[i])]
		clear(b)
		for k := range first {
			if k > i && !bytes.Equal(first[k], want[k]) {
				t.Errorf("blocks %d and %d share memory", i, k)
			}
		}
	}
	clear(first[:cap(first)])
	if !equal(second, want) || !equal(put(t, 1, 2, 3, was[:5]), want) {
		t.Error("two records share memory")
	}
}

func TestTakeChangesAndKeepsNothing(t *testing.T) {
	l := row(4)
	log := put(t, 1, 2, 3, l)
	for i := range log {
		log[i] = append(log[i], "spare"...)[:64]
	}
	log = append(log, []byte("behind it"), nil)
	was := cloned(log)
	first, n, ok := rec.Take(1, 2, 3, log)
	mustTake(t, 1, 2, 3, log, l)
	mustNotTake(t, 1, 2, 4, log)
	mustNotTake(t, 1, 2, 3, log[1:])
	if !ok || n != 5 || !equal(log, was) || string(log[2][:69][64:]) != "spare" {
		t.Errorf("%d, %v, of %x", n, ok, log)
	}
	second, _, _ := rec.Take(1, 2, 3, log)
	for _, b := range log {
		clear(b[:cap(b)])
	}
	if !slices.Equal(first, l) {
		t.Error("the writes hang on the log yet")
	}
	clear(first[:cap(first)])
	if !slices.Equal(second, l) {
		t.Error("two lists of writes share memory")
	}
}

// TestOneBlockInTwoPlaces: that two blocks of a log share their memory makes
// nothing other.
func TestOneBlockInTwoPlaces(t *testing.T) {
	l := []api.Write{write(1, 4, 8), write(2, 5, 8)}
	log := put(t, 1, 2, 3, l)
	mustTake(t, 1, 2, 3, [][]byte{log[0], log[1], log[1]}, l)
}

func TestKnownAnchors(t *testing.T) {
	for _, x := range []struct {
		label byte
		epoch uint32
		front string
		tail  string
	}{
		{0, 0, "AN\x00\x00\x00\x00\x00", "\x21\x72\x00\x90"},
		{0, 1, "AN\x00\x00\x00\x00\x01", "\x21\xa8\x00\x91"},
		{0x3f, 0x01020304, "AN\x3f\x01\x02\x03\x04", "\x31\xde\x00\xd9"},
		{0xff, 1<<32 - 2, "AN\xff\xff\xff\xff\xfe", "\x38\x33\x05\x8a"},
	} {
		want := x.front + string(make([]byte, 53)) + x.tail
		if b := rec.Anchor(x.label, x.epoch); string(b) != want {
			t.Errorf("Anchor(%d, %d): %x, not %x", x.label, x.epoch, b, want)
		}
		mustTakeAnchor(t, x.label, []byte(want), x.epoch)
	}
}

func mustTakeAnchor(t *testing.T, label byte, b []byte, want uint32) {
	t.Helper()
	if epoch, ok := rec.TakeAnchor(label, b); !ok || epoch != want {
		t.Fatalf("TakeAnchor(%d, %x): %d, %v", label, b, epoch, ok)
	}
}

func mustNotTakeAnchor(t *testing.T, label byte, b []byte) {
	t.Helper()
	if epoch, ok := rec.TakeAnchor(label, b); ok || epoch != 0 {
		t.Errorf("TakeAnchor(%d, %x): %d, %v", label, b, epoch, ok)
	}
}

func plainAnchor(label byte, epoch uint32) []byte {
	return summed("AN" + string([]byte{label}) + four(epoch))
}

// TestEachAnchor: of each label and of epochs of all sorts; the last epoch has
// an anchor too, but one that is not taken.
func TestEachAnchor(t *testing.T) {
	s := some(5)
	for label := range 256 {
		for _, epoch := range append(numbers(), s.next(), s.next()<<8, 1<<32-3) {
			b := rec.Anchor(byte(label), epoch)
			if len(b) != 64 || !bytes.Equal(b, plainAnchor(byte(label), epoch)) {
				t.Fatalf("Anchor(%d, %d): %x", label, epoch, b)
			}
			if epoch == 1<<32-1 {
				mustNotTakeAnchor(t, byte(label), b)
			} else {
				mustTakeAnchor(t, byte(label), b, epoch)
			}
			for _, other := range []byte{0, 1, byte(label - 1), byte(label + 1), byte(label ^ 64), 255} {
				if other != byte(label) {
					mustNotTakeAnchor(t, other, b)
				}
			}
		}
	}
}

func TestNoOtherByteOfAnAnchorIsTaken(t *testing.T) {
	b := rec.Anchor(0x2f, 0x12345678)
	for i, was := range b {
		for x := range 256 {
			b[i] = byte(x)
			if byte(x) == was {
				mustTakeAnchor(t, 0x2f, b, 0x12345678)
			} else {
				mustNotTakeAnchor(t, 0x2f, b)
			}
		}
		b[i] = was
	}
}

// TestAnchorsThatAreRightlySummed turns each byte too, but makes the sum anew.
func TestAnchorsThatAreRightlySummed(t *testing.T) {
	b := rec.Anchor(0x2f, 0x12345678)
	for i := range 60 {
		was := b[i]
		for x := range 256 {
			b[i] = byte(x)
			resum(b)
			if byte(x) == was || i >= 3 && i < 7 {
				mustTakeAnchor(t, 0x2f, b, binary.BigEndian.Uint32(b[3:]))
			} else {
				mustNotTakeAnchor(t, 0x2f, b)
			}
		}
		b[i] = was
	}
}

func TestAnchorsOfOtherLengths(t *testing.T) {
	b := rec.Anchor(3, 9)
	long := slices.Concat(b, b)
	for n := range long {
		if n == 64 {
			mustTakeAnchor(t, 3, long[:n], 9)
		} else {
			mustNotTakeAnchor(t, 3, long[:n])
		}
		mustNotTakeAnchor(t, 3, make([]byte, n))
		mustNotTakeAnchor(t, 3, bytes.Repeat([]byte{255}, n))
	}
	mustNotTakeAnchor(t, 3, nil)
	mustNotTakeAnchor(t, 3, long[1:65])

	// The sum is the last four bytes of these too.
	for _, n := range []int{0, 7, 59, 61} {
		c := bytes.Clone(long[:n])
		mustNotTakeAnchor(t, 3, binary.BigEndian.AppendUint32(c, adler32.Checksum(c)))
	}
}

// TestNeitherIsTheOther: a record's block is no anchor, and an anchor no
// record's.
func TestNeitherIsTheOther(t *testing.T) {
	for _, b := range put(t, 1, 2, 3, writes(3, 3)) {
		mustNotTakeAnchor(t, 1, b)
	}
	a := rec.Anchor(1, 2)
	mustNotTake(t, 1, 2, 3, [][]byte{a, a, a})
}

func TestAnchorsChangeAndKeepNothing(t *testing.T) {
	first, second := rec.Anchor(1, 2), rec.Anchor(1, 2)
	clear(first[:cap(first)])
	if want := plainAnchor(1, 2); !bytes.Equal(second, want) || !bytes.Equal(rec.Anchor(1, 2), want) {
		t.Error("two anchors share memory")
	}
	whole := append(second, "spare"...)
	was := bytes.Clone(whole)
	mustTakeAnchor(t, 1, whole[:64], 2)
	mustNotTakeAnchor(t, 2, whole[:64])
	mustNotTakeAnchor(t, 1, whole[:63])
	if !bytes.Equal(whole, was) {
		t.Errorf("%x", whole)
	}
}
