package journal

import (
	"bytes"
	"crypto/sha256"
	"encoding/binary"
	"encoding/hex"
	"fmt"
	"math"
	"slices"
	"sort"
	"strings"
	"testing"

	"blazon/api"
	"blazon/disk"
)

// numberByWords is a number's eight bytes.
func numberByWords(n uint64) []byte {
	return binary.BigEndian.AppendUint64(nil, n)
}

// paddedByWords is bytes with noughts behind, up to whole sectors.
func paddedByWords(b []byte) []byte {
	for len(b)%64 != 0 {
		b = append(b, 0)
	}
	return b
}

// headByWords is 14.1 by the library's digests.
func headByWords(gen uint64) []byte {
	b := append([]byte("H"), numberByWords(gen)...)
	d := sha256.Sum256(b)
	return paddedByWords(append(b, d[:]...))
}

// textByWords is 14.2.
func textByWords(gen, seq uint64, b []byte) []byte {
	return slices.Concat([]byte("J"), numberByWords(gen), numberByWords(seq), b)
}

// recordByWords is 14.2 by the library's digests.
func recordByWords(gen, seq uint64, b []byte) []byte {
	return recordOf(gen, seq, sha256.Sum256(textByWords(gen, seq, b)), uint64(len(b)), b)
}

// recordOf is a record's parts, whether or not they are right.
func recordOf(gen, seq uint64, d [32]byte, count uint64, b []byte) []byte {
	return paddedByWords(slices.Concat([]byte("J"), numberByWords(gen), numberByWords(seq), d[:], numberByWords(count), b))
}

// told is what the chapter's words tell of a disk's bytes: rest is what stands behind the records of the half that counts.
type told struct {
	half    int
	gen     uint64
	records []string
	rest    []byte
}

// readByWords is 14.3, as slow and plain as can be.
func readByWords(b []byte) (w told) {
	n := len(b) / 64 / 2
	for half := range 2 {
		head := b[64*half*n : 64*half*n+64]
		gen := binary.BigEndian.Uint64(head[1:9])
		if gen > w.gen && bytes.Equal(head, headByWords(gen)) {
			w.half, w.gen = half, gen
		}
	}
	if w.gen == 0 {
		return w
	}
	w.rest = b[64*(w.half*n+1) : 64*(w.half+1)*n]
	for size := 1; 57+size <= len(w.rest); size++ {
		x := w.rest[57 : 57+size]
		if !bytes.Equal(w.rest[49:57], numberByWords(uint64(size))) {
			continue
		}
		if r := recordByWords(w.gen, uint64(len(w.records)), x); bytes.HasPrefix(w.rest, r) {
			w.records, w.rest, size = append(w.records, string(x)), w.rest[len(r):], 0
		}
	}
	return w
}

// sectorsByWords is how many sectors a record of so many bytes has.
func sectorsByWords(size int) int {
	return int(math.Ceil(float64(57+size) / 64))
}

// roomByWords is 14.5's Room of a disk of n sectors with those records.
func roomByWords(n int, l []string) int {
	left := n/2 - 1
	for _, s := range l {
		left -= sectorsByWords(len(s))
	}
	return sort.Search(1<<20, func(size int) bool { return sectorsByWords(size+1) > left })
}

// written is Head and records, one behind the other.
func written(gen uint64, l ...string) []byte {
	b := headByWords(gen)
	for seq, s := range l {
		b = append(b, recordByWords(gen, uint64(seq), []byte(s))...)
	}
	return b
}

// layout is the bytes of a disk of n sectors, both halves of which begin with those bytes, noughts behind them.
func layout(n int, first, second []byte) []byte {
	b := make([]byte, 64*n)
	if half := 64 * (n / 2); len(first) > half || len(second) > half {
		panic("there is no room for it")
	}
	copy(b, first)
	copy(b[64*(n/2):], second)
	return b
}

// trash is so many sectors of bytes that are nothing.
func trash(n int) []byte {
	return bytes.Repeat([]byte{0xa5}, 64*n)
}

// texts is records as bytes.
func texts(l ...string) (t [][]byte) {
	for _, s := range l {
		t = append(t, []byte(s))
	}
	return t
}

// plain is records as strings.
func plain(l [][]byte) (s []string) {
	for _, b := range l {
		s = append(s, string(b))
	}
	return s
}

// long is a text of so many bytes, none of them 0.
func long(size int) string {
	b := make([]byte, size)
	for i := range b {
		b[i] = byte(i%251) + 1
	}
	return string(b)
}

// mustRead is of bytes that must be read as that, by the chapter's words, too; they stay as they were.
func mustRead(t *testing.T, b []byte, gen uint64, l ...string) {
	t.Helper()
	was := bytes.Clone(b)
	for range 2 {
		g, got, e := Read(b)
		if e != api.OK || g != gen || !slices.Equal(plain(got), l) {
			t.Errorf("Read: %d, %q, %v, want %d, %q", g, got, e, gen, l)
		}
	}
	if !bytes.Equal(b, was) {
		t.Error("Read: what was handed in is another thing")
	}
	if w := readByWords(b); w.gen != gen || !slices.Equal(w.records, l) {
		t.Errorf("by words: %d, %q, want %d, %q", w.gen, w.records, gen, l)
	}
}

// mustNotRead is of bytes that are refused: nothing is told beside the error.
func mustNotRead(t *testing.T, b []byte) {
	t.Helper()
	if gen, l, e := Read(b); gen != 0 || len(l) != 0 || e != api.ErrArg {
		t.Errorf("Read of %d bytes: %d, %q, %v", len(b), gen, l, e)
	}
}

// mustLoad is a disk of bytes.
func mustLoad(t *testing.T, b []byte) *disk.Disk {
	t.Helper()
	d, e := disk.Load(b)
	if e != api.OK {
		t.Fatalf("Load of %d bytes: %v", len(b), e)
	}
	return d
}

// mustOpen is the log of a disk.
func mustOpen(t *testing.T, d *disk.Disk) *Log {
	t.Helper()
	g, e := Open(d)
	if e != api.OK || g == nil {
		t.Fatalf("Open: %v, %v", g, e)
	}
	return g
}

// openNew is a disk of n sectors of noughts, and its log.
func openNew(t *testing.T, n int) (*disk.Disk, *Log) {
	t.Helper()
	d := mustLoad(t, make([]byte, 64*n))
	return d, mustOpen(t, d)
}

// mustTell is of a log that must tell that, and again; it changes nothing.
func mustTell(t *testing.T, g *Log, d *disk.Disk, gen uint64, l ...string) {
	t.Helper()
	was, room := d.Dump(), roomByWords(d.Size(), l)
	for range 2 {
		if got := plain(g.All()); !slices.Equal(got, l) || g.Gen() != gen || g.Room() != room {
			t.Errorf("told: generation %d, %d records %.40q, room %d; want %d, %d records %.40q, room %d", g.Gen(), len(got), got, g.Room(), gen, len(l), l, room)
		}
	}
	if !bytes.Equal(d.Dump(), was) {
		t.Error("what is told has changed the disk")
	}
}

// mustHave is of a log that must tell that, all of it being safe on its disk.
func mustHave(t *testing.T, g *Log, d *disk.Disk, gen uint64, l ...string) {
	t.Helper()
	mustTell(t, g, d, gen, l...)
	if d.Pending() != 0 {
		t.Errorf("%d writes wait", d.Pending())
	}
	got, records, e := Read(d.Dump())
	if e != api.OK || got != gen || !slices.Equal(plain(records), l) {
		t.Errorf("on the disk: generation %d, %d records %.40q, %v; want %d, %d records %.40q", got, len(records), records, e, gen, len(l), l)
	}
}

// mustAnswer is of a call that must be answered so.
func mustAnswer(t *testing.T, name string, got, want api.Errno) {
	t.Helper()
	if got != want {
		t.Errorf("%s: %v, want %v", name, got, want)
	}
}

// mustAppend is of a record that must be appended.
func mustAppend(t *testing.T, g *Log, s string) {
	t.Helper()
	mustAnswer(t, fmt.Sprintf("Append of %d bytes", len(s)), g.Append([]byte(s)), api.OK)
}

// The chapter's example, and that of the whole.
func TestExample(t *testing.T) {
	d, g := openNew(t, 8)
	if g.Gen() != 1 || g.Room() != 135 || len(g.All()) != 0 {
		t.Errorf("generation %d, room %d, records %q", g.Gen(), g.Room(), g.All())
	}
	mustAppend(t, g, "a")
	if b, e := d.Read(1); e != api.OK || !bytes.Equal(b, Record(1, 0, []byte("a"))) {
		t.Errorf("sector 1: %x, %v", b, e)
	}
	mustHave(t, g, d, 1, "a")
}

// 14.1: Head, as another program worked it out.
func TestHead(t *testing.T) {
	for _, c := range []struct {
		gen  uint64
		want string
	}{
		{0, "480000000000000000f72c15f73b1659569204a89710a8e3bde4c27091a9460517561e40878d88ec37"},
		{1, "480000000000000001d14ecb27ac13868ed1804e9d2ca17baae5c1da07363db9dc871c1164e87f7c4e"},
		{1 << 32, "48000000010000000093c0e067e45c81e2d067b1b1a1e0a2036479b3bd0f4a0bb3ef60db7c09463316"},
		{math.MaxUint64, "48ffffffffffffffff841368dbd1319388072384960a61c7be9fe7680edbdf3195c2b4e17a0f70bc9b"},
	} {
		want := c.want + strings.Repeat("00", 23)
		if got := hex.EncodeToString(Head(c.gen)); got != want {
			t.Errorf("Head(%d): %s, want %s", c.gen, got, want)
		}
	}
}

// manyNumbers is numbers whose bytes are unlike at each place, and those at the edges.
func manyNumbers() []uint64 {
	l := []uint64{0x0102030405060708, 0xf1e2d3c4b5a69788}
	for i := range 64 {
		l = append(l, 1<<i-1, 1<<i, 1<<i+1)
	}
	return append(l, math.MaxUint64-1, math.MaxUint64)
}

// 14.1: Head of many generations is one sector, by the chapter's words.
func TestHeadByWords(t *testing.T) {
	for _, gen := range manyNumbers() {
		if got := Head(gen); len(got) != 64 || !bytes.Equal(got, headByWords(gen)) {
			t.Errorf("Head(%d): %x", gen, got)
		}
	}
}

// 14.2: Text and Record, as another program worked them out.
func TestRecord(t *testing.T) {
	for _, c := range []struct {
		gen, seq uint64
		b        string
		text     string
		digest   string
		size     int
	}{
		{1, 0, "", "4a00000000000000010000000000000000", "844f97c0107a59338533eab67ac9a0dc835b30b1a88ab8682a6c6e181dca70d5", 64},
		{1, 0, "a", "4a00000000000000010000000000000000", "a0f6c1de3d2ce9452c153cf9fa4b5401cd29bbc5b995297f8da55074ee261144", 64},
		{1, 0, "seven b", "4a00000000000000010000000000000000", "7e712da24d86bea0f113976a84fb5a197ddbfeed744ccb4efdcbdb1d78dd135e", 64},
		{1 << 32, 5, "eight by", "4a00000001000000000000000000000005", "c32bf393fd3821e02d013e5cd1934c5f0e8cc97a8a4a7a4ea3a6a20444418276", 128},
		{math.MaxUint64, math.MaxUint64, strings.Repeat("x", 71), "4affffffffffffffffffffffffffffffff", "5fd8f917030c2d6f4ccae98f22cd7aff57304cff4895ff21796d44d6c52692e9", 128},
		{7, 3, strings.Repeat("y", 72), "4a00000000000000070000000000000003", "9e884c94a0a6c2c590720ea42443f46d857027ea5545b9466d8ad1d9e809aaf6", 192},
	} {
		b := hex.EncodeToString([]byte(c.b))
		if got := hex.EncodeToString(Text(c.gen, c.seq, []byte(c.b))); got != c.text+b {
			t.Errorf("Text(%d, %d, %q): %s", c.gen, c.seq, c.b, got)
		}
		want := c.text + c.digest + fmt.Sprintf("%016x", len(c.b)) + b
		want += strings.Repeat("0", 2*c.size-len(want))
		if got := hex.EncodeToString(Record(c.gen, c.seq, []byte(c.b))); got != want {
			t.Errorf("Record(%d, %d, %q): %s, want %s", c.gen, c.seq, c.b, got, want)
		}
	}
}

// 14.2: Text and Record by the chapter's words, of many numbers and sizes; nil is as no bytes.
func TestRecordByWords(t *testing.T) {
	look := func(gen, seq uint64, b []byte) {
		t.Helper()
		if got := Text(gen, seq, b); !bytes.Equal(got, textByWords(gen, seq, b)) {
			t.Errorf("Text(%d, %d, %d bytes): %x", gen, seq, len(b), got)
		}
		if got := Record(gen, seq, b); len(got) != 64*sectorsByWords(len(b)) || !bytes.Equal(got, recordByWords(gen, seq, b)) {
			t.Errorf("Record(%d, %d, %d bytes): %x", gen, seq, len(b), got)
		}
	}
	for _, n := range manyNumbers() {
		look(n, 0, []byte("a"))
		look(1, n, []byte("b"))
		look(n, ^n, nil)
	}
	for size := range 300 {
		look(3, 4, []byte(long(size)))
		look(3, 4, make([]byte, size)) // how many noughts there are is told by the number alone
	}
	look(1, 2, nil)
	for _, size := range []int{1 << 16, 1<<20 - 1, 1 << 20, 1<<20 + 1} { // Record asks nothing of b
		look(9, 9, []byte(long(size)))
	}
}

// 14.1, 14.2, R3: what is told is new memory; what was handed in stays, and nothing behind its length is read or written.
func TestBytesShareNothing(t *testing.T) {
	for _, size := range []int{0, 1, 7, 8, 71, 72} {
		whole := []byte(long(400))
		b := whole[:size]
		text, record, other := Text(1, 2, b), Record(1, 2, b), Record(1, 2, b)
		if string(whole) != long(400) {
			t.Errorf("%d bytes: what was handed in is another thing", size)
		}
		clear(text[:cap(text)])
		clear(record[:cap(record)])
		if string(whole) != long(400) || !bytes.Equal(other, recordByWords(1, 2, b)) {
			t.Errorf("%d bytes: memory is shared", size)
		}
		clear(whole)
		if !bytes.Equal(other, recordByWords(1, 2, []byte(long(size)))) {
			t.Errorf("%d bytes: what was handed in is kept", size)
		}
	}
	head := Head(1)
	clear(head[:cap(head)])
	if !bytes.Equal(Head(1), headByWords(1)) {
		t.Error("Head is another one, as one that was told was written over")
	}
}

// 14.3: bytes that are not whole sectors, or fewer than 8, are refused.
func TestReadRefused(t *testing.T) {
	mustNotRead(t, nil)
	whole := layout(18, written(1, "a", long(100)), written(2, "b"))
	for size := range 8*64 + 2 {
		if size == 8*64 {
			continue
		}
		mustNotRead(t, whole[:size])
		mustNotRead(t, make([]byte, size))
	}
	for _, size := range []int{9*64 - 1, 9*64 + 1, 16*64 + 32, 18*64 - 1, 64*16384 + 1} {
		mustNotRead(t, make([]byte, size))
	}
}

// 14.3: of noughts nothing is told, nor of bytes that are nothing.
func TestReadNothing(t *testing.T) {
	for _, n := range []int{8, 9, 10, 11, 100, 16384, 16385} {
		mustRead(t, make([]byte, 64*n), 0)
		mustRead(t, trash(n), 0)
	}
	mustRead(t, layout(8, recordByWords(1, 0, []byte("a")), recordByWords(0, 0, []byte("a"))), 0)
	mustRead(t, layout(9, append(make([]byte, 64), written(1, "a")...), nil), 0) // a Head, but not as the first sector
}

// 14.3: which half counts: that of the greater generation, the first one if both begin the same.
func TestReadHalves(t *testing.T) {
	gens := []uint64{1, 2, 3, 255, 256, 257, 1<<32 - 1, 1 << 32, 1 << 33, 1<<63 - 1, 1 << 63, math.MaxUint64}
	for _, n := range []int{8, 9, 12, 13} {
		for _, a := range gens {
			mustRead(t, layout(n, written(a, "x", "yy"), nil), a, "x", "yy")
			mustRead(t, layout(n, nil, written(a, "x", "yy")), a, "x", "yy")
			mustRead(t, layout(n, written(a, "x"), trash(4)), a, "x")
			mustRead(t, layout(n, trash(4), written(a)), a)
			for _, b := range gens {
				first, second := written(a, "1", "one"), written(b, "2")
				if a >= b {
					mustRead(t, layout(n, first, second), a, "1", "one")
					continue
				}
				mustRead(t, layout(n, first, second), b, "2")
			}
		}
	}
}

// 14.3: one that counts without records has none, whatever the other one has.
func TestReadNoRecords(t *testing.T) {
	mustRead(t, layout(8, written(2), written(1, "a")), 2)
	mustRead(t, layout(8, written(2, "b"), written(3)), 3)
	mustRead(t, layout(8, written(5), written(5, "a")), 5)
}

// 14.3: a Head of generation 0 begins none; nor one with a byte turned.
func TestReadHeadTurned(t *testing.T) {
	mustRead(t, layout(8, written(0, "a"), nil), 0)
	mustRead(t, layout(8, written(0, "a"), written(0, "b")), 0)
	mustRead(t, layout(8, written(0, "a"), written(1, "b")), 1, "b")
	mustRead(t, layout(8, written(1, "b"), written(0, "a")), 1, "b")
	for at := range 64 {
		for _, turn := range []byte{1, 0x80, 0xff} {
			b := layout(8, written(5, "five"), written(3, "three"))
			b[at] ^= turn
			mustRead(t, b, 3, "three")
			b[4*64+at] ^= turn
			mustRead(t, b, 0)
			b[at] ^= turn
			mustRead(t, b, 5, "five")
			if t.Failed() {
				t.Fatalf("byte %d turned by %d", at, turn)
			}
		}
	}
}

// 14.3: records that just fill a half, in the first one and in the second one.
func TestReadToTheEnd(t *testing.T) {
	for _, l := range [][]string{
		{long(135)}, {long(129)}, {long(128)}, {"a", "b", "c"}, {long(7), long(7), long(7)}, {"a", long(71)}, {long(71), "a"}, {long(8), "\x00"},
	} {
		for _, n := range []int{8, 9} {
			mustRead(t, layout(n, written(2, l...), written(1, "z")), 2, l...)
			mustRead(t, layout(n, written(1, "z"), written(2, l...)), 2, l...)
		}
	}
}

// 14.3: one that would reach past its half is none, even if its bytes go on there.
func TestReadPast(t *testing.T) {
	b := make([]byte, 8*64)
	copy(b, written(1, long(200))) // five sectors behind the first one
	mustRead(t, b, 1)
	b = make([]byte, 8*64)
	copy(b, written(1, "a", long(72)))
	mustRead(t, b, 1, "a")
	b = make([]byte, 9*64)
	copy(b[4*64:], written(1, long(136))) // into the sector that is over
	mustRead(t, b, 1)
	b = make([]byte, 9*64)
	copy(b[4*64:], written(1, "a", "b", "c", "d"))
	mustRead(t, b, 1, "a", "b", "c")
	b = make([]byte, 8*64)
	copy(b, written(1, "a", "b", "c"))
	copy(b[4*64:], recordByWords(1, 3, []byte("d"))) // where the second half begins
	mustRead(t, b, 1, "a", "b", "c")
}

// 14.3: with a number that is not that of its bytes one is none, and those behind it are none, either.
func TestReadNumbers(t *testing.T) {
	for _, count := range []uint64{0, 1, 3, 7, 8, 57, 64, 128, 6 * 64, 6*64 - 57, 6*64 - 56, 8 * 64, 1 << 20, 1<<20 + 1, 1<<31 - 1, 1 << 31, 1 << 32, 1<<32 + 2, 1<<63 - 57, 1<<63 - 1, 1 << 63, 1<<63 + 2, math.MaxUint64 - 64, math.MaxUint64 - 57, math.MaxUint64 - 56, math.MaxUint64 - 1, math.MaxUint64} {
		bad := recordOf(1, 1, sha256.Sum256(textByWords(1, 1, []byte("bb"))), count, []byte("bb"))
		mustRead(t, layout(16, slices.Concat(written(1, "a"), bad, recordByWords(1, 2, []byte("c"))), nil), 1, "a")
		mustRead(t, layout(16, slices.Concat(written(1, "a"), bad, recordByWords(1, 1, []byte("c"))), nil), 1, "a")
		mustRead(t, layout(16, nil, slices.Concat(written(1, "a"), bad, recordByWords(1, 2, []byte("c")))), 1, "a")
	}
	none := recordByWords(1, 1, nil) // all right but for that it has no bytes
	mustRead(t, layout(16, slices.Concat(written(1, "a"), none, recordByWords(1, 2, []byte("c"))), nil), 1, "a")
	mustRead(t, layout(16, slices.Concat(written(1), recordByWords(1, 0, nil), recordByWords(1, 1, []byte("c"))), nil), 1)
}

// 14.3: with a digest, a seq, a generation or a sign of another one it is none, nor those behind it.
func TestReadOthers(t *testing.T) {
	digest := func(gen, seq uint64, s string) [32]byte { return sha256.Sum256(textByWords(gen, seq, []byte(s))) }
	b := []byte("bb")
	sign := recordByWords(4, 1, b)
	sign[0] = 'H'
	for i, bad := range [][]byte{
		recordByWords(4, 0, b), recordByWords(4, 2, b), recordByWords(4, math.MaxUint64, b), recordByWords(4, 1<<32+1, b),
		recordByWords(3, 1, b), recordByWords(5, 1, b), recordByWords(0, 1, b), recordByWords(4+1<<32, 1, b),
		recordOf(4, 1, digest(4, 1, "bc"), 2, b), recordOf(4, 1, digest(4, 1, "b"), 2, b), recordOf(4, 1, digest(4, 1, "bb\x00"), 2, b), recordOf(4, 1, digest(4, 0, "bb"), 2, b), recordOf(4, 1, digest(3, 1, "bb"), 2, b), recordOf(4, 1, sha256.Sum256(b), 2, b), recordOf(4, 1, [32]byte{}, 2, b),
		recordOf(3, 1, digest(4, 1, "bb"), 2, b), recordOf(4, 0, digest(4, 1, "bb"), 2, b), recordOf(4, 2, digest(4, 1, "bb"), 2, b),
		sign, make([]byte, 64), trash(1), headByWords(4), headByWords(5),
	} {
		mustRead(t, layout(16, slices.Concat(written(4, "a"), bad, recordByWords(4, 2, b)), nil), 4, "a")
		mustRead(t, layout(16, slices.Concat(written(4, "a"), bad, recordByWords(4, 1, b)), nil), 4, "a")
		mustRead(t, layout(16, nil, slices.Concat(written(4, "a"), bad, recordByWords(4, 2, b))), 4, "a")
		if t.Failed() {
			t.Fatalf("case %d", i)
		}
	}
}

// 14.3: wherever one byte is turned, of the padding, too: the records ahead of it are told, and none of those from it on.
func TestReadTurned(t *testing.T) {
	l := []string{"a", long(72), "\x00\x00", long(7)}
	ends := []int{64, 128, 320, 384, 448, 512} // of Head, each record, and the half
	for half := range 2 {
		for at := range 512 {
			for _, turn := range []byte{1, 0x80, 0xff} {
				parts := [2][]byte{nil, written(6, "six")}
				parts[half], parts[1-half] = written(7, l...), written(6, "six")
				b := layout(17, parts[0], parts[1])
				b[512*half+at] ^= turn
				switch k := slices.IndexFunc(ends, func(end int) bool { return at < end }); k {
				case 0:
					mustRead(t, b, 6, "six")
				default:
					mustRead(t, b, 7, l[:k-1]...)
				}
			}
		}
	}
}

// 14.3: how many noughts a record has is not forgotten; nor is one of noughts alone taken for none.
func TestReadNoughtsWithin(t *testing.T) {
	mustRead(t, layout(20, written(1, "\x00", "b\x00", "b", "\x00\x00\x00\x00\x00\x00\x00\x00"), nil), 1, "\x00", "b\x00", "b", "\x00\x00\x00\x00\x00\x00\x00\x00")
}

// 14.3: of a disk of an odd number of sectors the last one is not used, whatever it has.
func TestReadOdd(t *testing.T) {
	for _, last := range [][]byte{make([]byte, 64), trash(1), headByWords(9), recordByWords(2, 1, []byte("b"))} {
		for _, c := range []struct {
			first, second []byte
			gen           uint64
			l             []string
		}{
			{nil, nil, 0, nil}, {written(1, "a"), nil, 1, []string{"a"}}, {nil, written(2, "a"), 2, []string{"a"}}, {written(1, "x"), written(2, "a"), 2, []string{"a"}}, {written(3, "a", "b", "c"), written(2, "a"), 3, []string{"a", "b", "c"}},
		} {
			b := layout(9, c.first, c.second)
			copy(b[8*64:], last)
			mustRead(t, b, c.gen, c.l...)
		}
	}
}

// 14.3: a great half with one long record, and with as many as can be; the chapter sets no bound to either.
func TestReadGreat(t *testing.T) {
	s := long(8191*64 - 57)
	mustRead(t, layout(16384, nil, written(3, s)), 3, s)
	var l []string
	for i := range 8191 {
		l = append(l, long(1+i%7))
	}
	mustRead(t, layout(16384, written(4, l...), written(3, s)), 4, l...)
	s = long(1<<20 + 1)
	mustRead(t, layout(40000, written(1, "a", s, "c"), nil), 1, "a", s, "c")
}

// 14.3, R3: what Read tells shares no memory with what it was given, nor one record with another.
func TestReadSharesNothing(t *testing.T) {
	b := layout(16, written(1, "a", "bb", long(100)), nil)
	was := bytes.Clone(b)
	_, l, _ := Read(b)
	_, other, _ := Read(b)
	clear(l[1][:cap(l[1])])
	if string(l[0]) != "a" || string(l[2]) != long(100) || !bytes.Equal(b, was) {
		t.Error("a record shares memory")
	}
	for _, x := range l {
		clear(x[:cap(x)])
	}
	clear(l[:cap(l)])
	if !bytes.Equal(b, was) || !slices.Equal(plain(other), []string{"a", "bb", long(100)}) {
		t.Error("what was told shares memory")
	}
	clear(b)
	if !slices.Equal(plain(other), []string{"a", "bb", long(100)}) {
		t.Error("what was handed in is kept")
	}
}

// 14.3, R3: what lies behind the length of what is handed in is not looked at.
func TestReadNothingBehind(t *testing.T) {
	whole := layout(32, written(1, "a"), written(9, "z"))
	mustRead(t, whole[:16*64], 1, "a")
	whole = make([]byte, 16*64)
	copy(whole, written(1, long(300)))
	mustRead(t, whole[:8*64], 1)
	mustRead(t, whole, 1, long(300))
}

// change is a Write of a sector, or a Sync (at is -1).
type change struct {
	at int
	b  string
}

// String is a change, to be read.
func (c change) String() string {
	return fmt.Sprintf("%d %x", c.at, c.b)
}

// seen is the changes that a call makes to a disk of those bytes, found by having the power go at each of them. A Write is seen by what it makes other: it must put another thing there.
func seen(t *testing.T, image []byte, call func(d *disk.Disk) api.Errno) (l []change) {
	t.Helper()
	waits := 0
	for k := 0; ; k++ {
		d, e := upTo(t, image, k, call)
		if e == api.OK {
			return l
		}
		if e != api.ErrDown {
			t.Fatalf("power goes at change %d: %v", k, e)
		}
		switch d.Pending() {
		case waits:
			l = append(l, change{at: -1})
			waits = 0
		case waits + 1:
			waits++
			l = append(l, lastWrite(t, d, image, k, call))
		default:
			t.Fatalf("change %d: %d writes wait, and %d did", k, d.Pending(), waits)
		}
	}
}

// upTo is a disk of those bytes behind a call in which the power goes at the k-th change, if there are so many.
func upTo(t *testing.T, image []byte, k int, call func(d *disk.Disk) api.Errno) (*disk.Disk, api.Errno) {
	t.Helper()
	d := mustLoad(t, image)
	d.Fuse(k)
	e := call(d)
	if e == api.OK {
		d.Fuse(-1)
	}
	return d, e
}

// lastWrite is the last write that waits: what is other if it alone is kept.
func lastWrite(t *testing.T, d *disk.Disk, image []byte, k int, call func(d *disk.Disk) api.Errno) change {
	t.Helper()
	safe, _ := upTo(t, image, k, call)
	safe.Crash(nil)
	keep := make([]int, d.Pending())
	keep[len(keep)-1] = 64
	d.Crash(keep)
	a, b := safe.Dump(), d.Dump()
	for i := range d.Size() {
		if x := b[64*i : 64*i+64]; !bytes.Equal(x, a[64*i:64*i+64]) {
			return change{at: i, b: string(x)}
		}
	}
	t.Fatalf("change %d: nothing is other", k)
	return change{}
}

// putByWords is the changes by which whole sectors are written, and synced.
func putByWords(at int, b []byte) (l []change) {
	for i := 0; i < len(b); i += 64 {
		l = append(l, change{at: at + i/64, b: string(b[i : i+64])})
	}
	return append(l, change{at: -1})
}

// beginByWords is the changes by which it is begun anew on a disk of n sectors.
func beginByWords(n, half int, gen uint64, l ...string) []change {
	start := half * (n / 2)
	return slices.Concat(
		putByWords(start, make([]byte, 64*(n/2))),
		putByWords(start+1, written(gen, l...)[64:]),
		putByWords(start, headByWords(gen)),
	)
}

// mustSee is of a call that must make those changes.
func mustSee(t *testing.T, image []byte, call func(d *disk.Disk) api.Errno, want []change) {
	t.Helper()
	if got := seen(t, image, call); !slices.Equal(got, want) {
		t.Errorf("changes: %v, want %v", got, want)
	}
}

// opening is Open, as a call on a disk.
func opening(d *disk.Disk) api.Errno {
	_, e := Open(d)
	return e
}

// appending is Append to the log of a disk.
func appending(s string) func(d *disk.Disk) api.Errno {
	return func(d *disk.Disk) api.Errno {
		g, e := Open(d)
		if e != api.OK {
			return e
		}
		return g.Append([]byte(s))
	}
}

// restarting is Restart of the log of a disk.
func restarting(l ...string) func(d *disk.Disk) api.Errno {
	return func(d *disk.Disk) api.Errno {
		g, e := Open(d)
		if e != api.OK {
			return e
		}
		return g.Restart(texts(l...))
	}
}

// 14.4: nil and disks of fewer than 8 sectors are refused, and nothing is written to them.
func TestOpenRefused(t *testing.T) {
	if g, e := Open(nil); g != nil || e != api.ErrArg {
		t.Errorf("Open(nil): %v, %v", g, e)
	}
	if g, e := Open(&disk.Disk{}); g != nil || e != api.ErrArg {
		t.Errorf("Open of a disk without sectors: %v, %v", g, e)
	}
	for n := 1; n < 8; n++ {
		for _, b := range [][]byte{make([]byte, 64*n), trash(n)} {
			d := mustLoad(t, b)
			if g, e := Open(d); g != nil || e != api.ErrArg || d.Pending() != 0 || !bytes.Equal(d.Dump(), b) {
				t.Errorf("Open of %d sectors: %v, %v", n, g, e)
			}
			d.Fuse(0)
			d.Sync()
			if g, e := Open(d); g != nil || e != api.ErrArg {
				t.Errorf("Open of %d sectors, the power having gone: %v, %v", n, g, e)
			}
		}
	}
}

// 14.4: if no half begins a generation, it is begun anew in the first one, the second one staying as it was.
func TestOpenNew(t *testing.T) {
	for _, n := range []int{8, 9, 10, 11, 31, 16383, 16384} {
		for _, was := range [][]byte{make([]byte, 64*n), trash(n), layout(n, written(0, "a"), recordByWords(1, 0, []byte("a"))), layout(n, written(0), trash(n/2))} {
			d := mustLoad(t, was)
			mustHave(t, mustOpen(t, d), d, 1)
			want := bytes.Clone(was)
			copy(want, layout(n, written(1), nil)[:64*(n/2)])
			if !bytes.Equal(d.Dump(), want) {
				t.Errorf("%d sectors: another dump", n)
			}
		}
	}
	mustSee(t, trash(8), opening, beginByWords(8, 0, 1))
	mustSee(t, trash(9), opening, beginByWords(9, 0, 1))
	mustSee(t, trash(14), opening, beginByWords(14, 0, 1))
}

// 14.4: what is there is told, and nothing is written, whatever the half that does not count has, or the sector that is over.
func TestOpenWhatIsThere(t *testing.T) {
	for _, l := range [][]string{nil, {"a"}, {"a", "\x00", long(72)}, {long(7*64 - 57)}, {long(7), long(7), long(7), long(7), long(7), long(7), long(7)}} {
		for _, n := range []int{16, 17} {
			for _, gen := range []uint64{1, 2, 1 << 40, math.MaxUint64} {
				for i, b := range [][]byte{
					layout(n, written(gen, l...), nil), layout(n, nil, written(gen, l...)),
					layout(n, written(gen, l...), trash(8)), layout(n, trash(8), written(gen, l...)),
					layout(n, written(gen, l...), written(gen-1, "z")), layout(n, written(gen, l...), written(gen, "z")), layout(n, written(gen-1, "z"), written(gen, l...)),
				} {
					if n == 17 && i > 0 {
						copy(b[16*64:], trash(1))
					}
					d := mustLoad(t, b)
					d.Fuse(0)
					mustHave(t, mustOpen(t, d), d, gen, l...)
					if !bytes.Equal(d.Dump(), b) || d.Sync() != api.ErrDown {
						t.Errorf("%d sectors, generation %d, case %d: there is a change", n, gen, i)
					}
				}
			}
		}
	}
}

// 14.4: if not all is noughts behind the records, it is begun anew with these in the other half, with the next generation; the half that counted stays as it was.
func TestOpenBytesBehind(t *testing.T) {
	for _, l := range [][]string{nil, {"a"}, {"a", long(72)}, {long(199)}} {
		kept := written(6, l...)
		for _, n := range []int{12, 13} {
			for half := range 2 {
				for _, at := range []int{len(kept), len(kept) + 1, len(kept) + 63, 6*64 - 1} {
					for _, other := range [][]byte{nil, trash(6), written(5, "z", "y"), written(4)} {
						parts := [2][]byte{other, other}
						parts[half] = kept
						b := layout(n, parts[0], parts[1])
						b[6*64*half+at] = 1
						d := mustLoad(t, b)
						mustHave(t, mustOpen(t, d), d, 7, l...)
						again := layout(n, written(7, l...), written(7, l...))
						copy(again[6*64*half:6*64*half+6*64], b[6*64*half:])
						if !bytes.Equal(d.Dump(), again) {
							t.Errorf("%q, %d sectors, half %d, byte %d: another dump", l, n, half, at)
						}
						mustHave(t, mustOpen(t, d), d, 7, l...)
					}
				}
			}
		}
	}
}

// 14.4: of bytes behind the records, which sectors are written, in which order, and how often is synced.
func TestOpenChanges(t *testing.T) {
	for _, l := range [][]string{nil, {"a"}, {"a", long(72)}} {
		torn := append(written(6, l...), 0, 0, 1)
		mustSee(t, layout(12, torn, trash(6)), opening, beginByWords(12, 1, 7, l...))
		mustSee(t, layout(12, trash(6), torn), opening, beginByWords(12, 0, 7, l...))
		mustSee(t, layout(13, torn, trash(6)), opening, beginByWords(13, 1, 7, l...))
		mustSee(t, layout(13, written(6, l...), trash(6)), opening, nil)
	}
	full := written(2, "a", "b", "c")
	mustSee(t, layout(8, trash(4), full), opening, nil)
	mustSee(t, layout(8, trash(4), append(written(2, "a", "b"), recordByWords(2, 1, []byte("c"))...)), opening, beginByWords(8, 0, 3, "a", "b"))
	mustSee(t, layout(8, append(written(2), recordByWords(2, 1, []byte("c"))...), trash(4)), opening, beginByWords(8, 1, 3))
}

// 14.4: while the power has gone nothing can be begun anew; what needs no change is told as it is read.
func TestOpenWhileDown(t *testing.T) {
	down := func(b []byte) *disk.Disk {
		d := mustLoad(t, b)
		d.Fuse(0)
		d.Sync()
		return d
	}
	for _, b := range [][]byte{make([]byte, 8*64), trash(9), layout(8, trash(4), append(written(1, "a"), 1)), layout(8, append(written(1, "a"), 1), nil)} {
		d := down(b)
		if g, e := Open(d); g != nil || e != api.ErrDown || d.Pending() != 0 || !bytes.Equal(d.Dump(), b) {
			t.Errorf("Open: %v, %v, %d writes wait", g, e, d.Pending())
		}
	}
	d := down(layout(8, trash(4), written(3, "a")))
	g := mustOpen(t, d)
	mustHave(t, g, d, 3, "a")
	mustAnswer(t, "Append", g.Append([]byte("b")), api.ErrDown)
	mustHave(t, g, d, 3, "a")
}

// 14.4: with the power going at any change, Open tells the error alone.
func TestOpenDownAtEach(t *testing.T) {
	for _, c := range []struct {
		b       []byte
		changes int
	}{
		{make([]byte, 8*64), 4 + 1 + 0 + 1 + 1 + 1},
		{layout(8, append(written(1, "a"), 1), nil), 4 + 1 + 1 + 1 + 1 + 1},
	} {
		for k := range c.changes {
			d := mustLoad(t, c.b)
			d.Fuse(k)
			if g, e := Open(d); g != nil || e != api.ErrDown {
				t.Errorf("power goes at change %d: %v, %v", k, g, e)
			}
		}
		d := mustLoad(t, c.b)
		d.Fuse(c.changes)
		mustOpen(t, d)
	}
}

// 14.5: Check.
func TestCheck(t *testing.T) {
	most := make([]byte, 1<<20+2)
	for _, c := range []struct {
		b    []byte
		want api.Errno
	}{
		{nil, api.ErrArg}, {[]byte{}, api.ErrArg}, {most[:0], api.ErrArg}, {[]byte{0}, api.OK}, {[]byte("ab"), api.OK}, {most[:64], api.OK},
		{most[:1<<20-1], api.OK}, {most[:1<<20], api.OK}, {most[:1<<20+1], api.ErrArg}, {most, api.ErrArg},
	} {
		if got := Check(c.b); got != c.want {
			t.Errorf("Check of %d bytes: %v, want %v", len(c.b), got, c.want)
		}
	}
}

// 14.5: records of many sizes, one behind the other, in the first half and in the second one.
func TestAppend(t *testing.T) {
	for half := range 2 {
		parts := [2][]byte{trash(20), trash(20)}
		parts[half] = written(3)
		d := mustLoad(t, layout(40, parts[0], parts[1]))
		g := mustOpen(t, d)
		var l []string
		for _, s := range []string{"a", long(7), long(8), "\x00", long(71), long(72), "\x00\x00\x00\x00\x00\x00\x00\x00", long(135), long(199)} {
			mustAppend(t, g, s)
			l = append(l, s)
			mustHave(t, g, d, 3, l...)
			parts[half] = written(3, l...)
			if !bytes.Equal(d.Dump(), layout(40, parts[0], parts[1])) {
				t.Errorf("%d records: another dump", len(l))
			}
			mustHave(t, mustOpen(t, d), d, 3, l...)
		}
		mustAnswer(t, "Append", g.Append([]byte("b")), api.ErrDisk)
	}
}

// 14.5: Append writes a record's sectors, in order, and syncs once.
func TestAppendChanges(t *testing.T) {
	for _, s := range []string{"a", long(7), long(8), long(72), long(135)} {
		mustSee(t, layout(12, written(2, "x"), trash(6)), appending(s), putByWords(2, recordByWords(2, 1, []byte(s))))
		mustSee(t, layout(13, trash(6), written(2, "x")), appending(s), putByWords(8, recordByWords(2, 1, []byte(s))))
		mustSee(t, layout(12, written(2), trash(6)), appending(s), putByWords(1, recordByWords(2, 0, []byte(s))))
	}
}

// 14.5: what just fits is appended, and one byte more is not: nothing stays of it.
func TestAppendToTheEnd(t *testing.T) {
	for _, n := range []int{8, 9, 10, 11, 16, 33} {
		for _, ahead := range [][]string{nil, {"a"}, {long(8)}, {"a", "b"}} {
			b := layout(n, trash(n/2), written(5, ahead...))
			d := mustLoad(t, b)
			g := mustOpen(t, d)
			room := g.Room()
			d.Fuse(0)
			for _, size := range []int{room + 1, room + 2, room + 64, 1 << 16, 1 << 20} {
				mustAnswer(t, "Append past the end", g.Append([]byte(long(size))), api.ErrDisk)
			}
			if d.Sync() != api.ErrDown || !bytes.Equal(d.Dump(), b) {
				t.Error("there is a change")
			}
			d.Crash(nil)
			mustHave(t, g, d, 5, ahead...)
			mustAppend(t, g, long(room))
			mustHave(t, g, d, 5, append(slices.Clip(ahead), long(room))...)
			if g.Room() != 0 {
				t.Errorf("room %d behind it", g.Room())
			}
		}
	}
}

// 14.5: what Check refuses is refused so where it would not fit, either; and also where the power has gone.
func TestAppendRefused(t *testing.T) {
	for _, l := range [][]string{nil, {"a"}, {long(135)}} {
		b := layout(8, written(1, l...), nil)
		d := mustLoad(t, b)
		g := mustOpen(t, d)
		look := func(small api.Errno) {
			t.Helper()
			mustAnswer(t, "Append of nil", g.Append(nil), api.ErrArg)
			mustAnswer(t, "Append of no bytes", g.Append([]byte{}), api.ErrArg)
			mustAnswer(t, "Append of 2^20 + 1", g.Append(make([]byte, 1<<20+1)), api.ErrArg)
			mustAnswer(t, "Append of 2^20", g.Append(make([]byte, 1<<20)), api.ErrDisk)
			mustAnswer(t, "Append past the end", g.Append([]byte(long(136))), api.ErrDisk)
			if g.Room() == 0 {
				mustAnswer(t, "Append of one", g.Append([]byte("b")), api.ErrDisk)
			} else if small != api.OK {
				mustAnswer(t, "Append of one", g.Append([]byte("b")), small)
			}
			mustHave(t, g, d, 1, l...)
			if !bytes.Equal(d.Dump(), b) {
				t.Error("there is a change")
			}
		}
		look(api.OK)
		d.Fuse(0)
		look(api.OK)
		mustAnswer(t, "Sync", d.Sync(), api.ErrDown)
		look(api.ErrDown)
	}
}

// 14.5: where the power goes at each of its changes Append tells it, and the log tells what it told.
func TestAppendDownAtEach(t *testing.T) {
	for _, s := range []string{"b", long(8), long(71)} {
		for k := range sectorsByWords(len(s)) + 1 {
			d := mustLoad(t, layout(8, written(1, "a"), nil))
			g := mustOpen(t, d)
			d.Fuse(k)
			mustAnswer(t, "Append", g.Append([]byte(s)), api.ErrDown)
			mustTell(t, g, d, 1, "a")
		}
	}
}

// 14.5: Restart with no records, with several, and several times one behind the other: the halves take turns.
func TestRestart(t *testing.T) {
	for _, n := range []int{16, 17} {
		d, g := openNew(t, n)
		mustAppend(t, g, "first")
		want := d.Dump()
		gen := uint64(1)
		for _, l := range [][]string{nil, {"a"}, {"a", "b", "\x00"}, {long(100), "c"}, nil, nil, {long(7*64 - 57)}, {"a", "b", "c", "d", "e", "f", "g"}, {"z"}} {
			gen++
			mustAnswer(t, "Restart", g.Restart(texts(l...)), api.OK)
			mustHave(t, g, d, gen, l...)
			begun := layout(n, written(gen, l...), written(gen, l...))
			half := int(gen-1) % 2 * 512
			copy(want[half:half+512], begun[half:])
			if !bytes.Equal(d.Dump(), want) {
				t.Errorf("%d sectors, generation %d: another dump", n, gen)
			}
			mustHave(t, mustOpen(t, d), d, gen, l...)
			if g.Room() > 0 {
				mustAppend(t, g, "more")
				l = append(l, "more")
				want = d.Dump()
			}
			mustHave(t, g, d, gen, l...)
			mustHave(t, mustOpen(t, d), d, gen, l...)
		}
	}
}

// 14.5: a log may be begun anew with what it has, with a piece of it, or with that and more.
func TestRestartWithAll(t *testing.T) {
	d, g := openNew(t, 20)
	for _, s := range []string{"a", "b", long(80)} {
		mustAppend(t, g, s)
	}
	mustAnswer(t, "Restart", g.Restart(g.All()), api.OK)
	mustHave(t, g, d, 2, "a", "b", long(80))
	mustAnswer(t, "Restart", g.Restart(g.All()[1:]), api.OK)
	mustHave(t, g, d, 3, "b", long(80))
	mustAnswer(t, "Restart", g.Restart(append(g.All(), []byte("c"))), api.OK)
	mustHave(t, g, d, 4, "b", long(80), "c")
}

// 14.5: which sectors are written by Restart, in which order, and how often is synced.
func TestRestartChanges(t *testing.T) {
	for _, l := range [][]string{nil, {"a"}, {"a", long(72), "b"}, {long(5*64 - 57)}} {
		mustSee(t, layout(12, written(8, "x", "y"), trash(6)), restarting(l...), beginByWords(12, 1, 9, l...))
		mustSee(t, layout(13, trash(6), written(8, "x", "y")), restarting(l...), beginByWords(13, 0, 9, l...))
		mustSee(t, layout(12, written(8), trash(6)), restarting(l...), beginByWords(12, 1, 9, l...))
	}
}

// 14.5: the first error of Check is told ahead of what does not fit; then that; nothing stays of what is refused.
func TestRestartRefused(t *testing.T) {
	great, past := long(1<<20), long(1<<20+1)
	for _, c := range []struct {
		l    []string
		want api.Errno
	}{
		{[]string{""}, api.ErrArg}, {[]string{past}, api.ErrArg}, {[]string{"a", ""}, api.ErrArg}, {[]string{"", "a"}, api.ErrArg}, {[]string{great, ""}, api.ErrArg}, {[]string{great, past}, api.ErrArg}, {[]string{"a", "b", "c", "d", ""}, api.ErrArg}, {[]string{long(136), "", "a"}, api.ErrArg},
		{[]string{great}, api.ErrDisk}, {[]string{great, great}, api.ErrDisk}, {[]string{long(136)}, api.ErrDisk}, {[]string{"a", "b", "c", "d"}, api.ErrDisk}, {[]string{long(7), long(72)}, api.ErrDisk}, {[]string{long(8), long(8)}, api.ErrDisk}, {[]string{long(72), "a"}, api.ErrDisk}, {[]string{"a", "b", long(8)}, api.ErrDisk},
	} {
		for _, had := range [][]string{nil, {"x"}, {"x", "y", "z"}} {
			for _, n := range []int{8, 9} {
				b := layout(n, trash(4), written(2, had...))
				d := mustLoad(t, b)
				g := mustOpen(t, d)
				d.Fuse(0)
				mustAnswer(t, fmt.Sprintf("Restart of %.20q", c.l), g.Restart(texts(c.l...)), c.want)
				if d.Sync() != api.ErrDown || !bytes.Equal(d.Dump(), b) {
					t.Error("there is a change")
				}
				mustAnswer(t, "Restart while the power has gone", g.Restart(texts(c.l...)), c.want)
				d.Crash(nil)
				mustHave(t, g, d, 2, had...)
			}
		}
	}
}

// 14.5: such as just fit, whatever the half has that counts.
func TestRestartToTheEnd(t *testing.T) {
	for _, l := range [][]string{{long(135)}, {"a", "b", "c"}, {long(7), long(71)}, {long(71), long(7)}, {long(7), long(7), long(7)}, {long(129)}} {
		for _, had := range [][]string{nil, {"x"}, {"x", "y", "z"}} {
			for _, n := range []int{8, 9} {
				d := mustLoad(t, layout(n, written(2, had...), trash(4)))
				g := mustOpen(t, d)
				mustAnswer(t, "Restart", g.Restart(texts(l...)), api.OK)
				mustHave(t, g, d, 3, l...)
				if g.Room() != 0 {
					t.Errorf("room %d", g.Room())
				}
				mustAnswer(t, "Append", g.Append([]byte("d")), api.ErrDisk)
				mustHave(t, mustOpen(t, d), d, 3, l...)
			}
		}
	}
}

// 14.5: where the power goes at each of its changes Restart tells it, and the log tells what it told.
func TestRestartDownAtEach(t *testing.T) {
	for k := range 4 + 1 + 3 + 1 + 1 + 1 {
		d := mustLoad(t, layout(8, written(1, "a"), nil))
		g := mustOpen(t, d)
		d.Fuse(k)
		mustAnswer(t, "Restart", g.Restart(texts("b", long(71))), api.ErrDown)
		mustTell(t, g, d, 1, "a")
	}
}

// 14.4: behind an error of the disk a log is of no use any more: it writes nothing, though the power is there again.
func TestOfNoUse(t *testing.T) {
	for _, call := range []func(g *Log) api.Errno{
		func(g *Log) api.Errno { return g.Append([]byte(long(71))) },
		func(g *Log) api.Errno { return g.Restart(texts("b", "c")) },
	} {
		for k := 0; ; k++ {
			d := mustLoad(t, layout(8, written(1, "a"), nil))
			g := mustOpen(t, d)
			d.Fuse(k)
			if call(g) == api.OK {
				break
			}
			d.Crash([]int{20, 40})
			was := d.Dump()
			d.Fuse(0)
			mustAnswer(t, "Append", g.Append([]byte("d")), api.ErrDown)
			mustAnswer(t, "Restart", g.Restart(nil), api.ErrDown)
			mustAnswer(t, "Append of nil", g.Append(nil), api.ErrArg)
			mustTell(t, g, d, 1, "a")
			if d.Pending() != 0 || !bytes.Equal(d.Dump(), was) || d.Sync() != api.ErrDown {
				t.Errorf("power goes at change %d: the log goes on", k)
			}
		}
	}
}

// 14.5: Room of disks of many sizes with nothing, with room for a record of one sector, and with none left.
func TestRoom(t *testing.T) {
	for _, c := range []struct{ n, want int }{{8, 135}, {9, 135}, {10, 199}, {11, 199}, {12, 263}, {16, 391}, {100, 3079}, {16383, 8190*64 - 57}, {16384, 8191*64 - 57}} {
		_, g := openNew(t, c.n)
		if g.Room() != c.want {
			t.Errorf("%d sectors: room %d, want %d", c.n, g.Room(), c.want)
		}
	}
	d, g := openNew(t, 8)
	for _, room := range []int{135, 71, 7, 0} {
		if g.Room() != room {
			t.Errorf("room %d, want %d", g.Room(), room)
		}
		if room > 0 {
			mustAppend(t, g, "a")
		}
	}
	mustHave(t, g, d, 1, "a", "a", "a")
}

// 14.5: Room is MaxBytes at most. No disk has so many sectors, so that this is asked of sectors themselves.
func TestRoomOfSectors(t *testing.T) {
	for _, c := range []struct{ left, want int }{{-1, 0}, {0, 0}, {1, 7}, {2, 71}, {1 << 14, 1<<20 - 57}, {1<<14 + 1, 1 << 20}, {1<<14 + 2, 1 << 20}, {1 << 20, 1 << 20}} {
		if got := room(c.left); got != c.want {
			t.Errorf("room of %d sectors: %d, want %d", c.left, got, c.want)
		}
	}
}

// 14.5: the greatest disk takes one record that fills a half, or as many as there are sectors.
func TestGreatestDisk(t *testing.T) {
	d, g := openNew(t, 16384)
	most := long(8191*64 - 57)
	mustAnswer(t, "Append past the end", g.Append([]byte(most+"a")), api.ErrDisk)
	mustAppend(t, g, most)
	mustHave(t, g, d, 1, most)
	many := make([]string, 8191)
	for i := range many {
		many[i] = long(1 + i%7)
	}
	mustAnswer(t, "Restart with one too many", g.Restart(texts(append(slices.Clip(many), "a")...)), api.ErrDisk)
	mustAnswer(t, "Restart", g.Restart(texts(many...)), api.OK)
	mustHave(t, g, d, 2, many...)
	mustHave(t, mustOpen(t, d), d, 2, many...)
}

// 14.5, R3: what is handed to Append and Restart is neither kept nor changed, and what lies behind its length is not read.
func TestGivenIsNotKept(t *testing.T) {
	d, g := openNew(t, 20)
	whole := []byte(long(200))
	mustAnswer(t, "Append", g.Append(whole[:70]), api.OK)
	mustAnswer(t, "Append of no bytes with more behind", g.Append(whole[:0]), api.ErrArg)
	if string(whole) != long(200) {
		t.Error("Append: what was handed in is another thing")
	}
	clear(whole)
	mustHave(t, g, d, 1, long(70))
	parts := []byte(long(100))
	l := [][]byte{parts[:10], parts[10:30], parts[:10], parts[90:]}
	kept := slices.Clone(l)
	mustAnswer(t, "Restart", g.Restart(l[:3]), api.OK)
	if string(parts) != long(100) || !slices.EqualFunc(l, kept, func(a, b []byte) bool { return &a[0] == &b[0] && len(a) == len(b) }) {
		t.Error("Restart: what was handed in is another thing")
	}
	clear(parts)
	clear(l)
	mustHave(t, g, d, 2, long(100)[:10], long(100)[10:30], long(100)[:10])
}

// 14.5, R3: what All tells shares no memory with the log, nor one record with another; what was told stays.
func TestAllSharesNothing(t *testing.T) {
	d, g := openNew(t, 20)
	mustAppend(t, g, "a")
	mustAppend(t, g, "bb")
	look := func(gen uint64, want ...string) {
		t.Helper()
		l, other := g.All(), g.All()
		clear(l[0][:cap(l[0])])
		if string(l[1]) != want[1] {
			t.Error("two records share memory")
		}
		clear(l[1][:cap(l[1])])
		_ = append(l[0], 7, 7, 7, 7, 7, 7, 7, 7)
		clear(l[:cap(l)])
		if !slices.Equal(plain(other), want) {
			t.Error("two answers share memory")
		}
		mustHave(t, g, d, gen, want...)
	}
	look(1, "a", "bb")
	mustAnswer(t, "Restart", g.Restart(texts("cc", "d")), api.OK)
	look(2, "cc", "d")
	told := g.All()
	mustAppend(t, g, "e")
	mustAnswer(t, "Restart", g.Restart(texts("f", "g")), api.OK)
	if !slices.Equal(plain(told), []string{"cc", "d"}) {
		t.Error("what was told is another thing, as more was done")
	}
	g = mustOpen(t, d)
	look(3, "f", "g")
	d = mustLoad(t, layout(20, append(written(1, "x", "y"), 1), nil)) // begun anew at Open
	g = mustOpen(t, d)
	look(2, "x", "y")
}

// P7: what a log tells hangs on the calls on it alone.
func TestAlike(t *testing.T) {
	row := func(between func()) (answers []string) {
		d, g := openNew(t, 14)
		note := func(e api.Errno) {
			between()
			answers = append(answers, fmt.Sprintf("%v %q %d %d %x", e, g.All(), g.Room(), g.Gen(), d.Dump()))
		}
		for size := range 6 {
			note(g.Append([]byte(long(60 * size))))
		}
		note(g.Restart(texts("a", "b")))
		note(g.Append([]byte("c")))
		d.Fuse(1)
		note(g.Append([]byte(long(80))))
		d.Crash([]int{30, 64})
		g = mustOpen(t, d)
		note(g.Restart(texts(long(1000))))
		note(g.Append([]byte("d")))
		return answers
	}
	first := row(func() {})
	_, other := openNew(t, 8)
	for range 3 {
		if again := row(func() { other.Append([]byte("x")); other.Restart(nil); other.All() }); !slices.Equal(first, again) {
			t.Error("another thing is told")
		}
	}
}

// P1: no call panics, whatever it is given; a Log that no call has made has room for nothing.
func TestNoPanic(t *testing.T) {
	for _, b := range [][]byte{
		layout(8, append(written(math.MaxUint64, "a"), 1), nil), // of which it is not promised that it goes on
		layout(8, nil, append(written(math.MaxUint64), 1)),
		trash(8), bytes.Repeat([]byte{0xff}, 9*64), bytes.Repeat([]byte{'J'}, 20*64), bytes.Repeat([]byte{'H'}, 20*64),
	} {
		Read(b)
		d := mustLoad(t, b)
		g := mustOpen(t, d)
		g.Append([]byte("a"))
		g.Restart(nil)
		g.Restart(texts("a", "b"))
		g.Append([]byte("c"))
		Open(d)
	}
	var none Log
	mustAnswer(t, "Append of nil", none.Append(nil), api.ErrArg)
	mustAnswer(t, "Append", none.Append([]byte("a")), api.ErrDisk)
	mustAnswer(t, "Restart with none", none.Restart(nil), api.ErrDisk)
	mustAnswer(t, "Restart", none.Restart(texts("a")), api.ErrDisk)
	mustAnswer(t, "Restart of no bytes", none.Restart(texts("")), api.ErrArg)
	if none.Gen() != 0 || none.Room() != 0 || len(none.All()) != 0 {
		t.Error("a Log that no call has made tells something")
	}
}
