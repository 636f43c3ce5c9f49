package codec

import (
	"bytes"
	"encoding/binary"
	"errors"
	"math"
	"math/big"
	"slices"
	"strconv"
	"strings"
	"testing"

	"blazon/api"
)

// text is n bytes, none of them like its neighbours.
func text(n int) []byte {
	b := make([]byte, n)
	for i := range b {
		b[i] = byte(i*7 + 1)
	}
	return b
}

// digest is 32 bytes, the first one that, each of the others unlike its neighbours.
func digest(first byte) api.Digest {
	var d api.Digest
	for i := range d {
		d[i] = first + byte(i)
	}
	return d
}

// roomy is b with bytes behind it that no reading is to see.
func roomy(b []byte) []byte {
	return append(bytes.Clone(b), bytes.Repeat([]byte{0x01}, 80)...)
}

// numbers is the edges that numbers have: around each count of groups of seven bits, around each bit, the least and the greatest.
func numbers() []uint64 {
	l := []uint64{0, 1, 2, 5, 300, 0x0102030405060708, 0xfedcba9876543210, math.MaxUint64 - 1, math.MaxUint64}
	for i := range 64 {
		l = append(l, 1<<i-1, 1<<i, 1<<i+1, math.MaxUint64>>i, ^uint64(1<<i))
	}
	return l
}

// lengths is how many bytes texts have: none, few, around where their length takes a byte more, and the most.
func lengths() []int {
	return []int{0, 1, 2, 31, 32, 33, 126, 127, 128, 129, 255, 256, 16383, 16384, 16385, api.MaxBytes - 1, api.MaxBytes}
}

// groups is a number in the document's words, by numbers that know no end: so many groups of seven bits, 128 more but for the last one.
func groups(n *big.Int, count int) []byte {
	var b []byte
	for i := range count {
		group := new(big.Int).Rsh(n, uint(7*i))
		c := byte(group.Mod(group, big.NewInt(128)).Uint64())
		if i < count-1 {
			c += 128
		}
		b = append(b, c)
	}
	return b
}

// needed is how many groups of seven bits a number needs.
func needed(n *big.Int) int {
	return max(1, (n.BitLen()+6)/7)
}

// inWords is a number's bytes in the document's words.
func inWords(n uint64) []byte {
	wide := new(big.Int).SetUint64(n)
	return groups(wide, needed(wide))
}

// parse is a number at the front of b, in the document's words: which one, how many bytes it takes, and whether it is there.
func parse(b []byte) (n uint64, size int, ok bool) {
	wide := new(big.Int)
	for i, c := range b {
		group := new(big.Int).Lsh(big.NewInt(int64(c&127)), uint(7*i))
		wide.Add(wide, group)
		if c < 128 {
			return wide.Uint64(), i + 1, wide.IsUint64() && needed(wide) == i+1
		}
	}
	return 0, 0, false
}

// parseNums is the numbers of which b is the bytes, in the document's words.
func parseNums(b []byte) (l []uint64, ok bool) {
	count, size, ok := parse(b)
	if !ok || count > 4096 {
		return nil, false
	}
	for b = b[size:]; count > 0; count-- {
		n, size, ok := parse(b)
		if !ok {
			return nil, false
		}
		l, b = append(l, n), b[size:]
	}
	return l, len(b) == 0
}

// parseTexts is the texts of which b is the bytes, in the document's words.
func parseTexts(b []byte) (l [][]byte, ok bool) {
	count, size, ok := parse(b)
	if !ok || count > 4096 {
		return nil, false
	}
	for b = b[size:]; count > 0; count-- {
		n, size, ok := parse(b)
		if !ok || n > 1<<20 || n > uint64(len(b)-size) {
			return nil, false
		}
		l, b = append(l, b[size:size+int(n)]), b[size+int(n):]
	}
	return l, len(b) == 0
}

// sameTexts tells whether two lists have the same texts.
func sameTexts(a, b [][]byte) bool {
	return slices.EqualFunc(a, b, bytes.Equal)
}

// want tells where bytes are not those that were asked for.
func want(t *testing.T, what string, got, asked []byte) {
	t.Helper()
	if !bytes.Equal(got, asked) {
		t.Errorf("%s: %x, want %x", what, got, asked)
	}
}

// readNum is one number that is all of b.
func readNum(b []byte) (n uint64, e api.Errno) {
	e = Read(b, func(r *Reader) { n = r.Num() })
	return n, e
}

// readCount is one number that is all of b, and most at most.
func readCount(b []byte, most int) (n int, e api.Errno) {
	e = Read(b, func(r *Reader) { n = r.Count(most) })
	return n, e
}

// readText is one text that is all of b.
func readText(b []byte) (x []byte, e api.Errno) {
	e = Read(b, func(r *Reader) { x = r.Text() })
	return x, e
}

// readDigest is one digest that is all of b.
func readDigest(b []byte) (d api.Digest, e api.Errno) {
	e = Read(b, func(r *Reader) { d = r.Digest() })
	return d, e
}

// all is every row of at most n bytes out of some.
func all(some []byte, n int, f func(b []byte)) {
	f(nil)
	var longer func(b []byte)
	longer = func(b []byte) {
		for _, c := range some {
			next := append(bytes.Clone(b), c)
			f(next)
			if len(next) < n {
				longer(next)
			}
		}
	}
	longer(nil)
}

// edgeBytes is bytes that matter in numbers: noughts, last groups, groups that others follow.
func edgeBytes() []byte {
	return []byte{0, 1, 2, 3, 127, 128, 129, 255}
}

// everyByte is all 256.
func everyByte() []byte {
	var b []byte
	for c := range 256 {
		b = append(b, byte(c))
	}
	return b
}

// 4.1: the chapter's example, and numbers written out.
func TestNumWrittenOut(t *testing.T) {
	for _, c := range []struct {
		n     uint64
		asked string
	}{
		{300, "\xac\x02"},
		{0, "\x00"},
		{1, "\x01"},
		{127, "\x7f"},
		{128, "\x80\x01"},
		{129, "\x81\x01"},
		{255, "\xff\x01"},
		{16383, "\xff\x7f"},
		{16384, "\x80\x80\x01"},
		{1 << 20, "\x80\x80\x40"},
		{1<<63 - 1, "\xff\xff\xff\xff\xff\xff\xff\xff\x7f"},
		{1 << 63, "\x80\x80\x80\x80\x80\x80\x80\x80\x80\x01"},
		{math.MaxUint64, "\xff\xff\xff\xff\xff\xff\xff\xff\xff\x01"},
	} {
		want(t, "Num of "+strconv.FormatUint(c.n, 10), Num(nil, c.n), []byte(c.asked))
	}
}

// 4.1: numbers around each edge, in the document's words and as the library writes such, alone and behind bytes.
func TestNum(t *testing.T) {
	for _, n := range numbers() {
		want(t, "Num, in words", Num(nil, n), inWords(n))
		want(t, "Num, by the library", Num([]byte{}, n), binary.AppendUvarint(nil, n))
		for _, k := range []int{1, 2, 64, 1000} {
			want(t, "Num behind bytes", Num(text(k), n), append(text(k), inWords(n)...))
		}
	}
	for n := range uint64(70000) {
		if !bytes.Equal(Num(nil, n), inWords(n)) {
			t.Fatalf("Num of %d: %x, want %x", n, Num(nil, n), inWords(n))
		}
	}
}

// 4.1: how many groups each count of bits takes: no group more than is needed.
func TestNumLengths(t *testing.T) {
	for bits := 1; bits <= 64; bits++ {
		least, most := uint64(1)<<(bits-1), uint64(math.MaxUint64)>>(64-bits)
		for _, n := range []uint64{least, most} {
			if got := len(Num(nil, n)); got != (bits+6)/7 {
				t.Errorf("%d, of %d bits: %d bytes", n, bits, got)
			}
		}
	}
}

// 4.1: texts of all the lengths, one more than can be read among them, alone and behind bytes.
func TestText(t *testing.T) {
	want(t, "no byte", Text(nil, nil), []byte{0})
	want(t, "no byte, not nil", Text([]byte{}, []byte{}), []byte{0})
	want(t, "written out", Text([]byte("ann"), []byte("key")), []byte("ann\x03key"))
	want(t, "128 noughts", Text(nil, make([]byte, 128)), append([]byte{0x80, 1}, make([]byte, 128)...))
	for _, n := range append(lengths(), api.MaxBytes+1, 3*api.MaxBytes) {
		asked := append(inWords(uint64(n)), text(n)...)
		if !bytes.Equal(Text(nil, text(n)), asked) {
			t.Errorf("a text of %d bytes: not how many and the text", n)
		}
		if !bytes.Equal(Text(text(9), text(n)), append(text(9), asked...)) {
			t.Errorf("a text of %d bytes behind 9: not how many and the text", n)
		}
	}
}

// 4.1: a digest is its 32 bytes, whatever they are.
func TestDigest(t *testing.T) {
	for first := range 256 {
		d := digest(byte(first))
		want(t, "alone", Digest(nil, d), d[:])
		want(t, "behind bytes", Digest(text(first), d), append(text(first), d[:]...))
	}
	want(t, "noughts", Digest([]byte{}, api.Digest{}), make([]byte, 32))
}

// 4.1: the room behind b may be used, but what is written hangs not on it, not even if the text lies there.
func TestWritingIntoRoom(t *testing.T) {
	for _, n := range []int{0, 1, 5, 127, 128, 200} {
		for room := range 300 {
			b := make([]byte, 10, 10+room)
			copy(b, text(10))
			if !bytes.Equal(Num(b, 1<<40), append(text(10), inWords(1<<40)...)) {
				t.Fatalf("%d bytes of room: the number is another one", room)
			}
			if !bytes.Equal(Digest(b, digest(3)), append(text(10), digestBytes(3)...)) {
				t.Fatalf("%d bytes of room: the digest is another one", room)
			}
			asked := append(append(text(10), inWords(uint64(n))...), text(n)...)
			if !bytes.Equal(Text(b, text(n)), asked) {
				t.Fatalf("%d bytes of room: the text of %d bytes is another one", room, n)
			}
			if !bytes.Equal(b, text(10)) {
				t.Fatalf("%d bytes of room: the bytes ahead have changed", room)
			}
		}
	}
	for at := range 30 {
		for size := range 30 {
			whole := text(100)
			asked := append(append(text(10), inWords(uint64(size))...), text(100)[at:at+size]...)
			want(t, "a text in the room", Text(whole[:10], whole[at:at+size]), asked)
		}
	}
}

// digestBytes is a digest's bytes.
func digestBytes(first byte) []byte {
	d := digest(first)
	return d[:]
}

// R3: what is handed in to be written is not changed, nor is what lies behind it written.
func TestWritingChangesNothing(t *testing.T) {
	for _, n := range []int{0, 1, 127, 128, 300} {
		b, x := text(7), roomy(text(n))
		kept := bytes.Clone(x)
		Text(slices.Clip(b), x[:n])
		if !bytes.Equal(b, text(7)) || !bytes.Equal(x, kept) {
			t.Errorf("Text of %d bytes changes what is handed in", n)
		}
	}
	nums := append(make([]uint64, 0, 9), 1, 300, math.MaxUint64)
	texts := append(make([][]byte, 0, 9), roomy(text(3))[:3], nil, roomy(text(200))[:200])
	first, second := Nums(nums), Texts(texts)
	if !slices.Equal(nums[:4], []uint64{1, 300, math.MaxUint64, 0}) {
		t.Errorf("Nums changes what is handed in: %v", nums[:4])
	}
	if !sameTexts(texts[:4], [][]byte{text(3), nil, text(200), nil}) || texts[0][:4][3] != 1 || texts[2][:201][200] != 1 {
		t.Errorf("Texts changes what is handed in: %x", texts[:4])
	}
	clear(nums)
	clear(texts[0])
	clear(texts[2])
	want(t, "Nums, behind that", first, []byte("\x03\x01\xac\x02\xff\xff\xff\xff\xff\xff\xff\xff\xff\x01"))
	want(t, "Texts, behind that", second, slices.Concat([]byte{3, 3}, text(3), []byte{0, 200, 1}, text(200)))
}

// R3: an answer of Nums and Texts shares no memory with another one.
func TestWritingIsNewMemory(t *testing.T) {
	for range 2 {
		a, b := Nums([]uint64{1, 2}), Texts([][]byte{{1}, {2}})
		want(t, "numbers", a, []byte{2, 1, 2})
		want(t, "texts", b, []byte{2, 1, 1, 1, 2})
		clear(a[:cap(a)])
		clear(b[:cap(b)])
	}
}

// 4.2: one function reads all there is, in order, and what it reads is what was written.
func TestReadAll(t *testing.T) {
	b := Num(nil, 300)
	b = Text(b, []byte("ann"))
	b = Digest(b, digest(9))
	b = Text(b, nil)
	b = Num(b, 7)
	b = Num(b, math.MaxUint64)
	steps := 0
	e := Read(b, func(r *Reader) {
		if n := r.Num(); n != 300 {
			t.Errorf("number %d", n)
		}
		if x := r.Text(); string(x) != "ann" {
			t.Errorf("text %q", x)
		}
		if d := r.Digest(); d != digest(9) {
			t.Errorf("digest %x", d)
		}
		if x := r.Text(); len(x) != 0 {
			t.Errorf("text %q", x)
		}
		if n := r.Count(7); n != 7 {
			t.Errorf("count %d", n)
		}
		if n := r.Num(); n != math.MaxUint64 {
			t.Errorf("number %d", n)
		}
		steps++
	})
	if e != api.OK || steps != 1 {
		t.Errorf("%v, %d times to the end", e, steps)
	}
}

// 4.2: f is called once, with a reader, also of no bytes; what is left behind it is refused.
func TestReadNothing(t *testing.T) {
	for _, b := range [][]byte{nil, {}, text(3)[:0], {0}, {1}, text(40)} {
		calls := 0
		e := Read(b, func(r *Reader) {
			calls++
			if r == nil {
				t.Error("no reader")
			}
		})
		asked := api.OK
		if len(b) > 0 {
			asked = api.ErrCodec
		}
		if e != asked || calls != 1 {
			t.Errorf("%x: %v, %d calls, want %v and 1", b, e, calls, asked)
		}
	}
}

// readings is one of each way to read, each with bytes that are such.
func readings() []struct {
	what string
	b    []byte
	read func(r *Reader)
} {
	return []struct {
		what string
		b    []byte
		read func(r *Reader)
	}{
		{"Num", []byte{5}, func(r *Reader) { r.Num() }},
		{"Num of two bytes", []byte{0xac, 2}, func(r *Reader) { r.Num() }},
		{"Num of ten bytes", inWords(math.MaxUint64), func(r *Reader) { r.Num() }},
		{"Count", []byte{0xac, 2}, func(r *Reader) { r.Count(300) }},
		{"Text", []byte{3, 'a', 'n', 'n'}, func(r *Reader) { r.Text() }},
		{"Text of no byte", []byte{0}, func(r *Reader) { r.Text() }},
		{"Text of 200 bytes", append([]byte{200, 1}, text(200)...), func(r *Reader) { r.Text() }},
		{"Digest", text(32), func(r *Reader) { r.Digest() }},
		{"all", slices.Concat([]byte{5, 1, 'a'}, text(32), []byte{2}), func(r *Reader) { r.Num(); r.Text(); r.Digest(); r.Count(2) }},
	}
}

// 4.2, 4.4: bytes that are such; cut short anywhere, with one more or many behind them, or with nothing there at all they are none.
func TestCutShortOrMore(t *testing.T) {
	for _, c := range readings() {
		if e := Read(c.b, c.read); e != api.OK {
			t.Errorf("%s: %v", c.what, e)
		}
		// Behind the length lie bytes that would make it whole.
		for n := range len(c.b) {
			if e := Read(c.b[:n], c.read); e != api.ErrCodec {
				t.Errorf("%s, cut to %d bytes: %v", c.what, n, e)
			}
		}
		for _, more := range [][]byte{{0}, {1}, {0x80}, {0xff}, text(100), c.b} {
			if e := Read(slices.Concat(c.b, more), c.read); e != api.ErrCodec {
				t.Errorf("%s, %x behind: %v", c.what, more, e)
			}
		}
	}
}

// 4.2: f is not gone on with once a reader gave up, in whatever way it reads, or Fail was said.
func TestNotGoneOnWith(t *testing.T) {
	for _, c := range readings() {
		before, behind := 0, 0
		e := Read(c.b[:len(c.b)-1], func(r *Reader) {
			before++
			c.read(r)
			behind++
		})
		if e != api.ErrCodec || before != 1 || behind != 0 {
			t.Errorf("%s, cut short: %v, %d times to the reading, %d times behind it", c.what, e, before, behind)
		}
	}
	for _, c := range []struct {
		what string
		b    []byte
		read func(r *Reader)
	}{
		{"a group more", []byte{0x80, 0}, func(r *Reader) { r.Num() }},
		{"65 bits", []byte("\xff\xff\xff\xff\xff\xff\xff\xff\xff\x03"), func(r *Reader) { r.Num() }},
		{"a count too great", []byte{5}, func(r *Reader) { r.Count(4) }},
		{"a count of at most -1", []byte{0}, func(r *Reader) { r.Count(-1) }},
		{"a text too long", Text(nil, make([]byte, api.MaxBytes+1)), func(r *Reader) { r.Text() }},
		{"Fail", nil, func(r *Reader) { r.Fail() }},
		{"Fail with bytes left", []byte{1, 2}, func(r *Reader) { r.Num(); r.Fail() }},
		{"Fail in a call", []byte{1}, func(r *Reader) { func() { r.Num(); func() { r.Fail() }() }() }},
	} {
		behind := 0
		e := Read(c.b, func(r *Reader) {
			c.read(r)
			behind++
		})
		if e != api.ErrCodec || behind != 0 {
			t.Errorf("%s: %v, %d times behind it", c.what, e, behind)
		}
	}
}

// 4.2: what is left behind f is found behind it: f itself comes to its end.
func TestLeftBehindIsFoundAtTheEnd(t *testing.T) {
	ended := false
	e := Read([]byte{1, 2}, func(r *Reader) {
		r.Num()
		ended = true
	})
	if e != api.ErrCodec || !ended {
		t.Errorf("%v, to the end: %v", e, ended)
	}
}

// 4.2: Fail, said where all was read; what f deferred is done.
func TestFail(t *testing.T) {
	deferred := 0
	e := Read([]byte{5}, func(r *Reader) {
		defer func() { deferred++ }()
		if r.Num() == 5 {
			r.Fail()
		}
		t.Error("gone on with")
	})
	if e != api.ErrCodec || deferred != 1 {
		t.Errorf("%v, %d", e, deferred)
	}
}

// 4.2: bytes that f found to be none such are none, even if f catches what was thrown; nothing can be read behind that.
func TestFailStays(t *testing.T) {
	caught := func(f func()) (did bool) {
		defer func() { did = recover() != nil }()
		f()
		return false
	}
	gone := 0
	for _, read := range []func(r *Reader){
		(*Reader).Fail,
		func(r *Reader) { r.Count(2) },
		func(r *Reader) { r.Count(-1) },
		func(r *Reader) { r.Digest() },
	} {
		e := Read([]byte{3}, func(r *Reader) {
			if !caught(func() { read(r) }) {
				t.Error("nothing was thrown")
			}
			for _, next := range []func(){func() { r.Num() }, func() { r.Count(300) }, func() { r.Text() }, func() { r.Digest() }, r.Fail} {
				if !caught(next) {
					t.Error("gone on with reading")
				}
			}
			gone++
		})
		if e != api.ErrCodec {
			t.Errorf("caught by f: %v", e)
		}
	}
	if gone != 4 {
		t.Errorf("%d of 4 came to their end", gone)
	}
}

// 4.2: numbers around each edge are read as what they were.
func TestReaderNum(t *testing.T) {
	for _, n := range numbers() {
		if got, e := readNum(inWords(n)); got != n || e != api.OK {
			t.Errorf("%d: %d, %v", n, got, e)
		}
	}
}

// 4.2: a number with groups more than are needed is refused, whatever the number is.
func TestReaderNumOfMoreGroups(t *testing.T) {
	for _, n := range numbers() {
		wide := new(big.Int).SetUint64(n)
		for count := needed(wide) + 1; count <= 30; count++ {
			if got, e := readNum(groups(wide, count)); e != api.ErrCodec {
				t.Errorf("%d in %d groups: %d, %v", n, count, got, e)
			}
		}
	}
}

// 4.2: a number of more than 64 bits is refused, whatever its lowest 64 bits are.
func TestReaderNumOfMoreBits(t *testing.T) {
	for _, low := range numbers() {
		for bit := uint(64); bit < 210; bit++ {
			wide := new(big.Int).SetUint64(low)
			wide.SetBit(wide, int(bit), 1)
			if got, e := readNum(groups(wide, needed(wide))); e != api.ErrCodec {
				t.Fatalf("%d and 2^%d: %d, %v", low, bit, got, e)
			}
		}
	}
	for tenth := range 256 {
		got, e := readNum(append(bytes.Repeat([]byte{0xff}, 9), byte(tenth)))
		if tenth == 1 {
			if got != math.MaxUint64 || e != api.OK {
				t.Errorf("2^64 - 1: %d, %v", got, e)
			}
		} else if e != api.ErrCodec {
			t.Errorf("a tenth group %x: %d, %v", tenth, got, e)
		}
	}
}

// 4.2: a row of groups that has no end is refused, however long it is.
func TestReaderNumWithoutEnd(t *testing.T) {
	for n := range 100 {
		for _, c := range []byte{0x80, 0x81, 0xff} {
			if _, e := readNum(bytes.Repeat([]byte{c}, n)); e != api.ErrCodec {
				t.Errorf("%d times %x: %v", n, c, e)
			}
		}
	}
}

// 4.2, 4.4: all rows of at most two bytes, and of at most five out of some: read in just the way in which it is written.
func TestReaderNumOfAllBytes(t *testing.T) {
	check := func(b []byte) {
		n, size, ok := parse(b)
		ok = ok && size == len(b)
		got, e := readNum(b)
		if ok != (e == api.OK) || e != api.OK && e != api.ErrCodec {
			t.Fatalf("%x: %v, is it a number: %v", b, e, ok)
		}
		if ok && (got != n || !bytes.Equal(Num(nil, got), b)) {
			t.Fatalf("%x: %d, which is %x", b, got, Num(nil, got))
		}
	}
	all(everyByte(), 2, check)
	all(edgeBytes(), 5, check)
}

// 4.2: a count that is most at most, and one above it.
func TestReaderCount(t *testing.T) {
	for _, most := range []int{0, 1, 127, 128, 255, 256, api.MaxParts, api.MaxBytes, 1 << 32, math.MaxInt - 1, math.MaxInt} {
		for _, n := range append(numbers(), uint64(most)-1, uint64(most), uint64(most)+1) {
			got, e := readCount(inWords(n), most)
			if n <= uint64(most) {
				if e != api.OK || uint64(got) != n {
					t.Errorf("%d, at most %d: %d, %v", n, most, got, e)
				}
			} else if e != api.ErrCodec {
				t.Errorf("%d, at most %d: %d, %v", n, most, got, e)
			}
		}
	}
}

// 4.2, R5: no number is at most one below nought.
func TestReaderCountBelowNought(t *testing.T) {
	for _, most := range []int{-1, -2, -128, -1 << 32, math.MinInt + 1, math.MinInt} {
		for _, n := range numbers() {
			if got, e := readCount(inWords(n), most); e != api.ErrCodec {
				t.Errorf("%d, at most %d: %d, %v", n, most, got, e)
			}
		}
	}
}

// 4.2: a count is a number, so another form of one is refused, too.
func TestReaderCountOfOtherForms(t *testing.T) {
	for _, b := range []string{"", "\x80", "\x80\x00", "\x85\x00", "\x81\x80\x00", "\xff\xff\xff\xff\xff\xff\xff\xff\xff\x02"} {
		if got, e := readCount([]byte(b), math.MaxInt); e != api.ErrCodec {
			t.Errorf("%x: %d, %v", b, got, e)
		}
	}
}

// 4.2: texts of no byte up to 2^20 bytes are read, one of a byte more is refused.
func TestReaderText(t *testing.T) {
	for _, n := range lengths() {
		x, e := readText(append(inWords(uint64(n)), text(n)...))
		if e != api.OK || !bytes.Equal(x, text(n)) {
			t.Errorf("a text of %d bytes: %d bytes, %v", n, len(x), e)
		}
	}
	for _, n := range []int{api.MaxBytes + 1, api.MaxBytes + 2, 2 * api.MaxBytes, 3 * api.MaxBytes} {
		if x, e := readText(append(inWords(uint64(n)), text(n)...)); e != api.ErrCodec {
			t.Errorf("a text of %d bytes: %d bytes, %v", n, len(x), e)
		}
	}
}

// 4.2: a text of which less is there than it says, and one that says that it is longer than there can be.
func TestReaderTextCutShort(t *testing.T) {
	for _, says := range []uint64{1, 2, 127, 128, api.MaxBytes, api.MaxBytes + 1, 1 << 31, 1 << 32, math.MaxInt, 1 << 63, math.MaxUint64} {
		for _, there := range []uint64{0, 1, 126, 127, api.MaxBytes - 1} {
			if there >= says {
				continue
			}
			if x, e := readText(append(inWords(says), text(int(there))...)); e != api.ErrCodec {
				t.Errorf("%d bytes of %d: %d bytes, %v", there, says, len(x), e)
			}
		}
	}
}

// 4.2: how long a text is stands in one form alone.
func TestReaderTextOfOtherForms(t *testing.T) {
	for _, b := range []string{"\x80\x00", "\x81\x00a", "\x81\x80\x00a", "\x81\x80\x80\x80\x80\x80\x80\x80\x80\x02a"} {
		if x, e := readText([]byte(b)); e != api.ErrCodec {
			t.Errorf("%x: %x, %v", b, x, e)
		}
	}
}

// 4.2: a digest is 32 bytes; of 31 it is none, and of 33 one is left.
func TestReaderDigest(t *testing.T) {
	for n := range 70 {
		d, e := readDigest(text(n))
		if n == 32 {
			if e != api.OK || !bytes.Equal(d[:], text(32)) {
				t.Errorf("32 bytes: %x, %v", d, e)
			}
		} else if e != api.ErrCodec {
			t.Errorf("%d bytes: %v", n, e)
		}
	}
}

// R3: bytes that are read are not changed, nor is what lies behind them; a text is new memory.
func TestReadingIsNewMemory(t *testing.T) {
	whole := roomy([]byte("\x03ann\x03bob\x00"))
	b, kept := whole[:9], bytes.Clone(whole)
	var l [][]byte
	read := func(r *Reader) { l = append(l, r.Text(), r.Text(), r.Text()) }
	if e := Read(b, read); e != api.OK {
		t.Fatal(e)
	}
	for _, x := range l {
		clear(x[:cap(x)])
	}
	want(t, "what was handed in", whole, kept)
	l = nil
	Read(b, read)
	clear(whole)
	if !sameTexts(l, [][]byte{[]byte("ann"), []byte("bob"), nil}) {
		t.Errorf("texts hang on what was handed in: %q", l)
	}
	_ = append(l[0], 'x')
	_ = append(l[2], 'y')
	if !sameTexts(l, [][]byte{[]byte("ann"), []byte("bob"), nil}) {
		t.Errorf("texts share memory: %q", l)
	}
}

// 4.2, P1: reading inside of a reading: each reader throws to its own Read.
func TestReadInsideRead(t *testing.T) {
	inner, e := api.OK, api.OK
	e = Read([]byte{2, 1, 2}, func(r *Reader) {
		x := r.Text()
		inner = Read(x, func(q *Reader) { q.Num() })
	})
	if e != api.OK || inner != api.ErrCodec {
		t.Errorf("the inner one has a byte left: %v, inside %v", e, inner)
	}
	gone := 0
	e = Read([]byte{2, 1, 2}, func(r *Reader) {
		inner = Read(r.Text(), func(q *Reader) { q.Num(); q.Fail(); gone++ })
	})
	if e != api.OK || inner != api.ErrCodec || gone != 0 {
		t.Errorf("the inner one fails: %v, inside %v, %d gone on with", e, inner, gone)
	}
	e = Read([]byte{1}, func(r *Reader) {
		inner = Read([]byte{4, 5}, func(q *Reader) {
			if q.Num() != 4 || r.Num() != 1 || q.Num() != 5 {
				t.Error("two readers at once read otherwise")
			}
		})
	})
	if e != api.OK || inner != api.OK {
		t.Errorf("two readers at once: %v, inside %v", e, inner)
	}
}

// 4.2: a reader that gives up inside of another reading: neither f is gone on with.
func TestOuterReaderGivesUpInside(t *testing.T) {
	for _, read := range []func(r *Reader){(*Reader).Fail, func(r *Reader) { r.Digest() }} {
		gone := 0
		e := Read([]byte{1}, func(r *Reader) {
			Read(nil, func(*Reader) {
				Read([]byte{7}, func(q *Reader) {
					q.Num()
					read(r)
					gone++
				})
				gone++
			})
			gone++
		})
		if e != api.ErrCodec || gone != 0 {
			t.Errorf("%v, %d gone on with", e, gone)
		}
	}
}

// P1: Read does not panic, whatever f does.
func TestReadNeverPanics(t *testing.T) {
	var nobody *Reader
	for what, f := range map[string]func(r *Reader){
		"no f":                    nil,
		"a text":                  func(r *Reader) { panic("a text") },
		"an error":                func(r *Reader) { panic(errors.New("an error")) },
		"an Errno":                func(r *Reader) { panic(api.OK) },
		"nil":                     func(r *Reader) { panic(nil) },
		"the reader":              func(r *Reader) { panic(r) },
		"another reader":          func(r *Reader) { panic(&Reader{}) },
		"an index":                func(r *Reader) { _ = text(len(text(3)))[3:][r.Count(9)] },
		"behind all":              func(r *Reader) { r.Num(); panic("behind all") },
		"no reader":               func(r *Reader) { nobody.Num() },
		"in a deferred call":      func(r *Reader) { defer func() { panic("deferred") }(); r.Num() },
		"in place of what it had": func(r *Reader) { defer func() { recover(); panic("other") }(); r.Fail() },
		"a copy":                  func(r *Reader) { c := *r; c.Fail() },
		"a copy, around nothing":  func(r *Reader) { *r = Reader{}; r.Fail() },
	} {
		if e := Read([]byte{1}, f); e != api.ErrCodec {
			t.Errorf("%s: %v", what, e)
		}
	}
}

// P1: what was thrown in one reading and is thrown again in another one is caught there.
func TestOldThrowIsCaught(t *testing.T) {
	var old any
	Read(nil, func(r *Reader) {
		defer func() { old = recover() }()
		r.Fail()
	})
	if old == nil {
		t.Fatal("nothing was thrown")
	}
	if e := Read(nil, func(r *Reader) { panic(old) }); e != api.ErrCodec {
		t.Error(e)
	}
}

// P1: a reader behind its Read, a copy of one, and one that Read never made throw nothing; and they have nothing of the bytes any more.
func TestReaderWithoutRead(t *testing.T) {
	readers := []*Reader{{}}
	keep := func(r *Reader) {
		c := *r
		readers = append(readers, r, &c)
	}
	Read(nil, keep)
	Read(bytes.Repeat([]byte{1}, 80), keep)
	Read([]byte{3, 3}, func(r *Reader) { keep(r); r.Num(); r.Fail() })
	if len(readers) != 7 {
		t.Fatalf("%d readers", len(readers))
	}
	for i, r := range readers {
		for range 2 {
			if n := r.Num(); n != 0 {
				t.Errorf("reader %d: a number %d", i, n)
			}
			if n := r.Count(300) + r.Count(0) + r.Count(-1) + r.Count(math.MinInt); n != 0 {
				t.Errorf("reader %d: a count %d", i, n)
			}
			if x := r.Text(); len(x) != 0 {
				t.Errorf("reader %d: a text %x", i, x)
			}
			if d := r.Digest(); d != (api.Digest{}) {
				t.Errorf("reader %d: a digest %x", i, d)
			}
			r.Fail()
		}
	}
}

// P7: one reading says nothing of the next.
func TestReadingsAreAlike(t *testing.T) {
	for range 3 {
		if n, e := readNum([]byte{0xac, 2}); n != 300 || e != api.OK {
			t.Errorf("%d, %v", n, e)
		}
		if _, e := readNum([]byte{0xac}); e != api.ErrCodec {
			t.Error(e)
		}
	}
}

// 4.3: the chapter's examples, and lists written out.
func TestListsWrittenOut(t *testing.T) {
	want(t, "5, 300", Nums([]uint64{5, 300}), []byte{2, 5, 0xac, 2})
	want(t, "no numbers", Nums(nil), []byte{0})
	want(t, "no numbers, not nil", Nums([]uint64{}), []byte{0})
	want(t, "a nought", Nums([]uint64{0}), []byte{1, 0})
	want(t, "ann, nothing, b", Texts([][]byte{[]byte("ann"), nil, []byte("b")}), []byte("\x03\x03ann\x00\x01b"))
	want(t, "no texts", Texts(nil), []byte{0})
	want(t, "no texts, not nil", Texts([][]byte{}), []byte{0})
	want(t, "a text of no byte", Texts([][]byte{{}}), []byte{1, 0})
	if l, e := ReadNums([]byte{2, 5, 0xac, 2}); e != api.OK || !slices.Equal(l, []uint64{5, 300}) {
		t.Errorf("%v, %v", l, e)
	}
	if l, e := ReadTexts([]byte("\x03\x03ann\x00\x01b")); e != api.OK || !sameTexts(l, [][]byte{[]byte("ann"), nil, []byte("b")}) {
		t.Errorf("%q, %v", l, e)
	}
}

// 4.3: bytes that are no list: beside the error there is nothing.
func TestNoLists(t *testing.T) {
	for _, b := range []string{
		"", "\x01\x80\x00", "\x01", "\x02\x01", "\x00\x00", "\x01\x05\x00", "\x80", "\x80\x00", "\x82\x00\x01\x01", "\x01\x80", "\x02\x01\x80",
		"\x01\xff\xff\xff\xff\xff\xff\xff\xff\xff\x02", "\xff\xff\xff\xff\xff\xff\xff\xff\xff\x01", "\x03\x01\x01",
	} {
		if l, e := ReadNums([]byte(b)); e != api.ErrCodec || len(l) != 0 {
			t.Errorf("numbers of %x: %v, %v", b, l, e)
		}
	}
	for _, b := range []string{
		"", "\x01", "\x01\x01", "\x01\x02a", "\x00\x00", "\x01\x01ab", "\x02\x01a", "\x02\x01a\x01", "\x80\x00", "\x81\x00\x01a", "\x01\x81\x00a",
		"\xff\xff\xff\xff\xff\xff\xff\xff\xff\x01", "\x01\xff\xff\xff\xff\xff\xff\xff\xff\xff\x01", "\x03\x01a\x01b\x80\x00",
	} {
		if l, e := ReadTexts([]byte(b)); e != api.ErrCodec || len(l) != 0 {
			t.Errorf("texts of %x: %q, %v", b, l, e)
		}
	}
}

// 4.3, 4.4: lists of 4096 are read; of one more they are written, but not read.
func TestListsAtMost(t *testing.T) {
	for _, n := range []int{0, 1, 127, 128, 129, api.MaxParts - 1, api.MaxParts, api.MaxParts + 1, 2 * api.MaxParts} {
		var nums []uint64
		var texts [][]byte
		askedNums, askedTexts := inWords(uint64(n)), inWords(uint64(n))
		for i := range n {
			nums = append(nums, uint64(i)*uint64(i)*0x10001)
			texts = append(texts, text(i%150))
			askedNums = append(askedNums, inWords(nums[i])...)
			askedTexts = append(append(askedTexts, inWords(uint64(i%150))...), texts[i]...)
		}
		if !bytes.Equal(Nums(nums), askedNums) || !bytes.Equal(Texts(texts), askedTexts) {
			t.Errorf("%d parts: not how many and each", n)
		}
		l, e := ReadNums(askedNums)
		m, f := ReadTexts(askedTexts)
		if n <= api.MaxParts {
			if e != api.OK || f != api.OK || !slices.Equal(l, nums) || !sameTexts(m, texts) {
				t.Errorf("%d parts: %d numbers, %v; %d texts, %v", n, len(l), e, len(m), f)
			}
		} else if e != api.ErrCodec || f != api.ErrCodec || len(l) != 0 || len(m) != 0 {
			t.Errorf("%d parts: %d numbers, %v; %d texts, %v", n, len(l), e, len(m), f)
		}
	}
}

// 4.3: texts of 2^20 bytes in a list are read, of one more they are not.
func TestListsOfLongTexts(t *testing.T) {
	for _, n := range lengths() {
		l := [][]byte{text(3), text(n), nil, text(n)}
		if got, e := ReadTexts(Texts(l)); e != api.OK || !sameTexts(got, l) {
			t.Errorf("texts of %d bytes: %d texts, %v", n, len(got), e)
		}
	}
	for at := range 3 {
		l := [][]byte{text(3), text(4), text(5)}
		l[at] = text(api.MaxBytes + 1)
		if got, e := ReadTexts(Texts(l)); e != api.ErrCodec || len(got) != 0 {
			t.Errorf("the text %d a byte too long: %d texts, %v", at, len(got), e)
		}
	}
}

// 4.3, 4.4: all rows of at most two bytes, and of at most five out of some: what is read is written as the bytes that it was.
func TestListsOfAllBytes(t *testing.T) {
	check := func(b []byte) {
		nums, ok := parseNums(b)
		l, e := ReadNums(b)
		if ok != (e == api.OK) || e != api.OK && (e != api.ErrCodec || len(l) != 0) {
			t.Fatalf("%x: %v, %v, are they numbers: %v", b, l, e, ok)
		}
		if ok && (!slices.Equal(l, nums) || !bytes.Equal(Nums(l), b)) {
			t.Fatalf("%x: %v, want %v, which are %x", b, l, nums, Nums(l))
		}
		texts, ok := parseTexts(b)
		m, e := ReadTexts(b)
		if ok != (e == api.OK) || e != api.OK && (e != api.ErrCodec || len(m) != 0) {
			t.Fatalf("%x: %x, %v, are they texts: %v", b, m, e, ok)
		}
		if ok && (!sameTexts(m, texts) || !bytes.Equal(Texts(m), b)) {
			t.Fatalf("%x: %x, want %x, which are %x", b, m, texts, Texts(m))
		}
	}
	all(everyByte(), 2, check)
	all(edgeBytes(), 5, check)
}

// 4.4: numbers and texts around each edge, in one list: written, they are read as what they were; cut short, or with more behind them, they are none.
func TestListsThereAndBack(t *testing.T) {
	nums := numbers()
	texts := [][]byte{nil, text(1), text(127), text(128), nil, text(300), {0}, {0x80}, {0xff, 0xff}}
	a, b := Nums(nums), Texts(texts)
	if l, e := ReadNums(a); e != api.OK || !slices.Equal(l, nums) {
		t.Errorf("%v, %v", l, e)
	}
	if l, e := ReadTexts(b); e != api.OK || !sameTexts(l, texts) {
		t.Errorf("%x, %v", l, e)
	}
	for n := range len(a) {
		if l, e := ReadNums(a[:n]); e != api.ErrCodec || len(l) != 0 {
			t.Fatalf("%d of %d bytes: %v, %v", n, len(a), l, e)
		}
	}
	for n := range len(b) {
		if l, e := ReadTexts(b[:n]); e != api.ErrCodec || len(l) != 0 {
			t.Fatalf("%d of %d bytes: %x, %v", n, len(b), l, e)
		}
	}
	for c := range 256 {
		if l, e := ReadNums(append(bytes.Clone(a), byte(c))); e != api.ErrCodec || len(l) != 0 {
			t.Errorf("%x behind numbers: %v, %v", c, l, e)
		}
		if l, e := ReadTexts(append(bytes.Clone(b), byte(c))); e != api.ErrCodec || len(l) != 0 {
			t.Errorf("%x behind texts: %x, %v", c, l, e)
		}
	}
}

// lists is every list of at most n parts out of some.
func lists[T any](some []T, n int) [][]T {
	out := [][]T{nil}
	last := out
	for range n {
		var longer [][]T
		for _, l := range last {
			for _, part := range some {
				longer = append(longer, append(slices.Clone(l), part))
			}
		}
		out, last = append(out, longer...), longer
	}
	return out
}

// 4.4: unlike things have unlike bytes, and none's bytes begin another one's of their kind.
func TestUnlikeThings(t *testing.T) {
	once := map[string]string{}
	seen := func(kind, what string, b []byte) {
		t.Helper()
		key := kind + string(b)
		if other, there := once[key]; there && other != what {
			t.Errorf("%s: %x is %s and %s", kind, b, other, what)
		}
		once[key] = what
	}
	for _, l := range lists([]uint64{0, 1, 2, 127, 128, 300, math.MaxUint64}, 4) {
		var words []string
		for _, n := range l {
			words = append(words, strconv.FormatUint(n, 10))
		}
		seen("numbers ", strings.Join(words, " "), Nums(l))
	}
	for _, l := range lists([][]byte{nil, {0}, {1}, {1, 0}, {0, 1}, {1, 1, 1}}, 4) {
		var words []string
		for _, x := range l {
			words = append(words, strconv.Quote(string(x)))
		}
		seen("texts ", strings.Join(words, " "), Texts(l))
	}
	for _, n := range numbers() {
		seen("number ", strconv.FormatUint(n, 10), Num(nil, n))
	}
	for first := range 256 {
		d := digest(byte(first))
		seen("digest ", string(d[:]), Digest(nil, d))
	}
	for n := range uint64(20000) {
		b := Num(nil, n)
		for size := 1; size < len(b); size++ {
			if _, e := readNum(b[:size]); e != api.ErrCodec {
				t.Fatalf("%d: its first %d bytes are a number, too", n, size)
			}
		}
	}
}

// 4.4: texts of the same bytes all in all, cut in other places, have unlike bytes.
func TestTextsCutElsewhere(t *testing.T) {
	whole := text(200)
	once := map[string]int{}
	for at := range len(whole) + 1 {
		b := string(Text(Text(nil, whole[:at]), whole[at:]))
		if other, there := once[b]; there {
			t.Errorf("cut at %d and at %d: the same", other, at)
		}
		once[b] = at
	}
}

// R3: lists that are read are new memory, each part of it its own; what is handed in stays, and what lies behind it is not read.
func TestListsAreNewMemory(t *testing.T) {
	wholeTexts := roomy([]byte("\x03\x03ann\x02bo\x00"))
	b, kept := wholeTexts[:9], bytes.Clone(wholeTexts)
	l, e := ReadTexts(b)
	if e != api.OK {
		t.Fatal(e)
	}
	for i := range l {
		_ = append(l[i], "xyz"...)
		clear(l[i])
		if i < 2 && len(l[i+1]) > 0 && l[i+1][0] == 0 {
			t.Error("two texts share memory")
		}
	}
	want(t, "what was handed in", wholeTexts, kept)
	again, _ := ReadTexts(b)
	clear(wholeTexts)
	if !sameTexts(again, [][]byte{[]byte("ann"), []byte("bo"), nil}) {
		t.Errorf("texts hang on what was handed in: %q", again)
	}
	wholeNums := roomy([]byte("\x02\x05\xac\x02"))
	nums, e := ReadNums(wholeNums[:4])
	clear(wholeNums)
	if e != api.OK || !slices.Equal(nums, []uint64{5, 300}) {
		t.Errorf("%v, %v", nums, e)
	}
	// The byte that is missing lies behind the length, and must not be found there.
	if l, e := ReadNums([]byte{2, 5, 6}[:2]); e != api.ErrCodec || len(l) != 0 {
		t.Errorf("%v, %v", l, e)
	}
	if l, e := ReadTexts([]byte{1, 2, 5, 6}[:3]); e != api.ErrCodec || len(l) != 0 {
		t.Errorf("%x, %v", l, e)
	}
}

// FuzzLists: whatever bytes come: read in just the way in which they are written.
func FuzzLists(f *testing.F) {
	for _, b := range []string{"", "\x00", "\x02\x05\xac\x02", "\x01\x80\x00", "\x03\x03ann\x00\x01b"} {
		f.Add([]byte(b))
	}
	f.Fuzz(func(t *testing.T, b []byte) {
		nums, ok := parseNums(b)
		if l, e := ReadNums(b); ok != (e == api.OK) || !slices.Equal(l, nums) && ok || ok && !bytes.Equal(Nums(l), b) {
			t.Errorf("%x: %v, %v, want %v", b, l, e, nums)
		}
		texts, ok := parseTexts(b)
		if l, e := ReadTexts(b); ok != (e == api.OK) || !sameTexts(l, texts) && ok || ok && !bytes.Equal(Texts(l), b) {
			t.Errorf("%x: %x, %v, want %x", b, l, e, texts)
		}
	})
}
