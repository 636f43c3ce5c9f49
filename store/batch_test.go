package store

import (
	"bytes"
	"encoding/binary"
	"encoding/hex"
	"fmt"
	"math"
	"math/rand/v2"
	"slices"
	"strings"
	"testing"

	"blazon/api"
)

// put is an act that sets a key.
func put(key, data string) api.Act {
	return api.Act{Key: key, Set: true, Data: []byte(data)}
}

// gone is an act that takes a key away.
func gone(key string) api.Act {
	return api.Act{Key: key}
}

// acts is a batch, to be written shortly.
func acts(l ...api.Act) []api.Act {
	return l
}

// long is a text of so many bytes, none of them 0.
func long(size int) string {
	b := make([]byte, size)
	for i := range b {
		b[i] = byte(i%251) + 1
	}
	return string(b)
}

// many is acts that set so many keys, each to that text.
func many(n int, data string) (l []api.Act) {
	for i := range n {
		l = append(l, put(fmt.Sprintf("%05d", i), data))
	}
	return l
}

// taken is acts that take the keys of others away.
func taken(l []api.Act) (t []api.Act) {
	for _, a := range l {
		t = append(t, gone(a.Key))
	}
	return t
}

// brief is acts to be read: the first ones, and how long their texts are.
func brief(l []api.Act) string {
	s := fmt.Sprintf("%d acts", len(l))
	for _, a := range l[:min(len(l), 6)] {
		s += fmt.Sprintf(" %.20q %v %d", a.Key, a.Set, len(a.Data))
	}
	return s
}

// own is acts in memory of their own.
func own(l []api.Act) []api.Act {
	c := slices.Clone(l)
	for i := range c {
		c[i].Data = bytes.Clone(c[i].Data)
	}
	return c
}

// same tells whether acts are the same; nil is as no bytes.
func same(l, m []api.Act) bool {
	return slices.EqualFunc(l, m, func(a, b api.Act) bool {
		return a.Key == b.Key && a.Set == b.Set && bytes.Equal(a.Data, b.Data)
	})
}

// mayBe is 15.1, as plain as can be.
func mayBe(l []api.Act) bool {
	ok := len(l) <= 4096
	for i, a := range l {
		ok = ok && len(a.Key) >= 1 && len(a.Key) <= 64 && len(a.Data) <= 1048576
		ok = ok && (a.Set || len(a.Data) == 0)
		ok = ok && (i == 0 || bytes.Compare([]byte(l[i-1].Key), []byte(a.Key)) < 0)
	}
	return ok
}

// batchByWords is 15.2, by the library's numbers.
func batchByWords(l []api.Act) []byte {
	b := binary.AppendUvarint(nil, uint64(len(l)))
	for _, a := range l {
		b = binary.AppendUvarint(b, uint64(len(a.Key)))
		b = append(b, a.Key...)
		if !a.Set {
			b = append(b, 0)
			continue
		}
		b = binary.AppendUvarint(append(b, 1), uint64(len(a.Data)))
		b = append(b, a.Data...)
	}
	return b
}

// scan reads bytes by the library's numbers, in whichever form, up to where they are of no use.
type scan struct {
	rest []byte
	bad  bool
}

// number is the next number.
func (s *scan) number() uint64 {
	n, size := binary.Uvarint(s.rest)
	if size <= 0 {
		s.rest, s.bad = nil, true
		return 0
	}
	s.rest = s.rest[size:]
	return n
}

// text is the next text.
func (s *scan) text() string {
	n := s.number()
	if n > uint64(len(s.rest)) {
		s.rest, s.bad = nil, true
		return ""
	}
	text := string(s.rest[:n])
	s.rest = s.rest[n:]
	return text
}

// readByWords is 15.2: the batch that may be of which b is that, if there is one.
func readByWords(b []byte) ([]api.Act, bool) {
	s := &scan{rest: b}
	var l []api.Act
	for n := s.number(); n > 0 && !s.bad; n-- {
		a := api.Act{Key: s.text()}
		if s.number() == 1 {
			a.Set, a.Data = true, []byte(s.text())
		}
		l = append(l, a)
	}
	if s.bad || !mayBe(l) || !bytes.Equal(batchByWords(l), b) {
		return nil, false
	}
	return l, true
}

// mustCheck is of a batch that must be answered so, and again; it stays as it was.
func mustCheck(t *testing.T, name string, l []api.Act, want api.Errno) {
	t.Helper()
	was := own(l)
	for range 2 {
		if got := Check(l); got != want {
			t.Errorf("Check of %s: %v, want %v", name, got, want)
		}
	}
	if !same(l, was) {
		t.Errorf("Check of %s: what was handed in is another thing", name)
	}
	if (want == api.OK) != mayBe(l) {
		t.Errorf("%s: the chapter's words say otherwise", name)
	}
}

// mustWrite is of a batch whose bytes must be those of the chapter's words, and again; it stays as it was.
func mustWrite(t *testing.T, name string, l []api.Act) []byte {
	t.Helper()
	was, want := own(l), batchByWords(l)
	for range 2 {
		if got := Batch(l); !bytes.Equal(got, want) {
			t.Errorf("Batch of %s: %d bytes %.40x, want %d bytes %.40x", name, len(got), got, len(want), want)
		}
	}
	if !same(l, was) {
		t.Errorf("Batch of %s: what was handed in is another thing", name)
	}
	return want
}

// mustRead is of bytes that must be read as what the chapter's words say, and again; they stay as they were.
func mustRead(t *testing.T, name string, b []byte) {
	t.Helper()
	was := bytes.Clone(b)
	want, ok := readByWords(b)
	for range 2 {
		l, e := ReadBatch(b)
		if ok && (e != api.OK || !same(l, want)) || !ok && (e != api.ErrCodec || len(l) != 0) {
			t.Errorf("ReadBatch of %s: %s, %v, want %v, %s", name, brief(l), e, ok, brief(want))
		}
	}
	if !bytes.Equal(b, was) {
		t.Errorf("ReadBatch of %s: what was handed in is another thing", name)
	}
}

// mustNotRead is of bytes that must be refused: nothing is told beside the error.
func mustNotRead(t *testing.T, name string, b []byte) {
	t.Helper()
	mustRead(t, name, b)
	if l, e := ReadBatch(b); e != api.ErrCodec || len(l) != 0 {
		t.Errorf("ReadBatch of %s: %d acts, %v", name, len(l), e)
	}
}

// named is a batch with a name.
type named struct {
	name string
	l    []api.Act
}

// thoseThatMayBe is batches of all kinds that may be.
func thoseThatMayBe() []named {
	key, text := strings.Repeat("k", 64), strings.Repeat("t", 1<<20)
	return []named{
		{"nil", nil},
		{"no acts", []api.Act{}},
		{"one that sets", acts(put("a", "x"))},
		{"one that takes away", acts(gone("a"))},
		{"one that takes away, with a list of no bytes", acts(api.Act{Key: "a", Data: []byte{}})},
		{"one that sets nil", acts(api.Act{Key: "a", Set: true})},
		{"one that sets no bytes", acts(put("a", ""))},
		{"the example", acts(put("a", "x"), gone("b"))},
		{"rising ones", acts(gone("a"), put("b", "1"), gone("c"), put("d", "2"))},
		{"one being the other's beginning", acts(put("a", "1"), put("aa", "2"), gone("aaa"))},
		{"one with a nought behind", acts(put("a", "1"), gone("a\x00"), put("a\x00\x00", "2"))},
		{"noughts", acts(gone("\x00"), put("\x00\x00", "\x00"))},
		{"bytes, not letters", acts(gone("\x00"), gone("\x01"), gone("A"), gone("Z"), gone("a"), gone("z"), gone("\x7f"), gone("\x80"), gone("\xc3\xa9"), gone("\xff"), gone("\xff\xff"))},
		{"digits, not numbers", acts(gone("1"), gone("10"), gone("2"), gone("20"))},
		{"a great byte ahead of a small one", acts(gone("a\xff"), gone("b\x00"))},
		{"unlike at the last byte alone", acts(gone(key[:63]+"a"), gone(key[:63]+"b"), gone(key[:63]+"c"))},
		{"a key of 1 byte", acts(put("\xff", "x"))},
		{"a key of 63", acts(put(key[:63], "x"))},
		{"a key of 64", acts(put(key, "x"))},
		{"a key of 64, taken away", acts(gone(key))},
		{"data of 127", acts(put("a", text[:127]))},
		{"data of 128", acts(put("a", text[:128]))},
		{"data of 2^20 - 1", acts(put("a", text[:1<<20-1]))},
		{"data of 2^20", acts(put("a", text))},
		{"data of 2^20 twice", acts(put("a", text), gone("b"), put("c", text))},
		{"127 acts", many(127, "x")},
		{"128 acts", many(128, "x")},
		{"4095 acts", many(4095, "x")},
		{"4096 acts", many(4096, "x")},
		{"4096 acts that take away", taken(many(4096, ""))},
	}
}

// thoseThatMayNot is batches of all kinds that may not be.
func thoseThatMayNot() []named {
	key, text := strings.Repeat("k", 65), strings.Repeat("t", 1<<20+1)
	return []named{
		{"4097 acts", many(4097, "")},
		{"4097 acts that take away", taken(many(4097, ""))},
		{"5000 acts", many(5000, "x")},
		{"one twice", acts(put("a", "x"), put("a", "x"))},
		{"one twice, with unlike texts", acts(put("a", "x"), put("a", "y"))},
		{"one set and taken away", acts(put("a", "x"), gone("a"))},
		{"one taken away and set", acts(gone("a"), put("a", "x"))},
		{"one taken away twice", acts(gone("a"), gone("a"))},
		{"falling ones", acts(put("b", "x"), put("a", "x"))},
		{"falling at the end", acts(gone("a"), gone("b"), gone("d"), gone("c"))},
		{"falling at the beginning", acts(gone("b"), gone("a"), gone("c"), gone("d"))},
		{"one again behind another", acts(put("a", "x"), put("b", "x"), put("a", "x"))},
		{"the other's beginning behind it", acts(put("aa", "x"), put("a", "x"))},
		{"a nought behind, ahead of it", acts(gone("a\x00"), gone("a"))},
		{"a byte above 127 ahead of one below", acts(gone("\x80"), gone("\x7f"))},
		{"numbers, not digits", acts(gone("9"), gone("10"))},
		{"letters, not bytes", acts(gone("a"), gone("B"))},
		{"a key of no bytes", acts(put("", "x"))},
		{"a key of no bytes, taken away", acts(gone(""))},
		{"a key of no bytes ahead of others", acts(gone(""), gone("a"))},
		{"a key of no bytes behind another", acts(gone("a"), gone(""))},
		{"the zero act", make([]api.Act, 1)},
		{"zero acts", make([]api.Act, 3)},
		{"a key of 65", acts(put(key, "x"))},
		{"a key of 65, taken away", acts(gone(key))},
		{"a key of 65 behind others", acts(gone("a"), gone("b"), gone(key))},
		{"a key of 65 ahead of others", acts(gone(key), gone("l"))},
		{"a key of 128", acts(gone(key + key[:63]))},
		{"a long key", acts(gone(text))},
		{"data of 2^20 + 1", acts(put("a", text))},
		{"data of 2^20 + 1 behind others", acts(put("a", "x"), gone("b"), put("c", text))},
		{"data where it does not set", acts(api.Act{Key: "a", Data: []byte("x")})},
		{"data of a nought where it does not set", acts(api.Act{Key: "a", Data: []byte{0}})},
		{"data where it does not set, behind others", acts(put("a", "x"), gone("b"), api.Act{Key: "c", Data: []byte("x")})},
		{"long data where it does not set", acts(api.Act{Key: "a", Data: []byte(text)})},
	}
}

// 15.1: which batches may be.
func TestCheck(t *testing.T) {
	for _, c := range thoseThatMayBe() {
		mustCheck(t, c.name, c.l, api.OK)
	}
	for _, c := range thoseThatMayNot() {
		mustCheck(t, c.name, c.l, api.ErrArg)
	}
}

// 15.1: one bad act is found at each place, whatever the others are.
func TestCheckAtEach(t *testing.T) {
	for at := range 50 {
		for name, turn := range map[string]func(l []api.Act){
			"no key":       func(l []api.Act) { l[at].Key = "" },
			"a long key":   func(l []api.Act) { l[at].Key += strings.Repeat("0", 60) },
			"long data":    func(l []api.Act) { l[at].Data = make([]byte, 1<<20+1) },
			"data":         func(l []api.Act) { l[at].Set = false },
			"one twice":    func(l []api.Act) { l[at].Key = l[(at+1)%50].Key },
			"all the same": func(l []api.Act) { l[at].Key, l[(at+49)%50].Key = "x", "x" },
		} {
			l := many(50, "x")
			mustCheck(t, "as it was", l, api.OK)
			turn(l)
			mustCheck(t, fmt.Sprintf("%s at %d", name, at), l, api.ErrArg)
		}
	}
}

// someActs is acts like chance, mostly such as may be.
func someActs(chance *rand.Rand, keys, most int) (l []api.Act) {
	for range chance.IntN(6) {
		key := long(chance.IntN(3)) + string(rune('a'+chance.IntN(keys)))
		if chance.IntN(3) == 0 {
			l = append(l, gone(key))
			continue
		}
		l = append(l, put(key, long(chance.IntN(most+1))))
	}
	if chance.IntN(10) > 0 {
		slices.SortFunc(l, func(a, b api.Act) int { return strings.Compare(a.Key, b.Key) })
	}
	if chance.IntN(10) > 0 {
		l = slices.CompactFunc(l, func(a, b api.Act) bool { return a.Key == b.Key })
	}
	if len(l) > 0 && chance.IntN(15) == 0 {
		l[chance.IntN(len(l))] = []api.Act{gone(""), gone(long(65)), {Key: "q", Data: []byte("x")}}[chance.IntN(3)]
	}
	return l
}

// 15.1, 15.2: many batches like chance, held against the chapter's words, and what is written is read as what it was.
func TestLikeChance(t *testing.T) {
	chance := rand.New(rand.NewPCG(15, 1))
	good := 0
	for i := range 20000 {
		l := someActs(chance, 26, 300)
		name := fmt.Sprintf("row %d, %s", i, brief(l))
		want := api.ErrArg
		if mayBe(l) {
			want = api.OK
			good++
		}
		mustCheck(t, name, l, want)
		b := mustWrite(t, name, l)
		mustRead(t, name, b)
		if read, e := ReadBatch(b); want == api.OK && (e != api.OK || !same(read, l)) {
			t.Errorf("%s: read as %s, %v", name, brief(read), e)
		}
	}
	if good < 10000 || good > 19000 {
		t.Errorf("%d may be: the rows are of one kind", good)
	}
}

// 15.2: the chapter's example, and others as they were worked out by hand.
func TestBatch(t *testing.T) {
	for _, c := range []struct {
		l    []api.Act
		want string
	}{
		{nil, "00"},
		{[]api.Act{}, "00"},
		{acts(put("a", "x"), gone("b")), "0201610101780162" + "00"},
		{acts(put("a", "")), "0101610100"},
		{acts(api.Act{Key: "a", Set: true}), "0101610100"},
		{acts(gone("a")), "01016100"},
		{acts(gone("\x00"), put("\xff", "\x00\x01")), "02010000" + "01ff01020001"},
		{acts(put("abc", "xyz")), "01036162630103" + "78797a"},
		{acts(put("a", strings.Repeat("x", 127))), "010161017f" + strings.Repeat("78", 127)},
		{acts(put("a", strings.Repeat("x", 300))), "01016101ac02" + strings.Repeat("78", 300)},
		{acts(put("a", strings.Repeat("x", 1<<14))), "01016101808001" + strings.Repeat("78", 1<<14)},
		{acts(gone(strings.Repeat("k", 64))), "0140" + strings.Repeat("6b", 64) + "00"},
		// And such as may not be.
		{acts(gone("b"), gone("a"), gone("a")), "03016200" + "016100" + "016100"},
		{make([]api.Act, 2), "02" + "0000" + "0000"},
		{acts(put("", "")), "01000100"},
		{acts(api.Act{Key: "a", Data: []byte("x")}), "01016100"},
		{acts(api.Act{Key: "a", Data: []byte("x")}, put("a", "x")), "02016100" + "0161010178"},
		{acts(gone(strings.Repeat("k", 200))), "01c801" + strings.Repeat("6b", 200) + "00"},
		{make([]api.Act, 300), "ac02" + strings.Repeat("0000", 300)},
		{make([]api.Act, 4097), "8120" + strings.Repeat("0000", 4097)},
	} {
		if got := hex.EncodeToString(Batch(c.l)); got != c.want {
			t.Errorf("Batch of %s: %.80s, want %.80s", brief(c.l), got, c.want)
		}
	}
}

// 15.2: batches of all kinds, such as may not be, too, are written by the chapter's words; those alone that may be are read.
func TestBatchByWords(t *testing.T) {
	for _, c := range thoseThatMayBe() {
		b := mustWrite(t, c.name, c.l)
		if l, e := ReadBatch(b); e != api.OK || !same(l, c.l) {
			t.Errorf("%s: it is read as another thing, %v", c.name, e)
		}
	}
	for _, c := range thoseThatMayNot() {
		b := mustWrite(t, c.name, c.l)
		if strings.Contains(c.name, "data where it does not set") || strings.Contains(c.name, "data of a nought") {
			continue // the data is not written: what is left may be
		}
		mustNotRead(t, c.name, b)
	}
}

// 15.2: what is inside of a batch is not bounded by what may be read: data that is longer, and what lies in one memory.
func TestBatchShared(t *testing.T) {
	text := []byte(long(1 << 20))
	l := many(20, "")
	for i := range l {
		l[i].Data = text[i:]
	}
	mustRead(t, "twenty in one memory", mustWrite(t, "twenty in one memory", l))
}

// 15.2: no bytes are no batch; one nought is that of no acts.
func TestReadNone(t *testing.T) {
	mustNotRead(t, "nil", nil)
	mustNotRead(t, "no bytes", []byte{})
	for v := range 256 {
		mustRead(t, fmt.Sprintf("the byte %d", v), []byte{byte(v)})
	}
	if l, e := ReadBatch([]byte{0}); e != api.OK || len(l) != 0 {
		t.Errorf("ReadBatch of a nought: %v, %v", l, e)
	}
}

// 15.2: a byte less, or more, is another thing; so is a piece at either end.
func TestReadCut(t *testing.T) {
	for _, c := range thoseThatMayBe() {
		b := batchByWords(c.l)
		for v := range 256 {
			mustNotRead(t, c.name+", with a byte more", append(slices.Clip(b), byte(v)))
			if len(b) > 1<<10 {
				break
			}
		}
		if len(b) > 1<<10 {
			mustNotRead(t, c.name+", with a byte less", b[:len(b)-1])
			continue
		}
		for size := range b {
			mustNotRead(t, fmt.Sprintf("%s, %d bytes of it", c.name, size), b[:size])
		}
	}
	b := batchByWords(acts(put("a", "x")))
	mustNotRead(t, "one twice", append(slices.Clip(b), b...))
}

// 15.2: wherever a byte is turned, whatever it is then: it is read as what the chapter's words say, or refused.
func TestReadTurned(t *testing.T) {
	for _, l := range [][]api.Act{
		nil, acts(gone("a")), acts(put("a", "")), acts(put("a", "x"), gone("b")), acts(put("a", "x"), gone("aa"), put("c", long(20))), acts(put("b", long(130)), put("c", "\x00\x01\x02")), many(130, "")[:9],
	} {
		b := batchByWords(l)
		for at := range b {
			for turn := 1; turn < 256; turn++ {
				c := bytes.Clone(b)
				c[at] ^= byte(turn)
				mustRead(t, fmt.Sprintf("%x", c), c)
				if m, e := ReadBatch(c); e == api.OK && same(m, l) {
					t.Errorf("%x and %x are read as the same", b, c)
				}
			}
		}
	}
}

// 15.2: bytes like chance, near to such as a batch has.
func TestReadLikeChance(t *testing.T) {
	chance := rand.New(rand.NewPCG(15, 2))
	read := 0
	for range 60000 {
		b := batchByWords(someActs(chance, 4, 9))
		for range chance.IntN(3) {
			at := chance.IntN(len(b))
			switch chance.IntN(4) {
			case 0:
				b[at] = byte(chance.IntN(4))
			case 1:
				b = slices.Delete(b, at, at+1)
			case 2:
				b = slices.Insert(b, at, byte(chance.IntN(4)))
			case 3:
				b[at] ^= 1 << chance.IntN(8)
			}
			if len(b) == 0 {
				break
			}
		}
		mustRead(t, fmt.Sprintf("%x", b), b)
		if _, e := ReadBatch(b); e == api.OK {
			read++
		}
	}
	if read < 5000 || read > 50000 {
		t.Errorf("%d are batches: the rows are of one kind", read)
	}
}

// 15.2: a number of acts that is too great, with and without the acts.
func TestReadTooMany(t *testing.T) {
	mustNotRead(t, "4097 acts", batchByWords(many(4097, "x")))
	mustNotRead(t, "4097 acts that take away", batchByWords(taken(many(4097, ""))))
	one := batchByWords(acts(put("a", "x")))[1:]
	for _, n := range []uint64{0, 2, 127, 128, 4096, 4097, 1 << 31, 1 << 32, 1<<32 + 1, 1 << 63, 1<<63 + 1, math.MaxUint64} {
		mustNotRead(t, fmt.Sprintf("%d acts, of which one is there", n), append(binary.AppendUvarint(nil, n), one...))
		if n > 0 {
			mustNotRead(t, fmt.Sprintf("%d acts, of which none is there", n), binary.AppendUvarint(nil, n))
		}
	}
	mustNotRead(t, "2^64 + 1 acts", append([]byte{0x81, 0x80, 0x80, 0x80, 0x80, 0x80, 0x80, 0x80, 0x80, 0x02}, one...))
	mustNotRead(t, "a number without end", bytes.Repeat([]byte{0x80}, 1000))
}

// 15.2: numbers that are not in their shortest form, at each place where one stands.
func TestReadNotShortest(t *testing.T) {
	for _, c := range []struct{ good, bad string }{
		{"00", "8000"}, {"00", "808000"},
		{"01016100", "8100016100"}, {"01016100", "01810061" + "00"}, {"01016100", "010161" + "8000"},
		{"0101610101" + "78", "01016181000178"}, {"010161010178", "010161018100" + "78"}, {"0101610100", "01016101" + "8000"},
		{"010161010178", "01016101818000" + "78"},
	} {
		good, _ := hex.DecodeString(c.good)
		bad, _ := hex.DecodeString(c.bad)
		if l, e := ReadBatch(good); e != api.OK {
			t.Errorf("ReadBatch of %s: %v, %v", c.good, l, e)
		}
		mustNotRead(t, c.bad, bad)
	}
}

// 15.2: where a 0 or a 1 must stand nothing else may, in whichever form.
func TestReadNeither(t *testing.T) {
	for _, flag := range []uint64{2, 3, 127, 128, 129, 255, 256, 257, 1 << 32, 1<<32 + 1, 1 << 63, math.MaxUint64} {
		b := binary.AppendUvarint([]byte{1, 1, 'a'}, flag)
		mustNotRead(t, fmt.Sprintf("%d, alone", flag), b)
		mustNotRead(t, fmt.Sprintf("%d, with no bytes", flag), append(slices.Clip(b), 0))
		mustNotRead(t, fmt.Sprintf("%d, with a text", flag), append(slices.Clip(b), 1, 'x'))
	}
	mustNotRead(t, "a 0 with a text", []byte{1, 1, 'a', 0, 1, 'x'})
	mustNotRead(t, "a 0 with no bytes", []byte{1, 1, 'a', 0, 0})
	mustNotRead(t, "a 1 without a text", []byte{1, 1, 'a', 1})
}

// 15.2, R3: bytes, acts and their data lie in memory of their own; what lies behind a length is neither read nor written.
func TestBatchSharesNothing(t *testing.T) {
	data := []byte(long(50))
	l := acts(api.Act{Key: "a", Set: true, Data: data[:3]}, put("b", "y"), put("c", "z"))
	want := batchByWords(l[:2])
	b, other := Batch(l[:2]), Batch(l[:2])
	if !bytes.Equal(b, want) || string(data) != long(50) {
		t.Error("what lies behind a length is read, or written")
	}
	clear(b[:cap(b)])
	if string(data) != long(50) || !bytes.Equal(other, want) {
		t.Error("what was told shares memory")
	}
	clear(data)
	clear(l)
	if !bytes.Equal(other, want) {
		t.Error("what was handed in is kept")
	}
}

// 15.2, R3: what is read shares no memory with the bytes, nor one text with another.
func TestReadSharesNothing(t *testing.T) {
	want := acts(put("a", "xx"), gone("b"), put("c", "yy"), put("d", ""), put("e", "zz"))
	b := append(batchByWords(want), long(20)...)
	was := bytes.Clone(b)
	b = b[:len(b)-20]
	l, e := ReadBatch(b)
	other, _ := ReadBatch(b)
	if e != api.OK || !same(l, want) || !same(other, want) {
		t.Fatalf("%v, %v", l, e)
	}
	for i := range l {
		clear(l[i].Data[:cap(l[i].Data)])
		_ = append(l[i].Data, "more and more and more"...)
		if !same(l[i+1:], want[i+1:]) {
			t.Fatalf("the text at %d shares memory with a later one", i)
		}
	}
	clear(l[:cap(l)])
	if !bytes.Equal(b[:cap(b)][:len(was)], was) || !same(other, want) {
		t.Error("what was read shares memory")
	}
	clear(b)
	if !same(other, want) {
		t.Error("the bytes are kept")
	}
}
