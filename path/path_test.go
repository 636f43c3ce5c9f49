package path

import (
	"bytes"
	"crypto/sha256"
	"fmt"
	"math"
	"slices"
	"strconv"
	"strings"
	"testing"

	"blazon/api"
)

// filled is 32 bytes, all of them that one.
func filled(b byte) api.Digest {
	return api.Digest(bytes.Repeat([]byte{b}, 32))
}

// digests is digests of many sorts: all bits off, all on, on by turns, one of each byte's, one at each place, and some that are like chance.
func digests() []api.Digest {
	l := []api.Digest{{}, {0x80}, {0x81}, {0xff}, {0x7f}, {0, 0x80}, {31: 1}, {31: 0x80}, {30: 1}}
	for _, b := range []byte{0xff, 0xaa, 0x55, 0x80, 0x01, 0x7f, 0xfe, 0xf0, 0x0f} {
		l = append(l, filled(b))
	}
	for i := range 24 {
		l = append(l, chance(i))
	}
	return l
}

// chance is a digest that is like chance, but the same one each time.
func chance(i int) api.Digest {
	return sha256.Sum256([]byte(strconv.Itoa(i)))
}

// noBits is numbers that are no bit's, among them some that are a bit's if they wrap round or lose their sign.
func noBits() []int {
	return []int{-1, -2, -7, -8, -9, -255, -256, -257, 256, 257, 263, 264, 511, 512, 1 << 31, 1<<32 + 1, 1 << 62,
		math.MinInt8, math.MinInt16, math.MinInt32, math.MaxInt16, math.MaxInt32, math.MinInt, math.MinInt + 1, math.MaxInt - 1, math.MaxInt}
}

// inDigits is a digest's bits as the library writes bytes: 256 digits, each 0 or 1.
func inDigits(d api.Digest) string {
	var s strings.Builder
	for _, b := range d {
		fmt.Fprintf(&s, "%08b", b)
	}
	return s.String()
}

// ofDigits is the digest whose bits those digits are.
func ofDigits(s string) api.Digest {
	var d api.Digest
	for i := range d {
		n, err := strconv.ParseUint(s[8*i:8*i+8], 2, 8)
		if err != nil {
			panic(err)
		}
		d[i] = byte(n)
	}
	return d
}

// alone is the digest in which that bit alone is on.
func alone(i int) api.Digest {
	return ofDigits(strings.Repeat("0", i) + "1" + strings.Repeat("0", 255-i))
}

// parted is a digest that has d's bits up to i, the other one at i, and from there on those of another one.
func parted(d, other api.Digest, i int) api.Digest {
	s := inDigits(d)
	turned := "1"
	if s[i] == '1' {
		turned = "0"
	}
	return ofDigits(s[:i] + turned + inDigits(other)[i+1:])
}

// 6.1: the chapter's example.
func TestBitExample(t *testing.T) {
	d := api.Digest{0x80}
	if !Bit(d, 0) {
		t.Error("bit 0 of 80 and noughts is off")
	}
	for i := 1; i < 256; i++ {
		if Bit(d, i) {
			t.Errorf("bit %d of 80 and noughts is on", i)
		}
	}
}

// 6.1: bits are numbered from the first byte's highest one on, byte by byte.
func TestBitIsWhereItStands(t *testing.T) {
	for _, c := range []struct {
		i int
		d api.Digest
	}{
		{0, api.Digest{0x80}}, {1, api.Digest{0x40}}, {2, api.Digest{0x20}}, {3, api.Digest{0x10}},
		{4, api.Digest{8}}, {5, api.Digest{4}}, {6, api.Digest{2}}, {7, api.Digest{1}},
		{8, api.Digest{0, 0x80}}, {9, api.Digest{0, 0x40}}, {15, api.Digest{0, 1}}, {16, api.Digest{0, 0, 0x80}},
		{127, api.Digest{15: 1}}, {128, api.Digest{16: 0x80}}, {247, api.Digest{30: 1}}, {248, api.Digest{31: 0x80}}, {255, api.Digest{31: 1}},
	} {
		for i := range 256 {
			if Bit(c.d, i) != (i == c.i) {
				t.Errorf("bit %d of %x: %v", i, c.d, Bit(c.d, i))
			}
		}
	}
}

// 6.1: each bit of each digest is as its digits say.
func TestBitOfAll(t *testing.T) {
	for _, d := range digests() {
		s := inDigits(d)
		for i := range 256 {
			if Bit(d, i) != (s[i] == '1') {
				t.Errorf("bit %d of %x: %v", i, d, Bit(d, i))
			}
		}
	}
}

// 6.1, P1: of no such bit it is told false, whatever the digest has.
func TestBitOfNoSuch(t *testing.T) {
	for _, d := range digests() {
		for _, i := range noBits() {
			if Bit(d, i) {
				t.Errorf("bit %d of %x is on", i, d)
			}
		}
	}
}

// 6.1: what is set is so, whatever it was; all other bits stay.
func TestSet(t *testing.T) {
	for _, d := range digests() {
		s := inDigits(d)
		for i := range 256 {
			if got, asked := Set(d, i, true), ofDigits(s[:i]+"1"+s[i+1:]); got != asked {
				t.Errorf("bit %d of %x on: %x, want %x", i, d, got, asked)
			}
			if got, asked := Set(d, i, false), ofDigits(s[:i]+"0"+s[i+1:]); got != asked {
				t.Errorf("bit %d of %x off: %x, want %x", i, d, got, asked)
			}
		}
	}
}

// 6.1: what is on already, or off already, is set in vain; what is set to and fro is as it was.
func TestSetTwice(t *testing.T) {
	for _, d := range digests() {
		for _, i := range []int{0, 1, 6, 7, 8, 9, 100, 247, 248, 254, 255} {
			was := Bit(d, i)
			if got := Set(d, i, was); got != d {
				t.Errorf("bit %d of %x is %v already: %x", i, d, was, got)
			}
			other := Set(d, i, !was)
			if other == d || Bit(other, i) == was {
				t.Errorf("bit %d of %x is not turned: %x", i, d, other)
			}
			if got := Set(other, i, !was); got != other {
				t.Errorf("bit %d of %x is %v already: %x", i, other, !was, got)
			}
			if got := Set(other, i, was); got != d {
				t.Errorf("bit %d of %x to and fro: %x", i, d, got)
			}
		}
	}
}

// 6.1, P1: where there is no such bit, the digest stays.
func TestSetNoSuch(t *testing.T) {
	for _, d := range digests() {
		for _, i := range noBits() {
			if Set(d, i, true) != d || Set(d, i, false) != d {
				t.Errorf("bit %d of %x: %x, %x", i, d, Set(d, i, true), Set(d, i, false))
			}
		}
	}
}

// 6.1: Bits goes over all 256 bits, each once, from 0 on, each as it is.
func TestBitsToTheEnd(t *testing.T) {
	for _, d := range digests() {
		s, n := inDigits(d), 0
		for i, on := range Bits(d) {
			if i != n || i > 255 || on != (s[i] == '1') {
				t.Fatalf("%x: at %d there is %d, %v", d, n, i, on)
			}
			n++
		}
		if n != 256 {
			t.Errorf("%x: %d bits", d, n)
		}
	}
}

// 6.1: Bits is left wherever who goes over it will; nothing is yielded behind that.
func TestBitsLeft(t *testing.T) {
	for _, d := range digests() {
		s := inDigits(d)
		for last := range 256 {
			var seen []byte
			Bits(d)(func(i int, on bool) bool {
				if i != len(seen) {
					t.Fatalf("%x, left at %d: %d behind %d", d, last, i, len(seen)-1)
				}
				seen = append(seen, '0')
				if on {
					seen[i] = '1'
				}
				return i != last
			})
			if string(seen) != s[:last+1] {
				t.Errorf("%x, left at %d: %s", d, last, seen)
			}
		}
	}
}

// 6.1: Bits is left by break, by a label around it and by return as by any other loop.
func TestBitsLeftInAllWays(t *testing.T) {
	d := filled(0xa5)
	for _, last := range []int{0, 1, 7, 8, 100, 254, 255} {
		n := 0
		for i := range Bits(d) {
			n++
			if i == last {
				break
			}
		}
		m := 0
	both:
		for i := range Bits(d) {
			for j := range Bits(d) {
				m++
				if i == 1 && j == last {
					break both
				}
			}
		}
		first := func() int {
			for i := range Bits(d) {
				if i == last {
					return i
				}
			}
			return -1
		}()
		if n != last+1 || m != 256+last+1 || first != last {
			t.Errorf("left at %d: %d by break, %d by a label, %d by return", last, n, m, first)
		}
	}
}

// 6.1, P7: one Bits may be gone over again, begun in the midst of itself, and left ahead of that: each time it begins at 0.
func TestBitsAgain(t *testing.T) {
	d := chance(1)
	s, bits := inDigits(d), Bits(d)
	whole := func() string {
		var seen strings.Builder
		for i, on := range bits {
			if i != seen.Len() {
				t.Fatalf("%d at %d", i, seen.Len())
			}
			if on {
				seen.WriteByte('1')
			} else {
				seen.WriteByte('0')
			}
		}
		return seen.String()
	}
	for i := range bits {
		if i == 9 {
			break
		}
	}
	n := 0
	for i, on := range bits {
		if i != n || on != (s[i] == '1') {
			t.Fatalf("%d, %v at %d", i, on, n)
		}
		n++
		if i%50 == 0 && whole() != s {
			t.Errorf("begun in the midst, at %d: %s", i, whole())
		}
	}
	if whole() != s || whole() != s {
		t.Errorf("gone over again: %s", whole())
	}
}

// 6.1, R3: Bits goes over the digest that was handed in, whatever becomes of it.
func TestBitsOfWhatWasHandedIn(t *testing.T) {
	d := filled(0xff)
	bits := Bits(d)
	d = api.Digest{}
	for i, on := range bits {
		if !on {
			t.Fatalf("bit %d is off", i)
		}
		d[i/8] = byte(i)
	}
}

// 6.2: the chapter's examples, and how bits end at a byte's ends.
func TestCommonExamples(t *testing.T) {
	for _, c := range []struct {
		a, b  api.Digest
		asked int
	}{
		{api.Digest{0x80}, api.Digest{0x81}, 7},
		{api.Digest{}, api.Digest{}, 256},
		{filled(0xff), filled(0xff), 256},
		{api.Digest{}, api.Digest{0x80}, 0},
		{api.Digest{}, filled(0xff), 0},
		{api.Digest{}, api.Digest{1}, 7},
		{api.Digest{}, api.Digest{1, 0xff}, 7},
		{api.Digest{}, api.Digest{0, 0x80}, 8},
		{api.Digest{7}, api.Digest{7, 0x40}, 9},
		{api.Digest{7, 9, 30: 1}, api.Digest{7, 9, 30: 0}, 247},
		{filled(0x33), parted(filled(0x33), filled(0x33), 248), 248},
		{api.Digest{}, api.Digest{31: 2}, 254},
		{api.Digest{}, api.Digest{31: 1}, 255},
		{filled(0xff), parted(filled(0xff), filled(0xff), 255), 255},
	} {
		if Common(c.a, c.b) != c.asked || Common(c.b, c.a) != c.asked {
			t.Errorf("%x and %x: %d, %d, want %d", c.a, c.b, Common(c.a, c.b), Common(c.b, c.a), c.asked)
		}
	}
}

// 6.2: two that part at a bit have in common what is ahead of it, whatever is behind it; the same ones all.
func TestCommonUpToWhereTheyPart(t *testing.T) {
	for k, d := range digests() {
		if Common(d, d) != 256 {
			t.Errorf("%x and itself: %d", d, Common(d, d))
		}
		for i := range 256 {
			for _, other := range []api.Digest{d, chance(100 + k), {}, filled(0xff)} {
				o := parted(d, other, i)
				if Common(d, o) != i || Common(o, d) != i {
					t.Errorf("%x and %x: %d, %d, want %d", d, o, Common(d, o), Common(o, d), i)
				}
			}
		}
	}
}

// cuts is numbers of bits: all that there are, and many that there are not.
func cuts() []int {
	l := noBits()
	for n := -3; n <= 260; n++ {
		l = append(l, n)
	}
	return l
}

// kept is how many bits of 256 the first n are.
func kept(n int) int {
	switch {
	case n < 0:
		return 0
	case n > 256:
		return 256
	}
	return n
}

// 6.2: the chapter's example, and the edges.
func TestCutExamples(t *testing.T) {
	ff := filled(0xff)
	for _, c := range []struct {
		n     int
		asked api.Digest
	}{
		{2, api.Digest{0xc0}}, {0, api.Digest{}}, {1, api.Digest{0x80}}, {7, api.Digest{0xfe}}, {8, api.Digest{0xff}}, {9, api.Digest{0xff, 0x80}},
		{255, parted(ff, ff, 255)}, {256, ff}, {257, ff}, {math.MaxInt, ff}, {-1, api.Digest{}}, {-256, api.Digest{}}, {math.MinInt, api.Digest{}},
	} {
		if got := Cut(ff, c.n); got != c.asked {
			t.Errorf("ff.. cut to %d: %x, want %x", c.n, got, c.asked)
		}
	}
}

// 6.2: all bits from n on are off, all ahead of it stay; nothing is ahead of a negative number, all is ahead of one above 256.
func TestCut(t *testing.T) {
	for _, d := range digests() {
		s := inDigits(d)
		for _, n := range cuts() {
			k := kept(n)
			if got, asked := Cut(d, n), ofDigits(s[:k]+strings.Repeat("0", 256-k)); got != asked {
				t.Errorf("%x cut to %d: %x, want %x", d, n, got, asked)
			}
		}
	}
}

// 6.2: Under holds up to where two part, at the same ones up to 256, above that never; at no bits and fewer always.
func TestUnder(t *testing.T) {
	for k, d := range digests() {
		others := []api.Digest{d, {}, filled(0xff), chance(200 + k)}
		for _, i := range []int{0, 1, 7, 8, 9, 127, 128, 247, 248, 254, 255} {
			others = append(others, parted(d, d, i), parted(d, chance(300+k), i), Cut(d, i))
		}
		for _, o := range others {
			digits, prefix := inDigits(d), inDigits(o)
			for _, n := range cuts() {
				if asked := n <= 256 && digits[:kept(n)] == prefix[:kept(n)]; Under(d, o, n) != asked || Under(o, d, n) != asked {
					t.Errorf("%x under %x of %d: %v, %v, want %v", d, o, n, Under(d, o, n), Under(o, d, n), asked)
				}
			}
		}
	}
}

// 6.2: Under at the edges, written out.
func TestUnderEdges(t *testing.T) {
	a := filled(0x5a)
	for _, c := range []struct {
		at, n int // where the other one parts (256: nowhere)
		asked bool
	}{
		{256, 256, true}, {256, 257, false}, {256, math.MaxInt, false}, {256, 0, true}, {256, -1, true},
		{255, 255, true}, {255, 256, false}, {255, 1, true},
		{0, 0, true}, {0, 1, false}, {0, -1, true}, {0, math.MinInt, true}, {1, 1, true}, {1, 2, false},
	} {
		b := a
		if c.at < 256 {
			b = parted(a, a, c.at)
		}
		if Under(a, b, c.n) != c.asked {
			t.Errorf("parted at %d, under of %d: %v", c.at, c.n, !c.asked)
		}
	}
}

// 6.2: what is under a prefix is so of the prefix cut, and of nothing that another bit of it begins with.
func TestUnderAndCut(t *testing.T) {
	for _, d := range digests() {
		for n := range 256 {
			cut := Cut(d, n)
			if !Under(d, cut, n) {
				t.Errorf("%x is not under itself, cut to %d", d, n)
			}
			if n > 0 && Under(d, parted(cut, cut, n-1), n) {
				t.Errorf("%x is under another one, cut to %d", d, n)
			}
		}
	}
}

// 6.2: Less holds two digests against each other byte by byte, the first ones first.
func TestLess(t *testing.T) {
	for _, c := range []struct {
		a, b  api.Digest
		asked bool
	}{
		{api.Digest{}, api.Digest{}, false},
		{api.Digest{}, api.Digest{1}, true},
		{api.Digest{1}, api.Digest{2}, true},
		{api.Digest{0x7f}, api.Digest{0x80}, true}, // bytes have no sign
		{api.Digest{0, 0xff}, api.Digest{1}, true},
		{api.Digest{0, 31: 0xff}, api.Digest{0, 1}, true},
		{api.Digest{2, 1}, api.Digest{2, 3}, true},
		{api.Digest{}, api.Digest{31: 1}, true},
		{api.Digest{31: 0xfe}, api.Digest{31: 0xff}, true},
		{filled(0xfe), filled(0xff), true},
	} {
		if Less(c.a, c.b) != c.asked {
			t.Errorf("%x ahead of %x: %v", c.a, c.b, !c.asked)
		}
		if Less(c.b, c.a) {
			t.Errorf("%x ahead of %x", c.b, c.a)
		}
	}
	for _, a := range digests() {
		for _, b := range digests() {
			if asked := string(a[:]) < string(b[:]); Less(a, b) != asked {
				t.Errorf("%x ahead of %x: %v", a, b, !asked)
			}
		}
	}
}

// 6.2: at whichever byte two are unlike, that one tells, whatever is behind it.
func TestLessAtEachByte(t *testing.T) {
	for i := range 32 {
		low, high := filled(0x55), filled(0x55)
		low[i], high[i] = 0x7f, 0x80
		for j := i + 1; j < 32; j++ {
			low[j], high[j] = 0xff, 0
		}
		if !Less(low, high) || Less(high, low) || Less(low, low) || Less(high, high) {
			t.Errorf("%x and %x", low, high)
		}
	}
}

// 6.3: those whose bit is off, and those whose bit is on, each in order.
func TestPart(t *testing.T) {
	a, b, c, d := api.Digest{0x80, 1}, api.Digest{0x01, 2}, api.Digest{0x81, 3}, api.Digest{0x40, 4}
	for _, x := range []struct {
		name       string
		l, off, on []api.Digest
		i          int
	}{
		{"nothing", nil, nil, nil, 0},
		{"nothing, not nil", []api.Digest{}, nil, nil, 255},
		{"one that has it", []api.Digest{a}, nil, []api.Digest{a}, 0},
		{"one that has it not", []api.Digest{a}, []api.Digest{a}, nil, 1},
		{"some have it", []api.Digest{a, b, c, d}, []api.Digest{b, d}, []api.Digest{a, c}, 0},
		{"the other way round", []api.Digest{d, c, b, a}, []api.Digest{d, b}, []api.Digest{c, a}, 0},
		{"the last of a byte", []api.Digest{a, b, c, d}, []api.Digest{a, d}, []api.Digest{b, c}, 7},
		{"one alone has it", []api.Digest{a, b, c, d}, []api.Digest{a, b, c}, []api.Digest{d}, 1},
		{"all have it", []api.Digest{c, a, c}, nil, []api.Digest{c, a, c}, 0},
		{"none has it", []api.Digest{c, a, d, b}, []api.Digest{c, a, d, b}, nil, 2},
		{"some are the same", []api.Digest{b, a, b, a, a}, []api.Digest{b, b}, []api.Digest{a, a, a}, 0},
		{"the first of the next byte", []api.Digest{a, {0, 0x80}, b}, []api.Digest{a, b}, []api.Digest{{0, 0x80}}, 8},
		{"the last bit", []api.Digest{a, {31: 1}, {31: 2}}, []api.Digest{a, {31: 2}}, []api.Digest{{31: 1}}, 255},
	} {
		off, on := Part(x.l, x.i)
		if !slices.Equal(off, x.off) || !slices.Equal(on, x.on) {
			t.Errorf("%s, bit %d: %x, %x", x.name, x.i, off, on)
		}
	}
}

// 6.3: by each bit, of many digests.
func TestPartByAll(t *testing.T) {
	l := append(digests(), digests()...)
	for i := range 256 {
		var asked [2][]api.Digest
		for _, d := range l {
			side := inDigits(d)[i] - '0'
			asked[side] = append(asked[side], d)
		}
		off, on := Part(l, i)
		if !slices.Equal(off, asked[0]) || !slices.Equal(on, asked[1]) {
			t.Errorf("bit %d: %x, %x", i, off, on)
		}
	}
}

// 6.3, P1: a bit that is none is on in no digest, as Bit says: all are off.
func TestPartByNoSuch(t *testing.T) {
	for _, l := range [][]api.Digest{nil, {filled(0xff)}, digests()} {
		for _, i := range noBits() {
			if off, on := Part(l, i); !slices.Equal(off, l) || len(on) != 0 {
				t.Errorf("bit %d of %d: %x, %x", i, len(l), off, on)
			}
		}
	}
}

// 6.3, R3: the list that is handed in stays, what is behind its length is neither read nor written, and the answers are new memory.
func TestPartHandsOutNewMemory(t *testing.T) {
	for _, i := range []int{0, 2, 255, 256, -1} {
		whole := append(digests(), filled(0x11), filled(0x22))
		was := slices.Clone(whole)
		l := whole[:len(whole)-2]
		off, on := Part(l, i)
		if len(off)+len(on) != len(l) {
			t.Errorf("bit %d: %d and %d of %d", i, len(off), len(on), len(l))
		}
		spoil := func(l []api.Digest) {
			l = append(l, make([]api.Digest, 2)...)
			for k := range l[:cap(l)] {
				l[:cap(l)][k] = filled(0x99)
			}
		}
		wasOn := slices.Clone(on)
		spoil(off)
		if !slices.Equal(on, wasOn) {
			t.Errorf("bit %d: both answers share memory", i)
		}
		spoil(on)
		if !slices.Equal(whole, was) {
			t.Errorf("bit %d: what was handed in is another one", i)
		}
		again, _ := Part(l, i)
		if slices.Contains(again, filled(0x99)) {
			t.Errorf("bit %d: a later answer shares memory", i)
		}
	}
}

// 6.4: of two unlike digests the one stands ahead that has not the first bit at which they part.
func TestAheadHasNotTheBit(t *testing.T) {
	for k, d := range digests() {
		for i := range 256 {
			for _, other := range []api.Digest{d, chance(400 + k), {}, filled(0xff)} {
				o := parted(d, other, i)
				at := Common(d, o)
				if Bit(d, at) == Bit(o, at) {
					t.Errorf("%x and %x do not part at %d", d, o, at)
				}
				if Less(d, o) == Bit(d, at) || Less(o, d) == Bit(o, at) {
					t.Errorf("%x and %x part at %d: %v, %v", d, o, at, Less(d, o), Less(o, d))
				}
			}
		}
	}
	for _, a := range digests() {
		for _, b := range digests() {
			if at := Common(a, b); a != b && (Less(a, b) == Bit(a, at) || Less(a, b) == Less(b, a)) {
				t.Errorf("%x and %x part at %d: %v, %v", a, b, at, Less(a, b), Less(b, a))
			}
		}
	}
}

// 6.3, 6.4: parted by each bit in turn, from the first one on, any digests come to stand in order.
func TestPartedAllStandInOrder(t *testing.T) {
	var ordered func(l []api.Digest, i int) []api.Digest
	ordered = func(l []api.Digest, i int) []api.Digest {
		if len(l) < 2 || i == 256 {
			return l
		}
		off, on := Part(l, i)
		return append(ordered(off, i+1), ordered(on, i+1)...)
	}
	var singles []api.Digest
	for i := range 256 {
		singles = append(singles, alone(i))
	}
	l := ordered(slices.Concat(digests(), singles, digests()), 0)
	for k := range len(l) - 1 {
		if Less(l[k+1], l[k]) {
			t.Errorf("%x stands behind %x", l[k+1], l[k])
		}
	}
}

// P1: no call panics, whatever number it is given with whatever digests.
func TestNoCallPanics(t *testing.T) {
	for _, d := range digests() {
		for _, i := range cuts() {
			Bit(d, i)
			Set(d, i, true)
			Set(d, i, false)
			Cut(d, i)
			Under(d, filled(0xff), i)
			Part([]api.Digest{d}, i)
		}
	}
}
