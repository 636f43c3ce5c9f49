package pages_test

import (
	"bytes"
	"encoding/binary"
	"fmt"
	"math/rand/v2"
	"slices"
	"testing"

	"blazon/api"
	"blazon/pages"
)

// lacking is a link to a page that is in no list: where it is met, ErrNone is told. Behind a fault it tells whether this was told first; the end, where all errors are ErrBad, is never come to.
func lacking() []byte {
	return link(filled(0xee))
}

// foreign is pages that belong to no tree of the tests, some of which are no pages at all.
func foreign() [][]byte {
	l := pagesOf(numbered(chance(70), chance(71), chance(72)), 0)
	l = append(l, pagesOf(comb(chance(73)), 0)[:20]...)
	return append(l, nil, []byte{}, []byte{0, 0}, []byte{3}, []byte{4}, []byte("no page"), make([]byte, 5000), lacking())
}

// 17.3, 17.4: Save's pages in any order, some oftener, with others between, are the tree again.
func TestLoadAgain(t *testing.T) {
	dice := rand.New(rand.NewPCG(17, 4))
	for _, s := range samples() {
		d, l := pages.Save(treeOf(s.l))
		mustBe(t, s.name, d, l, s.l, api.OK)
		turned := slices.Clone(l)
		slices.Reverse(turned)
		mustBe(t, s.name+", turned round", d, turned, s.l, api.OK)
		mustBe(t, s.name+", twice", d, slices.Concat(l, turned), s.l, api.OK)
		mustBe(t, s.name+", with others ahead", d, slices.Concat(foreign(), l), s.l, api.OK)
		mustBe(t, s.name+", with others behind", d, slices.Concat(l, foreign()), s.l, api.OK)
		for range 3 {
			some := slices.Concat(l, foreign(), own(l[:len(l)/2]))
			dice.Shuffle(len(some), func(i, j int) { some[i], some[j] = some[j], some[i] })
			mustBe(t, s.name+", mingled", d, some, s.l, api.OK)
		}
	}
}

// 17.3: what Load tells is a tree like others: its pages are told again, and leaves are put to it.
func TestLoadedGoesOn(t *testing.T) {
	for _, s := range samples() {
		d, l := pages.Save(treeOf(s.l))
		x, _ := pages.Load(d, l)
		if again, m := pages.Save(x); again != d || !same(m, l) {
			t.Errorf("%s: other pages", s.name)
		}
		x.Put(chance(800), chance(801))
		y := x.Put(chance(800), chance(802))
		if y.Root() != treeOf(append(slices.Clone(s.l), leaf{chance(800), chance(802)})).Root() || x.Len() != len(s.l) {
			t.Errorf("%s: another tree with a leaf more", s.name)
		}
	}
}

// 17.3: without pages, and without the page of the digest, nothing is there.
func TestLoadNone(t *testing.T) {
	empty := hashOf([]byte{0})
	for _, d := range []api.Digest{{}, filled(0xff), empty, hashOf(nil), chance(1)} {
		mustBe(t, "no pages", d, nil, nil, api.ErrNone)
		mustBe(t, "no pages", d, [][]byte{}, nil, api.ErrNone)
		mustBe(t, "others", d, pagesOf(likeChance(40), 0), nil, api.ErrNone)
		mustBe(t, "behind the list's end", d, [][]byte{{0}, nil}[:0], nil, api.ErrNone)
	}
	mustBe(t, "one page", empty, [][]byte{{0}}, nil, api.OK)
	mustBe(t, "the digest of the tree, not of its page", treeOf(nil).Root(), [][]byte{{0}}, nil, api.ErrNone)
}

// 17.3, 17.4: without the first page, one in the middle, the last one, any: ErrNone.
func TestLoadOneLacks(t *testing.T) {
	for _, s := range samples() {
		d, l := pages.Save(treeOf(s.l))
		for i := range l {
			some := slices.Delete(slices.Clone(l), i, i+1)
			mustBe(t, s.name+" without one", d, some, nil, api.ErrNone)
			if i%16 == 0 {
				slices.Reverse(some)
				mustBe(t, s.name+" without one, turned round", d, some, nil, api.ErrNone)
				mustBe(t, s.name+" without one, with others", d, slices.Concat(foreign(), some[:i/2], l[:i], l[i+1:]), nil, api.ErrNone)
			}
		}
	}
}

// 17.3: each page's digest leads to the tree of its leaves only if it is the first one's.
func TestLoadFromWithin(t *testing.T) {
	for _, s := range samples() {
		_, l := pages.Save(treeOf(s.l))
		for i := 0; i < len(l); i += 1 + len(l)/20 {
			mustBeByWords(t, fmt.Sprintf("%s from page %d on", s.name, i), hashOf(l[i]), l)
		}
	}
	_, l := pages.Save(treeOf(comb(api.Digest{})))
	mustBe(t, "a page whose leaves are all to the left", hashOf(l[1]), l, nil, api.ErrBad)
}

// mustBeFault is of a piece with a fault: that is told ahead of a page that lacks to its right, and behind one to its left.
func mustBeFault(t *testing.T, name string, b []byte, others ...[]byte) {
	t.Helper()
	mustTell(t, name+" by itself", api.ErrBad, b, others...)
	mustTell(t, name+" to the left", api.ErrBad, both(b, lacking()), others...)
	mustTell(t, name+" to the right", api.ErrNone, both(lacking(), b), others...)
	mustTell(t, name+" in between", api.ErrBad, both(both([]byte{0}, b), lacking()), others...)
}

// mustReadWell is of a piece without a fault: the page that lacks to its right is told.
func mustReadWell(t *testing.T, name string, b []byte, others ...[]byte) {
	t.Helper()
	mustTell(t, name+", and one lacks", api.ErrNone, both(b, lacking()), others...)
}

// 17.3: a byte that is none of 0 to 3 where a piece must begin.
func TestLoadOtherBytes(t *testing.T) {
	two := numbered(api.Digest{}, api.Digest{1})
	for b := 4; b < 256; b++ {
		name := fmt.Sprintf("byte %d", b)
		mustBeFault(t, name, []byte{byte(b)})
		mustBeFault(t, name+" and more", append([]byte{byte(b)}, make([]byte, 64)...))
		linked := pieceOf(two, 1)
		linked[0] = byte(b)
		mustTell(t, name+" on a page that is linked", api.ErrBad, both(to(linked), lacking()), linked)
	}
	mustReadWell(t, "nought", []byte{0})
	mustReadWell(t, "a leaf", one(two[0]))
	mustReadWell(t, "two", both([]byte{0}, []byte{0}))
	mustReadWell(t, "a link", to(pieceOf(two, 1)), pieceOf(two, 1))
}

// 17.3: a page that ends too early, at each place.
func TestLoadCut(t *testing.T) {
	deep := pieceOf(numbered(chance(3), turned(chance(3), 60), turned(chance(3), 90)), 0)
	for n := range len(deep) {
		mustTell(t, fmt.Sprintf("%d bytes", n), api.ErrBad, deep[:n:n])
		mustTell(t, fmt.Sprintf("%d bytes, the others behind them in memory", n), api.ErrBad, deep[:n])
	}
	mustTell(t, "whole", api.OK, deep)
	left := below(1, 4) // their first bits are off: they may stand to the left of what lacks
	linked := pieceOf(left, 1)
	for n := range len(linked) {
		mustTell(t, fmt.Sprintf("linked, %d bytes", n), api.ErrBad, both(to(linked[:n]), lacking()), linked[:n])
	}
	mustReadWell(t, "linked, whole", to(linked), linked)
	half := append([]byte{2, 0}, lacking()...)
	for n := range len(half) {
		mustTell(t, fmt.Sprintf("a link of %d bytes", n), api.ErrBad, half[:n])
	}
	mustTell(t, "a link, whole", api.ErrNone, half)
	for n := 1; n < 65; n++ {
		mustTell(t, fmt.Sprintf("a leaf of %d bytes", n), api.ErrBad, one(left[0])[:n])
	}
	mustTell(t, "no bytes", api.ErrBad, nil)
}

// 17.3: all pages of a tree, each cut at each place, with a byte more, and with one byte another one; those above lead to it.
func TestLoadChangedPages(t *testing.T) {
	for _, l := range [][][]byte{pagesOf(likeChance(20), 0), pagesOf(below(3, 8), 0), pagesOf(numbered(chance(2), turned(chance(2), 193)), 0)} {
		for i, b := range l {
			for n := range len(b) {
				m := hung(l, i, b[:n])
				mustBe(t, fmt.Sprintf("page %d of %d bytes", i, n), hashOf(m[0]), m, nil, api.ErrBad)
			}
			for _, more := range []byte{0, 1, 2, 3, 4, 255} {
				m := hung(l, i, append(slices.Clone(b), more))
				mustBe(t, fmt.Sprintf("page %d with %d behind it", i, more), hashOf(m[0]), m, nil, api.ErrBad)
			}
		}
	}
}

// 17.3: a byte turned: if the page is not linked so, it lacks; else it is as the words say.
func TestLoadTurned(t *testing.T) {
	told := map[api.Errno]int{}
	for _, l := range [][][]byte{pagesOf(likeChance(12), 0), pagesOf(below(4, 8), 0), pagesOf(below(3, 3), 0)} {
		d := hashOf(l[0])
		for i := range l {
			for k := range l[i] {
				for _, x := range []byte{1, 2, 3, 0x80, 0xff} {
					m := own(l)
					m[i][k] ^= x
					mustBe(t, "turned", d, m, nil, api.ErrNone)
					h := hung(l, i, m[i])
					told[mustBeByWords(t, fmt.Sprintf("page %d, byte %d turned by %d, linked so", i, k, x), hashOf(h[0]), h)]++
				}
			}
		}
	}
	if told[api.OK] < 100 || told[api.ErrNone] < 100 || told[api.ErrBad] < 100 {
		t.Errorf("%v: too few of some", told)
	}
}

// 17.3: bytes behind a page's piece.
func TestLoadBytesBehind(t *testing.T) {
	left := pieceOf(below(1, 3), 1)
	for _, more := range []string{"\x00", "\x01", "\x03", "\xff", "more"} {
		linked := append(slices.Clone(left), more...)
		mustTell(t, "behind a page that is linked", api.ErrBad, both(to(linked), lacking()), linked)
		mustTell(t, "behind the first page", api.ErrBad, append(pieceOf(below(0, 3), 0), more...))
		mustTell(t, "behind no leaf", api.ErrBad, append([]byte{0}, more...))
		mustTell(t, "behind a leaf", api.ErrBad, append(pieceOf(below(0, 1), 0), more...))
		mustTell(t, "behind what lacks", api.ErrNone, append(both([]byte{0}, lacking()), more...))
		mustTell(t, "behind a page within which one lacks", api.ErrNone, both(to(append(lacking(), more...)), []byte{9}), append(lacking(), more...))
	}
	mustReadWell(t, "nothing behind it", to(left), left)
}

// stair is so many 2 in one another, with a piece below the last one's side, nothing on the other sides.
func stair(steps int, on bool, b []byte) []byte {
	for range steps {
		if on {
			b = both([]byte{0}, b)
		} else {
			b = both(b, []byte{0})
		}
	}
	return b
}

// 17.3: pieces stand below 256 bits at most. (What follows at the first bit's other side lacks, and is told, if all ahead reads well.)
func TestLoadTooDeep(t *testing.T) {
	none := leaf{value: chance(1)}
	for _, c := range []struct {
		name string
		b    []byte
	}{{"nothing", []byte{0}}, {"a leaf", one(none)}, {"two without leaves", both([]byte{0}, []byte{0})}, {"a byte that is no piece's", []byte{7}}, {"a link to what lacks", lacking()}} {
		for _, steps := range []int{1, 8, 254, 255, 256, 257, 300} { // bits, with the one of the first 2
			want := api.ErrNone
			if steps > 256 || c.b[0] == 7 || c.b[0] == 2 && steps > 255 {
				want = api.ErrBad
			}
			first := both(stair(steps-1, false, c.b), lacking())
			mustTell(t, fmt.Sprintf("%s below %d bits", c.name, steps), want, first)
		}
	}
	for _, steps := range []int{255, 256, 257, 258} {
		want := api.ErrNone
		if steps > 256 {
			want = api.ErrBad
		}
		mustTell(t, fmt.Sprintf("a link to what lacks below %d bits that are on", steps), want, stair(steps, true, lacking()))
		mustTell(t, "a leaf by itself, as deep", api.ErrBad, stair(steps, true, one(leaf{index: filled(0xff)})))
	}
	two := numbered(api.Digest{}, api.Digest{31: 1})
	mustTell(t, "two leaves below 256 bits", api.ErrNone, both(stair(254, false, both(one(two[0]), one(two[1]))), lacking()))
	mustTell(t, "much too deep", api.ErrBad, bytes.Repeat([]byte{2}, 1<<20))
}

// 17.3: pieces are below as many bits, whether the way there leads over links or not.
func TestLoadTooDeepByLinks(t *testing.T) {
	linked := stair(3, false, lacking())
	for _, steps := range []int{1, 252, 253, 254, 256, 257} {
		want := api.ErrNone
		if steps+3 > 256 {
			want = api.ErrBad
		}
		mustTell(t, fmt.Sprintf("three bits below %d bits", steps), want, stair(steps, false, to(linked)), linked)
	}
	two := pieceOf(numbered(api.Digest{}, api.Digest{31: 1}), 253)
	mustTell(t, "two leaves below 253 bits and three", api.ErrNone, both(stair(252, false, to(two)), lacking()), two)
	// Each page is one bit, with a link to the next one.
	for _, n := range []int{100, 255, 256, 257, 300} {
		l := [][]byte{lacking()}
		for range n {
			l = append(l, both(to(l[len(l)-1]), []byte{0}))
		}
		want := api.ErrNone
		if n > 256 {
			want = api.ErrBad
		}
		slices.Reverse(l)
		mustTell(t, fmt.Sprintf("%d pages in one another", n), want, l[0], l[1:]...)
	}
}

// 17.3: a leaf whose index has not the bits that lead to it, at each of them; those behind them play no part.
func TestLoadOtherWay(t *testing.T) {
	for _, bits := range []int{1, 2, 7, 8, 9, 100, 255, 256} {
		for bit := 0; bit < 256; bit++ {
			x := leaf{turned(api.Digest{}, bit), chance(bit)}
			want := api.ErrNone
			if bit < bits {
				want = api.ErrBad
			}
			name := fmt.Sprintf("bit %d of a leaf below %d bits", bit, bits)
			mustTell(t, name, want, both(stair(bits-1, false, one(x)), lacking()))
		}
	}
	// The same where bits are on: one page below another one's link, so that what lacks may stand behind it.
	for _, bits := range []int{1, 2, 8, 9, 200, 254} {
		d := turned(filled(0xff), 0)
		for bit := range 256 {
			x := leaf{turned(d, bit), chance(bit)}
			want := api.ErrNone
			if bit <= bits {
				want = api.ErrBad
			}
			name := fmt.Sprintf("bit %d of a leaf below %d bits that are on", bit, bits)
			mustTell(t, name, want, both(stair(bits, true, one(x)), lacking()))
		}
	}
	a, b := leaf{api.Digest{0x10}, chance(1)}, leaf{api.Digest{0x80}, chance(2)}
	mustTell(t, "two that stand in each other's place", api.ErrBad, both(one(b), one(a)))
	mustTell(t, "twice the same", api.ErrBad, both(one(a), one(a)))
	mustTell(t, "as it should be", api.OK, both(one(a), one(b)))
}

// 17.3: a page that is linked has two leaves at least, those of the pages that it links with them.
func TestLoadLinkedHasTwo(t *testing.T) {
	four := below(1, 4)
	single, pair := one(four[0]), pieceOf(four, 1)
	mustTell(t, "no leaf", api.ErrBad, both(to([]byte{0}), lacking()), []byte{0})
	mustTell(t, "no leaf, in a longer piece", api.ErrBad, both(to(both([]byte{0}, []byte{0})), lacking()), both([]byte{0}, []byte{0}))
	mustTell(t, "one leaf", api.ErrBad, both(to(single), lacking()), single)
	mustTell(t, "one leaf, in a longer piece", api.ErrBad, both(to(both(single, []byte{0})), lacking()), both(single, []byte{0}))
	mustTell(t, "four leaves", api.ErrNone, both(to(pair), lacking()), pair)
	two := pieceOf(four[:2], 1)
	mustTell(t, "two leaves", api.ErrNone, both(to(two), lacking()), two)
	mustTell(t, "no leaf, and it is not linked", api.OK, []byte{0})
	mustTell(t, "one leaf, and it is not linked", api.OK, single)
	inner := pieceOf(four[:2], 2)
	outer := both(to(inner), []byte{0})
	mustTell(t, "two leaves, both by another link", api.ErrNone, both(to(outer), lacking()), outer, inner)
	mustTell(t, "a link alone, to two leaves", api.ErrNone, both(to(to(two)), lacking()), to(two), two)
	mustTell(t, "a link alone, to one leaf", api.ErrBad, both(to(to(single)), lacking()), to(single), single)
	// Leaves ahead of the page, or behind it, do not count.
	far := leaf{api.Digest{0x30}, chance(4)}
	ahead := both(both(both(one(four[0]), []byte{0}), to(one(far))), lacking())
	mustTell(t, "one leaf, and one ahead", api.ErrBad, both(ahead, []byte{0}), one(far))
}

// 17.3: which of two errors is told, read from the left, page by page in one another.
func TestLoadFirstError(t *testing.T) {
	bad, well := []byte{9}, pieceOf(below(1, 3), 1)
	badPage := both(pieceOf(below(2, 2), 2), bad)
	lackPage := both(pieceOf(below(2, 2), 2), lacking())
	for _, c := range []struct {
		name    string
		off, on []byte
		want    api.Errno
	}{
		{"bad, lacking", bad, lacking(), api.ErrBad},
		{"lacking, bad", lacking(), bad, api.ErrNone},
		{"a page with what is bad, lacking", to(badPage), lacking(), api.ErrBad},
		{"lacking, a page with what is bad", lacking(), to(badPage), api.ErrNone},
		{"a page with what lacks, bad", to(lackPage), bad, api.ErrNone},
		{"bad, a page with what lacks", bad, to(lackPage), api.ErrBad},
		{"a page with what lacks, nothing more", to(lackPage), nil, api.ErrNone},
		{"a page, lacking", to(well), lacking(), api.ErrNone},
		{"a page, bad", to(well), bad, api.ErrBad},
		{"a page, itself on the other side", to(well), to(well), api.ErrBad},
		{"a page, itself on the other side, lacking", both(to(pieceOf(below(2, 2), 2)), to(pieceOf(below(2, 2), 2))), lacking(), api.ErrBad},
		{"nothing, lacking", []byte{0}, lacking(), api.ErrNone},
		{"lacking, and nothing more", lacking(), nil, api.ErrNone},
		{"nothing, and nothing more", []byte{0}, nil, api.ErrBad},
	} {
		mustTell(t, c.name, c.want, both(c.off, c.on), badPage, lackPage, well, pieceOf(below(2, 2), 2))
	}
}

// 17.3: pages that read well, but are not what Save tells of the tree of their leaves.
func TestLoadNotSaved(t *testing.T) {
	few, many := below(0, 4), below(0, 8)
	off, on := side(few, 0, false), side(few, 0, true)
	x := few[0]
	all := pagesOf(many, 0)
	deep := numbered(chance(2), turned(chance(2), 191))
	for _, c := range []struct {
		name string
		l    [][]byte
	}{
		{"no leaves, in a longer piece", [][]byte{both([]byte{0}, []byte{0})}},
		{"one leaf and nothing", [][]byte{both(one(x), []byte{0})}},
		{"one leaf, further down", [][]byte{stair(256, false, one(leaf{value: chance(1)}))}},
		{"two leaves, one further down than it need be", [][]byte{both(both(one(few[0]), []byte{0}), one(few[3]))}},
		{"two links where a piece would fit", [][]byte{both(to(pieceOf(off, 1)), to(pieceOf(on, 1))), pieceOf(off, 1), pieceOf(on, 1)}},
		{"a link and a piece where one would fit", [][]byte{both(to(pieceOf(off, 1)), pieceOf(on, 1)), pieceOf(off, 1)}},
		{"eight leaves on one page", [][]byte{pieceOf(many, 0)}},
		{"eight leaves, one side linked", [][]byte{both(pieceOf(side(many, 0, false), 1), to(all[2])), all[2]}},
		{"two leaves on a page of 513 bytes", [][]byte{pieceOf(deep, 0)}},
		{"a link alone", append([][]byte{to(all[0])}, all...)},
		{"a link alone to a link alone", append([][]byte{to(to(all[0])), to(all[0])}, all...)},
		{"a link alone on the way", [][]byte{both(to(to(all[1])), to(all[2])), to(all[1]), all[1], all[2]}},
		{"a link below two bits", [][]byte{both(both(to(pieceOf(many[:2], 2)), pieceOf(many[2:4], 2)), to(all[2])), pieceOf(many[:2], 2), all[2]}},
	} {
		mustTell(t, c.name, api.ErrBad, c.l[0], c.l[1:]...)
		mustTell(t, c.name+", with what Save would tell", api.ErrBad, c.l[0], slices.Concat(c.l[1:], all, pagesOf(few, 0), pagesOf(deep, 0), [][]byte{{0}, one(x)})...)
		s := scan{list: c.l}
		s.page(hashOf(c.l[0]), "", false) // it reads well
	}
	mustTell(t, "as it should be", api.OK, all[0], all[1:]...)
}

// P1: a list in which pages are linked again and again, or in a long row, is read no longer than it must be.
func TestLoadEnds(t *testing.T) {
	for name, last := range map[string][]byte{"leaves": pieceOf(below(200, 8)[:4], 200), "none": {0}, "what lacks": lacking()} {
		l := [][]byte{last}
		for range 200 { // 2 to the 200th ways lead to the last one
			l = append(l, both(to(l[len(l)-1]), to(l[len(l)-1])))
		}
		d := hashOf(l[len(l)-1])
		want := api.ErrBad
		if name == "what lacks" {
			want = api.ErrNone
		}
		mustBe(t, "twice each, "+name, d, l, nil, want)
	}
	for name, want := range map[string]api.Errno{"leaves": api.ErrBad, "what lacks": api.ErrNone} {
		b := lacking()
		if name == "leaves" {
			b = pieceOf(below(0, 4), 0)
		}
		l := [][]byte{b}
		for range 1 << 16 {
			l = append(l, to(l[len(l)-1]))
		}
		mustBe(t, "a long row of links to "+name, hashOf(l[len(l)-1]), l, nil, want)
	}
	wide := []byte{0}
	for range 20 { // a million sides without a leaf
		wide = both(wide, wide)
	}
	mustBe(t, "a long page", hashOf(wide), [][]byte{wide}, nil, api.ErrBad)
}

// 17.3: trees of many leaves.
func TestLoadMany(t *testing.T) {
	l := likeChance(20000)
	d, all := pages.Save(treeOf(l))
	mustBe(t, "many", d, all, l, api.OK)
	mustBe(t, "many, the last one lacks", d, all[:len(all)-1], nil, api.ErrNone)
}

// R3: what is handed in stays as it is, what lies behind a length is not read, and nothing of it is kept.
func TestLoadKeepsNothing(t *testing.T) {
	for _, s := range samples() {
		d, l := pages.Save(treeOf(s.l))
		room := make([]byte, 0, 1<<17)
		var in [][]byte
		for _, b := range l {
			at := len(room)
			room = append(append(room, b...), 0, 1, 2, 3)
			in = append(in, room[at:at+len(b)]) // its room goes on through those behind it
		}
		was := slices.Clone(room[:cap(room)])
		in = append(in, []byte{4})
		x, e := pages.Load(d, in[:len(in)-1])
		if e != api.OK || !bytes.Equal(room[:cap(room)], was) || !same(in[:len(l)], l) || !bytes.Equal(in[len(l)], []byte{4}) {
			t.Errorf("%s: %d, or what was handed in is changed", s.name, e)
			continue
		}
		if last := in[:len(l)-1]; len(l) > 0 { // the last page lies behind the list's end
			mustBe(t, s.name+", a page behind the end", d, last, nil, api.ErrNone)
		}
		clear(room[:cap(room)])
		clear(in)
		if !slices.Equal(leavesOf(x), s.l) || x.Root() != treeOf(s.l).Root() {
			t.Errorf("%s: the tree shares memory with the pages", s.name)
		}
		if again, m := pages.Save(x); again != d || !same(m, l) {
			t.Errorf("%s: the tree tells other pages", s.name)
		}
	}
}

// R3: a list with spare room behind a page that is cut: the page is still cut.
func TestLoadRoomBehind(t *testing.T) {
	b := pieceOf(below(0, 4), 0)
	for n := 1; n < len(b); n++ {
		mustBe(t, "cut", hashOf(b[:n]), [][]byte{b[:n]}, nil, api.ErrBad)
	}
}

// P7: the same is told again, whatever was asked between.
func TestLoadAlike(t *testing.T) {
	type told struct {
		root api.Digest
		e    api.Errno
	}
	ask := func() (all []told) {
		for _, s := range samples() {
			d, l := pages.Save(treeOf(s.l))
			for _, some := range [][][]byte{l, l[1:], l[:len(l)-1], hung(l, len(l)-1, []byte{5})} {
				for _, at := range []api.Digest{d, hashOf(l[len(l)-1]), {}} {
					x, e := pages.Load(at, some)
					if e != api.OK {
						all = append(all, told{e: e})
						continue
					}
					all = append(all, told{x.Root(), e})
				}
			}
		}
		return all
	}
	first := ask()
	for range 2 {
		if !slices.Equal(ask(), first) {
			t.Error("not the same again")
		}
	}
}

// 17.3: pages that are put together like chance, of pieces that are right and wrong, are read by the words.
func TestLoadLikeChance(t *testing.T) {
	dice := rand.New(rand.NewPCG(17, 5))
	told := map[api.Errno]int{}
	for range 4000 {
		m := mixer{dice: dice}
		first := m.piece(api.Digest{}, 0, 0)
		m.l = append(m.l, first)
		dice.Shuffle(len(m.l), func(i, j int) { m.l[i], m.l[j] = m.l[j], m.l[i] })
		told[mustBeByWords(t, "like chance", hashOf(first), m.l)]++
	}
	if told[api.OK] < 200 || told[api.ErrNone] < 200 || told[api.ErrBad] < 200 {
		t.Errorf("%v: too few of some", told)
	}
}

// mixer makes pages that are right for the most part.
type mixer struct {
	dice *rand.Rand
	l    [][]byte
}

// piece is a piece below the first bits of way, so deep; now and then there is a fault in it.
func (m *mixer) piece(way api.Digest, bits, deep int) []byte {
	switch m.dice.IntN(60) {
	case 0:
		return link(chance(m.dice.Int()))
	case 1:
		return []byte{byte(m.dice.IntN(256))}
	}
	if kind := m.dice.IntN(10); deep < 5 && (kind < 5 || deep == 0 && kind < 8) {
		on := way
		on[bits/8] |= 1 << (7 - bits%8)
		return both(m.piece(way, bits+1, deep+1), m.piece(on, bits+1, deep+1))
	} else if kind == 5 {
		return []byte{0}
	} else if kind == 6 && deep > 0 {
		b := m.piece(way, bits, deep)
		if m.dice.IntN(20) == 0 {
			b = append(b, 0)
		}
		m.l = append(m.l, b)
		return to(b)
	}
	x := leaf{way, chance(m.dice.IntN(1000))}
	binary.BigEndian.PutUint64(x.index[24:], m.dice.Uint64())
	return one(x)
}
