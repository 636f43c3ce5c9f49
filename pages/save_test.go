package pages_test

import (
	"bytes"
	"encoding/hex"
	"math/rand/v2"
	"slices"
	"strings"
	"testing"

	"blazon/api"
	"blazon/pages"
	"blazon/tags"
	"blazon/tree"
)

// mustHavePages is of a tree whose pages must be those; their bytes are told as hexadecimal digits, with blanks anywhere.
func mustHavePages(t *testing.T, name string, l []leaf, want ...string) {
	t.Helper()
	d, got := pages.Save(treeOf(l))
	if len(got) != len(want) {
		t.Fatalf("%s: %d pages, want %d", name, len(got), len(want))
	}
	for i, s := range want {
		if s = strings.ReplaceAll(s, " ", ""); hex.EncodeToString(got[i]) != s {
			t.Errorf("%s: page %d: %x, want %s", name, i, got[i], s)
		}
	}
	if d != tags.Of(got[0]) {
		t.Errorf("%s: the digest is not that of the first page", name)
	}
}

// digits is a leaf's piece as hexadecimal digits.
func digits(x leaf) string {
	return "01" + hex.EncodeToString(x.index[:]) + hex.EncodeToString(x.value[:])
}

// The chapter's examples, and the document's eighth one.
func TestExamples(t *testing.T) {
	mustHavePages(t, "no leaves", nil, "00")
	two := numbered(api.Digest{1}, api.Digest{0x80})
	mustHavePages(t, "two leaves", two, "02"+digits(two[0])+digits(two[1]))
	if _, l := pages.Save(treeOf(two)); len(l[0]) != 131 {
		t.Errorf("two leaves: %d bytes", len(l[0]))
	}
	d, l := pages.Save(treeOf(likeChance(40)))
	if len(l) < 3 {
		t.Errorf("40 leaves: %d pages", len(l))
	}
	for i := range l {
		if x, e := pages.Load(d, slices.Delete(slices.Clone(l), i, i+1)); e != api.ErrNone || x != nil {
			t.Errorf("40 leaves without page %d: %d", i, e)
		}
	}
}

// 17.1: pieces that were written down by hand.
func TestPieces(t *testing.T) {
	x := numbered(api.Digest{0x5a})
	mustHavePages(t, "one", x, "01 5a"+strings.Repeat("00", 31)+hex.EncodeToString(x[0].value[:]))
	x = numbered(api.Digest{0x20}, api.Digest{0x00})
	mustHavePages(t, "to the left, part at bit 2", x, "02 02 02"+digits(x[0])+digits(x[1])+"00 00")
	x = numbered(api.Digest{0xff}, api.Digest{0xdf})
	mustHavePages(t, "to the right, part at bit 2", x, "02 00 02 00 02"+digits(x[0])+digits(x[1]))
	x = numbered(api.Digest{0x40}, api.Digest{0x60})
	mustHavePages(t, "to and fro, part at bit 2", x, "02 02 00 02"+digits(x[0])+digits(x[1])+"00")
	x = numbered(api.Digest{0x00}, api.Digest{0x80}, api.Digest{0xc0})
	mustHavePages(t, "one and two", x, "02"+digits(x[0])+"02"+digits(x[1])+digits(x[2]))
	x = numbered(api.Digest{0x00}, api.Digest{0x40}, api.Digest{0x80})
	mustHavePages(t, "two and one", x, "02 02"+digits(x[0])+digits(x[1])+digits(x[2]))
}

// 17.1, 17.2: all shapes, by the words.
func TestSaveByWords(t *testing.T) {
	for _, s := range samples() {
		mustSave(t, s.name, s.l)
	}
}

// 17.1, 17.2: two leaves that part at each bit. Each bit that they have alike has a 2 and a 0; what does not fit goes on, bit by bit, on another page.
func TestTwoThatPart(t *testing.T) {
	for bit := range 256 {
		for _, d := range []api.Digest{{}, filled(0xff), chance(bit)} {
			l := mustSave(t, "two that part", numbered(d, turned(d, bit)))
			want := []int{131 + 2*bit}
			if bit > 190 { // 511 bytes; 190 more bits fit on the last page
				want = append(slices.Repeat([]int{1 + 1 + 33}, bit-190), 511)
			}
			if got := sizes(l); !slices.Equal(got, want) {
				t.Errorf("part at %d: pages of %d bytes, want %d", bit, got, want)
			}
		}
	}
}

// sizes is how many bytes each page has.
func sizes(l [][]byte) (n []int) {
	for _, b := range l {
		n = append(n, len(b))
	}
	return n
}

// 17.2: a piece of n leaves with e sides without one has 66 n - 1 + 2 e bytes: never 512, but 511 and 513. With one leaf fewer it still fits, with one more it does not.
func TestJustFits(t *testing.T) {
	look := func(name string, l []leaf, want ...int) {
		t.Helper()
		if got := sizes(mustSave(t, name, l)); !slices.Equal(got, want) {
			t.Errorf("%s: pages of %d bytes, want %d", name, got, want)
		}
	}
	seven := below(25, 7)
	look("seven", seven, 511)
	for i := range seven {
		l := pagesOf(slices.Delete(slices.Clone(seven), i, i+1), 0)
		if len(l) != 1 || len(l[0]) > 447 || len(l[0]) < 445 {
			t.Errorf("without leaf %d: %d bytes", i, sizes(l))
		}
		mustSave(t, "one fewer", slices.Delete(slices.Clone(seven), i, i+1))
	}
	// 577 bytes: down to 8 leaves at bit 25, all of whose pages are too long: 527 is still more than 512.
	look("one more", below(25, 8), append(slices.Repeat([]int{35}, 25), 67, 263, 263)...)
	look("a bit further down", below(26, 7), 35, 511)
	look("two bits further down", below(27, 7), 35, 35, 511)
	for n, want := range []int{1, 65, 131, 197, 263, 329, 395, 461} {
		look("without a side that has none", below(0, n), want)
	}
	look("eight", below(0, 8), 67, 263, 263)
	other := append(slices.Clone(seven), leaf{filled(0xff), chance(1)}) // in the place of a side that has none
	look("one more at the first bit", other, 1+33+65, 509)
}

// 17.2: a page whose sides are links, a leaf or nothing.
func TestSides(t *testing.T) {
	off, on := below(1, 8), below(1, 8)
	for i := range on {
		on[i].index = turned(on[i].index, 0)
	}
	first, last := leaf{api.Digest{}, chance(1)}, leaf{filled(0xff), chance(2)}
	for _, c := range []struct {
		name    string
		l       []leaf
		off, on []byte
	}{
		{"two links", slices.Concat(off, on), to(pagesOf(off, 1)[0]), to(pagesOf(on, 1)[0])},
		{"a link and a leaf", append(slices.Clone(off), last), to(pagesOf(off, 1)[0]), one(last)},
		{"a leaf and a link", append([]leaf{first}, on...), one(first), to(pagesOf(on, 1)[0])},
		{"a link and nothing", off, to(pagesOf(off, 1)[0]), []byte{0}},
		{"nothing and a link", on, []byte{0}, to(pagesOf(on, 1)[0])},
	} {
		_, l := pages.Save(treeOf(c.l))
		if !bytes.Equal(l[0], both(c.off, c.on)) {
			t.Errorf("%s: %x", c.name, l[0])
		}
		mustSave(t, c.name, c.l)
	}
	_, l := pages.Save(treeOf(slices.Concat(off[:2], on[:2])))
	if len(l) != 1 || len(linksOf(t, l[0])) > 0 {
		t.Errorf("two and two: pages of %d bytes", sizes(l))
	}
	// A side of two leaves is linked, though it would have had room.
	l = mustSave(t, "two beside many", slices.Concat(off, on[:2]))
	if !bytes.Equal(l[0], both(to(pagesOf(off, 1)[0]), to(pieceOf(on[:2], 1)))) {
		t.Errorf("two beside many: %x", l[0])
	}
}

// linksOf is the digests that a page links, from the left.
func linksOf(t *testing.T, b []byte) (l []api.Digest) {
	for len(b) > 0 {
		switch b[0] {
		case 0, 2:
			b = b[1:]
		case 1:
			b = b[65:]
		case 3:
			l = append(l, api.Digest(b[1:33]))
			b = b[33:]
		default:
			t.Fatalf("a piece begins with %d", b[0])
		}
	}
	return l
}

// 17.2: the first page, those of its first link, those of its second one; each once, none longer than 512 bytes.
func TestOrderOfPages(t *testing.T) {
	for _, s := range samples() {
		d, l := pages.Save(treeOf(s.l))
		next := []api.Digest{d} // those that must still come, the nearest one last
		for i, b := range l {
			if len(b) > api.TileSize || len(b) == 0 {
				t.Errorf("%s: page %d has %d bytes", s.name, i, len(b))
			}
			if len(next) == 0 || tags.Of(b) != next[len(next)-1] {
				t.Fatalf("%s: page %d is not the next one", s.name, i)
			}
			next = next[:len(next)-1]
			links := linksOf(t, b)
			slices.Reverse(links)
			next = append(next, links...)
		}
		if len(next) > 0 {
			t.Errorf("%s: %d pages lack", s.name, len(next))
		}
	}
}

// 17.2: many sizes that are like chance, close to one another and far.
func TestSaveLikeChance(t *testing.T) {
	dice := rand.New(rand.NewPCG(17, 2))
	for range 60 {
		var l []leaf
		for range dice.IntN(30) {
			d := chance(dice.IntN(3))
			for range dice.IntN(4) {
				d = turned(d, dice.IntN(256))
			}
			if !slices.ContainsFunc(l, func(x leaf) bool { return x.index == d }) {
				l = append(l, leaf{d, chance(dice.Int())})
			}
		}
		l = inOrder(l)
		all := mustSave(t, "like chance", l)
		mustBe(t, "like chance", hashOf(all[0]), all, l, api.OK)
	}
}

// 17.2: in which order leaves were put, and what stood at their indexes first, plays no part; the same is told again.
func TestSaveAlike(t *testing.T) {
	dice := rand.New(rand.NewPCG(17, 3))
	for _, s := range samples() {
		want := pagesOf(s.l, 0)
		x := treeOf(s.l)
		for range 3 {
			if _, l := pages.Save(x); !same(l, want) {
				t.Errorf("%s: not the same again", s.name)
			}
		}
		for range 3 {
			some := slices.Clone(s.l)
			dice.Shuffle(len(some), func(i, j int) { some[i], some[j] = some[j], some[i] })
			y := tree.Empty()
			for _, z := range some {
				y = y.Put(z.index, filled(1))
			}
			slices.Reverse(some)
			for _, z := range some {
				y = y.Put(z.index, z.value)
			}
			if d, l := pages.Save(y); !same(l, want) || d != hashOf(want[0]) {
				t.Errorf("%s: another order, other pages", s.name)
			}
		}
	}
}

// 17.2: a Tree that no call has made has no leaves; nil is as one.
func TestSaveOfNoCall(t *testing.T) {
	for _, x := range []*tree.Tree{{}, nil} {
		if d, l := pages.Save(x); d != hashOf([]byte{0}) || !same(l, [][]byte{{0}}) {
			t.Errorf("%x, %x", d, l)
		}
	}
}

// R3: the pages that are told are new memory: what is written to one shows in no other, in no tree, in nothing that is told later.
func TestSaveSharesNothing(t *testing.T) {
	for _, s := range samples() {
		x := treeOf(s.l)
		_, first := pages.Save(x)
		_, second := pages.Save(x)
		want := pagesOf(s.l, 0)
		for i := range first {
			whole := first[i][:cap(first[i])]
			for k := range whole {
				whole[k] ^= 0xff
			}
			if !same(first[i+1:], want[i+1:]) {
				t.Fatalf("%s: page %d shares memory with one behind it", s.name, i)
			}
		}
		if !same(second, want) || !slices.Equal(leavesOf(x), s.l) || x.Root() != treeOf(s.l).Root() {
			t.Errorf("%s: what was told shares memory", s.name)
		}
		if _, third := pages.Save(x); !same(third, want) {
			t.Errorf("%s: what is told is another", s.name)
		}
	}
}

// 17.4: of a tree with one leaf more at most 257 pages are new, and at most 257 are needed no more.
func TestOneLeafMore(t *testing.T) {
	most := 0
	for _, s := range samples() {
		x := treeOf(s.l)
		_, was := pages.Save(x)
		more := []api.Digest{{}, filled(0xff), chance(5000), chance(5001), {31: 1}, turned(filled(0xff), 255), turned(api.Digest{}, 240), turned(chance(7), 255)}
		for i := 0; i < 256 && len(s.l) > 0; i += 17 {
			more = append(more, turned(s.l[len(s.l)/2].index, i), turned(turned(s.l[0].index, i), 255))
		}
		for _, index := range more {
			if _, there := x.Get(index); there {
				continue
			}
			_, now := pages.Save(x.Put(index, chance(9)))
			most = max(most, without(now, was))
			if n, o := without(now, was), without(was, now); n > 257 || o > 257 || n == 0 {
				t.Errorf("%s and %x: %d pages are new, %d are none any more", s.name, index, n, o)
			}
		}
	}
	if most < 200 {
		t.Errorf("at most %d pages were new: too few to tell", most)
	}
}

// 17.4: what a tree of many leaves shares with one that has another leaf is nearly all.
func TestManyShared(t *testing.T) {
	x := treeOf(likeChance(2000))
	d, was := pages.Save(x)
	y := x.Put(chance(5000), chance(1))
	e, now := pages.Save(y)
	if n := without(now, was); n > 30 || len(now) < 500 || d == e {
		t.Errorf("%d of %d pages are new", n, len(now))
	}
	// Pages of both, each once, are enough for both.
	var all [][]byte
	for _, b := range now {
		if !slices.ContainsFunc(was, func(c []byte) bool { return bytes.Equal(b, c) }) {
			all = append(all, b)
		}
	}
	all = append(all, was...)
	for link, z := range map[api.Digest]*tree.Tree{d: x, e: y} {
		if got, err := pages.Load(link, all); err != api.OK || got.Root() != z.Root() {
			t.Errorf("of both: %d", err)
		}
	}
}

// without is how many of some texts are not among others.
func without(l, others [][]byte) (n int) {
	has := map[string]int{}
	for _, b := range others {
		has[string(b)] = 1
	}
	for _, b := range l {
		n += 1 - has[string(b)]
	}
	return n
}
