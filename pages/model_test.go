package pages_test

// What the chapter says, word by word: the tests hold the package against it.

import (
	"bytes"
	"crypto/sha256"
	"fmt"
	"os"
	"slices"
	"strconv"
	"strings"
	"testing"

	"blazon/api"
	"blazon/pages"
	"blazon/tree"
)

// leaf is what a tree has, as the tests keep it: in lists, by rising indexes.
type leaf struct {
	index, value api.Digest
}

// filled is 32 bytes, all of them that one.
func filled(b byte) api.Digest {
	return api.Digest(bytes.Repeat([]byte{b}, 32))
}

// chance is a digest that is like chance, but the same one each time.
func chance(i int) api.Digest {
	return sha256.Sum256([]byte(strconv.Itoa(i)))
}

// turned is a digest of which that bit is the other one.
func turned(d api.Digest, bit int) api.Digest {
	d[bit/8] ^= 1 << (7 - bit%8)
	return d
}

// numbered is leaves at those indexes, with values of their own, in order.
func numbered(indexes ...api.Digest) (l []leaf) {
	for i, d := range indexes {
		l = append(l, leaf{d, chance(1000 + i)})
	}
	return inOrder(l)
}

// inOrder is leaves of unlike indexes by rising ones.
func inOrder(l []leaf) []leaf {
	return slices.SortedFunc(slices.Values(l), func(a, b leaf) int { return bytes.Compare(a.index[:], b.index[:]) })
}

// treeOf is the tree of leaves.
func treeOf(l []leaf) *tree.Tree {
	var indexes, values []api.Digest
	for _, x := range l {
		indexes, values = append(indexes, x.index), append(values, x.value)
	}
	return tree.Of(indexes, values)
}

// leavesOf is what a tree goes over.
func leavesOf(t *tree.Tree) (l []leaf) {
	for index, value := range t.All() {
		l = append(l, leaf{index, value})
	}
	return l
}

// hashOf is what tags.Of must be: SHA-256, but in a run by weak digests.
func hashOf(b []byte) api.Digest {
	if os.Getenv(weakly) != "" {
		return weak(b)
	}
	return sha256.Sum256(b)
}

// side is those leaves whose bit is so.
func side(l []leaf, bit int, on bool) (some []leaf) {
	for _, x := range l {
		if (x.index[bit/8]>>(7-bit%8)&1 == 1) == on {
			some = append(some, x)
		}
	}
	return some
}

// one is the piece of a leaf.
func one(x leaf) []byte {
	return slices.Concat([]byte{1}, x.index[:], x.value[:])
}

// both is the byte 2, and what stands for its sides.
func both(off, on []byte) []byte {
	return slices.Concat([]byte{2}, off, on)
}

// link is a link to a digest.
func link(d api.Digest) []byte {
	return append([]byte{3}, d[:]...)
}

// to is a link to a page.
func to(b []byte) []byte {
	return link(hashOf(b))
}

// pieceOf is 17.1, word by word.
func pieceOf(l []leaf, bits int) []byte {
	switch len(l) {
	case 0:
		return []byte{0}
	case 1:
		return one(l[0])
	}
	return both(pieceOf(side(l, bits, false), bits+1), pieceOf(side(l, bits, true), bits+1))
}

// pagesOf is 17.2, word by word: the page of leaves below so many bits, and those that it links.
func pagesOf(l []leaf, bits int) [][]byte {
	if len(l) < 8 { // the piece of eight leaves has 527 bytes at least: it need not be made
		if b := pieceOf(l, bits); len(b) <= 512 {
			return [][]byte{b}
		}
	}
	page := []byte{2}
	var linked [][]byte
	for _, on := range []bool{false, true} {
		some := side(l, bits, on)
		if len(some) <= 1 {
			page = append(page, pieceOf(some, bits+1)...)
			continue
		}
		below := pagesOf(some, bits+1)
		page = append(page, to(below[0])...)
		linked = append(linked, below...)
	}
	return append([][]byte{page}, linked...)
}

// scan is 17.3, word by word: errors are thrown where they are met. A way is told as noughts and ones.
type scan struct {
	list [][]byte
	met  []leaf
	deep int // pages in one another; more than there are: one leads back to itself
}

// page reads the page of a digest.
func (s *scan) page(d api.Digest, way string, linked bool) {
	at := slices.IndexFunc(s.list, func(b []byte) bool { return hashOf(b) == d })
	if at < 0 {
		panic(api.ErrNone)
	}
	s.deep++
	s.bad(s.deep > 2*len(s.list)+300)
	ahead := len(s.met)
	r := bytes.NewBuffer(slices.Clone(s.list[at]))
	s.piece(r, way)
	s.bad(r.Len() > 0)
	s.bad(linked && len(s.met)-ahead < 2)
	s.deep--
}

// piece reads a piece.
func (s *scan) piece(r *bytes.Buffer, way string) {
	s.bad(len(way) > 256)
	kind, err := r.ReadByte()
	s.bad(err != nil || kind > 3)
	switch kind {
	case 1:
		x := leaf{s.digest(r), s.digest(r)}
		s.bad(!strings.HasPrefix(bitsOf(x.index), way))
		s.met = append(s.met, x)
	case 2:
		s.piece(r, way+"0")
		s.piece(r, way+"1")
	case 3:
		s.page(s.digest(r), way, true)
	}
}

// digest reads a digest.
func (s *scan) digest(r *bytes.Buffer) (d api.Digest) {
	n, _ := r.Read(d[:])
	s.bad(n < 32)
	return d
}

// bad throws ErrBad, if it is so.
func (s *scan) bad(so bool) {
	if so {
		panic(api.ErrBad)
	}
}

// bitsOf is a digest's bits as noughts and ones.
func bitsOf(d api.Digest) (s string) {
	for _, b := range d {
		s += fmt.Sprintf("%08b", b)
	}
	return s
}

// loadOf is what Load must tell: the leaves, or the error.
func loadOf(d api.Digest, l [][]byte) (met []leaf, e api.Errno) {
	defer func() {
		if thrown := recover(); thrown != nil {
			met, e = nil, thrown.(api.Errno)
		}
	}()
	s := scan{list: l}
	s.page(d, "", false)
	if hashOf(pagesOf(s.met, 0)[0]) != d {
		return nil, api.ErrBad
	}
	return s.met, api.OK
}

// mustSave is of a tree of leaves in order: Save must tell its pages by the words. They are told.
func mustSave(t *testing.T, name string, l []leaf) [][]byte {
	t.Helper()
	d, got := pages.Save(treeOf(l))
	want := pagesOf(l, 0)
	if !same(got, want) {
		t.Errorf("%s: %d pages %x, want %d %x", name, len(got), got, len(want), want)
	}
	if d != hashOf(want[0]) {
		t.Errorf("%s: digest %x, want that of the first page", name, d)
	}
	return want
}

// mustBe asks Load of pages: it must tell that error, and nothing beside it, or the tree of those leaves.
func mustBe(t *testing.T, name string, d api.Digest, l [][]byte, leaves []leaf, want api.Errno) {
	t.Helper()
	x, e := pages.Load(d, l)
	if e != want || (x != nil) != (e == api.OK) {
		t.Errorf("%s: a tree: %v, error %d, want %d", name, x != nil, e, want)
		return
	}
	if e == api.OK && (!slices.Equal(leavesOf(x), leaves) || x.Root() != treeOf(leaves).Root() || x.Len() != len(leaves)) {
		t.Errorf("%s: leaves %x, want %x", name, leavesOf(x), leaves)
	}
}

// mustTell is of a page, and others behind it, of which Load must tell that error; so must the words.
func mustTell(t *testing.T, name string, want api.Errno, first []byte, others ...[]byte) {
	t.Helper()
	d, l := hashOf(first), append([][]byte{first}, others...)
	if met, e := loadOf(d, l); e != want {
		t.Fatalf("%s: by the words %d, %x; the test wants %d", name, e, met, want)
	}
	met, _ := loadOf(d, l)
	mustBe(t, name, d, l, met, want)
	slices.Reverse(l)
	mustBe(t, name+", turned round", d, l, met, want)
}

// mustBeByWords is of pages of which Load must tell what the words do; that error is told.
func mustBeByWords(t *testing.T, name string, d api.Digest, l [][]byte) api.Errno {
	t.Helper()
	met, e := loadOf(d, l)
	mustBe(t, name, d, l, met, e)
	return e
}

// same tells whether two lists have the same texts.
func same(a, b [][]byte) bool {
	return slices.EqualFunc(a, b, bytes.Equal)
}

// own is a list with texts in memory of its own.
func own(l [][]byte) (m [][]byte) {
	for _, b := range l {
		m = append(m, slices.Clone(b))
	}
	return m
}

// hung is Save's pages with another one in the place of one of them, to which those above it lead.
func hung(l [][]byte, place int, b []byte) [][]byte {
	l = own(l)
	was := slices.Clone(l)
	l[place] = b
	for i := place - 1; i >= 0; i-- {
		for k := i + 1; k < len(l); k++ {
			old, now := hashOf(was[k]), hashOf(l[k])
			l[i] = bytes.ReplaceAll(l[i], old[:], now[:])
		}
	}
	return l
}

// sample is a name, and leaves of unlike indexes, in order.
type sample struct {
	name string
	l    []leaf
}

// below is so many leaves, at most 8, of which the three bits behind those many noughts are unlike: as far apart as can be, so that no side between them is without one.
func below(noughts, n int) []leaf {
	var indexes []api.Digest
	for i := range n {
		var d api.Digest
		for k := range 3 {
			if i>>k&1 == 1 {
				d = turned(d, noughts+k)
			}
		}
		indexes = append(indexes, d)
	}
	return numbered(indexes...)
}

// likeChance is so many leaves that are like chance.
func likeChance(n int) []leaf {
	var indexes []api.Digest
	for i := range n {
		indexes = append(indexes, chance(i))
	}
	return numbered(indexes...)
}

// comb is leaves of which each parts from that index at another bit, and that one.
func comb(d api.Digest) []leaf {
	indexes := []api.Digest{d}
	for i := range 256 {
		indexes = append(indexes, turned(d, i))
	}
	return numbered(indexes...)
}

// samples is trees of many shapes: flat, deep, to one side, of one page and of many.
func samples() []sample {
	var deep, pairs []api.Digest
	for i := range 16 {
		deep = append(deep, api.Digest{31: byte(i)})
		pairs = append(pairs, api.Digest{byte(i * 16)}, turned(api.Digest{byte(i * 16)}, 255))
	}
	l := []sample{
		{"none", nil},
		{"one", numbered(chance(1))},
		{"one whose index is nought", numbered(api.Digest{})},
		{"one whose index is all on", numbered(filled(0xff))},
		{"three", numbered(api.Digest{0xc0}, api.Digest{0x80}, api.Digest{1})},
		{"seven, 511 bytes", below(25, 7)},
		{"seven, 513 bytes", below(26, 7)},
		{"eight", below(0, 8)},
		{"alike up to the last bits", numbered(deep...)},
		{"pairs that part at the last bit", numbered(pairs...)},
		{"40 like chance", likeChance(40)},
		{"300 like chance", likeChance(300)},
		{"a comb", comb(api.Digest{})},
		{"a comb to the other side", comb(filled(0xff))},
		{"a comb to and fro", comb(chance(7))},
	}
	for _, bit := range []int{0, 1, 7, 8, 127, 189, 190, 191, 192, 254, 255} {
		l = append(l, sample{"two that part at " + strconv.Itoa(bit), numbered(chance(2), turned(chance(2), bit))})
	}
	return l
}
