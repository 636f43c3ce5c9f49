package reap_test

import (
	"bytes"
	"encoding/hex"
	"math/rand/v2"
	"slices"
	"testing"

	"blazon/api"
	"blazon/pages"
	"blazon/reap"
	"blazon/tree"
)

// emptyPage is the digest of the page of a tree without leaves, as another program told it.
const emptyPage = "6e340b9cffb37a989ca544e6bb780a2c78901d3fb33738768511a30617afa01d"

// The chapter's example.
func TestExample(t *testing.T) {
	d, l := pages.Save(tree.Empty())
	got, e := reap.Live([]api.Digest{d}, l)
	if e != api.OK || len(got) != 1 || hex.EncodeToString(got[0][:]) != emptyPage {
		t.Errorf("without leaves: %d, %x", e, got)
	}
	for _, l := range [][][]byte{nil, {{1}}, {{}}, foreign()} {
		if got, e := reap.Live([]api.Digest{d}, l); e != api.ErrNone || len(got) > 0 {
			t.Errorf("a link that lacks: %d, %x", e, got)
		}
		if need, idles, e := reap.Split([]api.Digest{d}, l); e != api.ErrNone || len(need)+len(idles) > 0 {
			t.Errorf("a link that lacks: %d, %x, %x", e, need, idles)
		}
	}
}

// mustNeed is of links and pages: those must be needed, the others idle, all in order.
func mustNeed(t *testing.T, name string, links []api.Digest, l, need, idles [][]byte) {
	t.Helper()
	got := mustTell(t, name, links, l, api.OK)
	if !same(got.need, need) || !same(got.idles, idles) {
		t.Errorf("%s: needed %x, idle %x; want %x, %x", name, got.need, got.idles, need, idles)
	}
	if live := slices.SortedFunc(slices.Values(hashesOf(need...)), compared); !slices.Equal(got.live, slices.Compact(live)) {
		t.Errorf("%s: %x, want %x", name, got.live, live)
	}
}

// 18.1, 18.2: pages that were written down by hand.
func TestByHand(t *testing.T) {
	leaf := func(index, value api.Digest) []byte { return slices.Concat([]byte{1}, index[:], value[:]) }
	x, y, v, w := api.Digest{}, turned(api.Digest{}, 191), chance(1), chance(2)
	none, one := []byte{0}, leaf(x, v)
	below := slices.Concat(bytes.Repeat([]byte{2}, 191), leaf(x, v), leaf(y, w), make([]byte, 190))
	d := hashOf(below)
	above := slices.Concat([]byte{2, 3}, d[:], []byte{0})
	l := [][]byte{one, below, none, above}
	mustNeed(t, "without leaves", hashesOf(none), l, [][]byte{none}, [][]byte{one, below, above})
	mustNeed(t, "of one leaf", hashesOf(one), l, [][]byte{one}, [][]byte{below, none, above})
	mustNeed(t, "of two", hashesOf(above), l, [][]byte{below, above}, [][]byte{one, none})
	mustNeed(t, "all", hashesOf(above, one, none), l, l, nil)
	mustNeed(t, "none", nil, l, nil, l)
	mustTell(t, "the page below, which is no tree", hashesOf(below), l, api.ErrBad)
	mustTell(t, "without the page below", hashesOf(above), [][]byte{none, above}, api.ErrNone)
}

// 18.1, 18.2: no links: nothing is needed.
func TestNoLinks(t *testing.T) {
	for _, l := range [][][]byte{nil, {}, {{0}}, {nil}, {{}, {}}, foreign(), allOf(samples())} {
		mustNeed(t, "links nil", nil, l, nil, l)
		mustNeed(t, "links without elements", []api.Digest{}, l, nil, l)
		mustNeed(t, "links behind the list's end", hashesOf([]byte{0}, []byte{1})[:0], l, nil, l)
	}
}

// 18.1, 18.2: one link, of each shape of tree; all of its pages are needed, and they alone.
func TestOneLink(t *testing.T) {
	others := foreign()
	for _, k := range samples() {
		links := []api.Digest{k.link}
		mustNeed(t, k.name, links, k.l, k.l, nil)
		mustNeed(t, k.name+", others ahead", links, slices.Concat(others, k.l), k.l, others)
		mustNeed(t, k.name+", others behind", links, slices.Concat(k.l, others), k.l, others)
		turned := slices.Clone(k.l)
		slices.Reverse(turned)
		mustNeed(t, k.name+", turned round", links, turned, turned, nil)
		mustNeed(t, k.name+", twice the link", append(links, k.link), slices.Concat(others, turned), turned, others)
		mustNeed(t, k.name+", many times the link", slices.Repeat(links, 9), turned, turned, nil)
		mustTell(t, k.name+", no pages at all", links, nil, api.ErrNone)
		mustTell(t, k.name+", no pages at all", links, [][]byte{}, api.ErrNone)
		mustTell(t, k.name+", pages behind the list's end", links, slices.Clone(k.l)[:0], api.ErrNone)
	}
}

// 18.1, 18.2: all links of many trees at once, and each of them with the pages of all.
func TestManyLinks(t *testing.T) {
	l := samples()
	all, others := allOf(l), foreign()
	mustNeed(t, "all", linksOf(l), all, all, nil)
	mustNeed(t, "all, and others", linksOf(l), slices.Concat(others, all), all, others)
	ahead := 0
	for _, k := range l {
		idles := slices.Concat(all[:ahead], all[ahead+len(k.l):])
		mustNeed(t, k.name+" of all", []api.Digest{k.link}, all, k.l, idles)
		ahead += len(k.l)
	}
}

// 18.1, 18.2: trees that share pages: what they share is told once, and needed by each of them.
func TestShared(t *testing.T) {
	a := keptOf("a", likeChance(60))
	b := keptOf("b", a.tree.Put(chance(400), chance(401)))
	c := keptOf("c", a.tree.Put(chance(5), chance(402)))
	three := []kept{a, b, c}
	all := allOf(three)
	mustTell(t, "all", linksOf(three), all, api.OK)
	for i, k := range three {
		got := mustTell(t, k.name, []api.Digest{k.link}, all, api.OK)
		if len(got.live) != len(k.l) || len(got.need) < 2*len(k.l) || len(got.idles) == 0 {
			t.Errorf("%s: %d told, %d needed, %d idle", k.name, len(got.live), len(got.need), len(got.idles))
		}
		two := []kept{k, three[(i+1)%3]}
		got = mustTell(t, k.name+" and another one", linksOf(two), all, api.OK)
		slices.Reverse(two)
		turned := mustTell(t, k.name+" behind another one", linksOf(two), all, api.OK)
		if !slices.Equal(got.live, turned.live) || !same(got.need, turned.need) || len(got.live) >= len(two[0].l)+len(two[1].l) {
			t.Errorf("%s: %d told of two trees, %d turned round", k.name, len(got.live), len(turned.live))
		}
	}
	none := keptOf("none", tree.Empty())
	both := slices.Concat(a.l, none.l)
	mustNeed(t, "two trees that share nothing, one of them twice", []api.Digest{none.link, a.link, none.link}, both, both, nil)
}

// 18.1: what is told rises, each once.
func TestRising(t *testing.T) {
	l := samples()
	links := slices.Concat(linksOf(l), linksOf(l))
	got, e := reap.Live(links, slices.Concat(allOf(l), allOf(l)))
	if e != api.OK || len(got) < 250 {
		t.Fatalf("%d told, error %d", len(got), e)
	}
	for i := 1; i < len(got); i++ {
		if bytes.Compare(got[i-1][:], got[i][:]) >= 0 {
			t.Errorf("%x stands ahead of %x", got[i-1], got[i])
		}
	}
	// Of all rows of three links in which the links stand in another order, the same.
	three := linksOf(l[4:7])
	want, _ := reap.Live(three, allOf(l))
	for _, row := range [][]int{{0, 2, 1}, {1, 0, 2}, {1, 2, 0}, {2, 0, 1}, {2, 1, 0}, {2, 1, 0, 1, 2}} {
		var links []api.Digest
		for _, i := range row {
			links = append(links, three[i])
		}
		if got, e := reap.Live(links, allOf(l)); e != api.OK || !slices.Equal(got, want) {
			t.Errorf("%v: %d, %x; want %x", row, e, got, want)
		}
	}
}

// 18.2: pages that stand in the list twice are told twice, where they stand.
func TestTwice(t *testing.T) {
	for _, k := range samples() {
		links := []api.Digest{k.link}
		twice := slices.Concat(k.l, k.l)
		mustNeed(t, k.name+", all twice", links, twice, twice, nil)
		x, y := []byte("idle"), []byte{0, 0}
		mustNeed(t, k.name+", idle ones twice", links, slices.Concat([][]byte{x, y, x}, k.l, [][]byte{x}), k.l, [][]byte{x, y, x, x})
		mixed := slices.Concat(k.l[:1], [][]byte{x}, k.l, [][]byte{y, x}, k.l[len(k.l)-1:], [][]byte{y})
		need := slices.Concat(k.l[:1], k.l, k.l[len(k.l)-1:])
		mustNeed(t, k.name+", mixed", links, mixed, need, [][]byte{x, y, x, y})
		mustNeed(t, k.name+", no links", nil, mixed, nil, mixed)
	}
}

// noTrees is pages that are no trees' first ones, with the error that they come to.
func noTrees() map[string][][]byte {
	_, many := pages.Save(likeChance(40))
	_, two := pages.Save(numbered(api.Digest{}, turned(api.Digest{}, 191)))
	one := two[1][191:256]
	single := hashOf(one)
	return map[string][][]byte{
		"no bytes":                     {nil},
		"another byte":                 {{4}},
		"text":                         {[]byte("no page")},
		"a byte too many":              {{0, 0}},
		"a link cut short":             {append([]byte{3}, one[:31]...)},
		"a piece without leaves":       {{2, 0, 0}},
		"a page cut short":             append([][]byte{many[0][:len(many[0])-1]}, many[1:]...),
		"a page from within":           many[1:],
		"a page below":                 two[1:],
		"one leaf at another side":     {slices.Concat([]byte{2, 0}, one)},
		"one leaf that is linked":      {slices.Concat([]byte{2, 3}, single[:], []byte{0}), one},
		"one leaf, in a longer piece":  {slices.Concat([]byte{2}, one, []byte{0})},
		"too deep":                     {bytes.Repeat([]byte{2}, 5000)},
		"a piece of more than a page":  {pieceOf(likeChance(9))},
		"a page that goes on too soon": onTooSoon(),
	}
}

// pieceOf is the piece of all of a tree's leaves, be it as long as it may.
func pieceOf(t *tree.Tree) []byte {
	type leaf struct{ index, value api.Digest }
	var leaves []leaf
	for index, value := range t.All() {
		leaves = append(leaves, leaf{index, value})
	}
	var piece func(l []leaf, bit int) []byte
	piece = func(l []leaf, bit int) []byte {
		switch len(l) {
		case 0:
			return []byte{0}
		case 1:
			return slices.Concat([]byte{1}, l[0].index[:], l[0].value[:])
		}
		on := slices.IndexFunc(l, func(x leaf) bool { return x.index[bit/8]>>(7-bit%8)&1 == 1 })
		if on < 0 {
			on = len(l)
		}
		return slices.Concat([]byte{2}, piece(l[:on], bit+1), piece(l[on:], bit+1))
	}
	return piece(leaves, 0)
}

// onTooSoon is the pages of four leaves that would go on one page.
func onTooSoon() [][]byte {
	whole := pieceOf(numbered(api.Digest{0x01}, api.Digest{0x41}, api.Digest{0x81}, api.Digest{0xc1}))
	off, on := whole[1:132], whole[132:]
	d, e := hashOf(off), hashOf(on)
	return [][]byte{slices.Concat([]byte{2, 3}, d[:], []byte{3}, e[:]), off, on}
}

// 18.1, 18.2: a link to a page that is no tree: ErrBad; to one that no page has: ErrNone. Nothing is told beside an error.
func TestErrors(t *testing.T) {
	others := slices.Concat(allOf(samples()), foreign())
	for name, l := range noTrees() {
		links := hashesOf(l[0])
		mustTell(t, name+" by itself", links, l, api.ErrBad)
		mustTell(t, name+" with others", links, slices.Concat(others, l), api.ErrBad)
		mustTell(t, name+" and nobody links it", linksOf(samples()), slices.Concat(others, l), api.OK)
	}
	for _, k := range samples() {
		for i, b := range k.l {
			if i > 12 && i < len(k.l)-4 {
				continue
			}
			without := slices.Delete(slices.Clone(k.l), i, i+1)
			mustTell(t, k.name+" without a page", []api.Digest{k.link}, without, api.ErrNone)
			mustTell(t, k.name+" with a page turned", []api.Digest{k.link}, append(without, append([]byte{9}, b...)), api.ErrNone)
			if i > 0 && len(b) > 64 {
				mustTell(t, k.name+" from a page within on", hashesOf(b), k.l, api.ErrBad)
			}
		}
	}
	for _, d := range []api.Digest{{}, chance(1), likeChance(40).Root(), tree.Empty().Root()} {
		mustTell(t, "a digest of no page", []api.Digest{d}, others, api.ErrNone)
	}
}

// 18.1, 18.2: of the errors of several links the first one's is told, wherever links without one stand.
func TestFirstError(t *testing.T) {
	good, other := keptOf("good", likeChance(40)), keptOf("other", numbered(chance(1)))
	bad, lacking := []byte("no page"), chance(1)
	l := slices.Concat(good.l, [][]byte{bad}, other.l)
	ok, too, wrong := good.link, other.link, hashOf(bad)
	for _, c := range []struct {
		links []api.Digest
		want  api.Errno
	}{
		{[]api.Digest{wrong, lacking}, api.ErrBad},
		{[]api.Digest{lacking, wrong}, api.ErrNone},
		{[]api.Digest{ok, wrong, lacking}, api.ErrBad},
		{[]api.Digest{ok, lacking, wrong}, api.ErrNone},
		{[]api.Digest{ok, too, ok, lacking, too, wrong}, api.ErrNone},
		{[]api.Digest{ok, too, ok, wrong, too, lacking}, api.ErrBad},
		{[]api.Digest{wrong, ok}, api.ErrBad},
		{[]api.Digest{lacking, ok}, api.ErrNone},
		{[]api.Digest{ok, too, wrong}, api.ErrBad},
		{[]api.Digest{too, ok, lacking}, api.ErrNone},
		{[]api.Digest{ok, ok, ok, lacking}, api.ErrNone},
		{[]api.Digest{wrong, wrong, lacking}, api.ErrBad},
		{[]api.Digest{lacking, lacking, wrong}, api.ErrNone},
		{[]api.Digest{ok, too, ok}, api.OK},
	} {
		mustTell(t, "several links", c.links, l, c.want)
		turned := slices.Clone(l)
		slices.Reverse(turned)
		mustTell(t, "several links, pages turned round", c.links, turned, c.want)
	}
	// A tree of which a page is linked by a good one is bad by itself, whether it was met ahead or not.
	inner := hashOf(good.l[1])
	mustTell(t, "a page within, behind its tree", []api.Digest{ok, inner, lacking}, l, api.ErrBad)
	mustTell(t, "a page within, ahead of its tree", []api.Digest{inner, ok, lacking}, l, api.ErrBad)
}

// R3: what lies behind a list's length, and a page's, is neither read nor written nor handed out.
func TestBehindLength(t *testing.T) {
	k := keptOf("40", likeChance(40))
	var l [][]byte
	for _, b := range k.l {
		l = append(l, slices.Concat(b, []byte("behind"))[:len(b)])
	}
	l = append(l, []byte("idle, behind")[:4])
	n := len(l)
	l = append(l, k.l[0], []byte("x"))[:n]
	links := []api.Digest{k.link, chance(1)}[:1]
	mustNeed(t, "with more behind", links, l, k.l, [][]byte{[]byte("idle")})
	if links[:2][1] != chance(1) || !bytes.Equal(l[:n+1][n], k.l[0]) || string(l[:n+2][n+1]) != "x" {
		t.Error("what lies behind a list was changed")
	}
	for _, b := range l[:n-1] {
		if string(b[len(b):len(b)+6]) != "behind" {
			t.Error("what lies behind a page was changed")
		}
	}
}

// P1, P7: links and pages like chance, good and bad ones mixed.
func TestLikeChance(t *testing.T) {
	dice := rand.New(rand.NewPCG(18, 1))
	trees := slices.Concat(samples()[:8], growing(dice, 12))
	var bad [][]byte
	for _, name := range []string{"no bytes", "text", "a page from within", "one leaf that is linked", "too deep", "a page that goes on too soon"} {
		bad = append(bad, noTrees()[name]...)
	}
	count := map[api.Errno]int{}
	for range 400 {
		var l [][]byte
		var links []api.Digest
		for range dice.IntN(6) {
			k := trees[dice.IntN(len(trees))]
			l = append(l, k.l...)
			links = append(links, k.link)
		}
		if dice.IntN(2) == 0 {
			l = append(l, bad...)
		}
		if dice.IntN(3) == 0 && len(l) > 0 {
			links = append(links, hashOf(l[dice.IntN(len(l))]))
		}
		if dice.IntN(3) == 0 && len(l) > 0 {
			i := dice.IntN(len(l))
			l = slices.Delete(l, i, i+1)
		}
		dice.Shuffle(len(l), func(i, j int) { l[i], l[j] = l[j], l[i] })
		dice.Shuffle(len(links), func(i, j int) { links[i], links[j] = links[j], links[i] })
		_, want := liveOf(links, l)
		mustTell(t, "like chance", links, l, want)
		count[want]++
	}
	if count[api.OK] < 50 || count[api.ErrNone] < 30 || count[api.ErrBad] < 30 {
		t.Errorf("%v: too few of some", count)
	}
}
