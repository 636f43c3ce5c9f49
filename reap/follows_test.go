package reap_test

import (
	"bytes"
	"math/rand/v2"
	"slices"
	"strconv"
	"testing"

	"blazon/api"
	"blazon/pages"
	"blazon/reap"
	"blazon/tree"
)

// 18.3: what follows, of trees that are kept and pages of which some are idle.

// sameTree tells whether two trees have the same leaves, and the same root.
func sameTree(a, b *tree.Tree) bool {
	var l, m []api.Digest
	for index, value := range a.All() {
		l = append(l, index, value)
	}
	for index, value := range b.All() {
		m = append(m, index, value)
	}
	return slices.Equal(l, m) && a.Root() == b.Root() && a.Len() == b.Len()
}

// mustRead is of pages by which each tree must be read as it was.
func mustRead(t *testing.T, name string, some []kept, l [][]byte) {
	t.Helper()
	for _, k := range some {
		if x, e := pages.Load(k.link, l); e != api.OK || !sameTree(x, k.tree) {
			t.Errorf("%s: %s is not read as it was: %d", name, k.name, e)
		}
	}
}

// mustFollow is of trees that are kept, and pages with theirs among them. It tells how many are idle.
func mustFollow(t *testing.T, name string, some []kept, l [][]byte) int {
	t.Helper()
	links := linksOf(some)
	got := mustTell(t, name, links, l, api.OK)
	mustRead(t, name+", without the idle ones", some, got.need)
	if len(got.need)+len(got.idles) != len(l) {
		t.Errorf("%s: %d needed, %d idle of %d", name, len(got.need), len(got.idles), len(l))
	}
	again := mustTell(t, name+", of the needed ones", links, got.need, api.OK)
	if !slices.Equal(again.live, got.live) || !same(again.need, got.need) || len(again.idles) > 0 {
		t.Errorf("%s: of what is needed %d are needed, %d idle", name, len(again.need), len(again.idles))
	}
	most := len(some)
	for _, k := range some {
		most += 256 * k.tree.Len()
	}
	if len(got.live) > most || len(got.live) > 0 && len(some) == 0 {
		t.Errorf("%s: %d pages of at most %d", name, len(got.live), most)
	}
	mustNeedEach(t, name, some, got)
	return len(got.idles)
}

// mustNeedEach is of needed pages: without any one of them some tree lacks it.
func mustNeedEach(t *testing.T, name string, some []kept, got told) {
	t.Helper()
	links := linksOf(some)
	step := 1 + len(got.live)/40 // of a great many some are enough
	for i := 0; i < len(got.live); i += step {
		d := got.live[i]
		less := slices.DeleteFunc(slices.Clone(got.need), func(b []byte) bool { return hashOf(b) == d })
		if len(less) == len(got.need) {
			t.Errorf("%s: %x is told, but is no needed page's", name, d)
		}
		if !slices.ContainsFunc(links, func(link api.Digest) bool {
			_, e := pages.Load(link, less)
			return e == api.ErrNone
		}) {
			t.Errorf("%s: without page %x all trees are read", name, d)
		}
		if _, e := reap.Live(links, less); e != api.ErrNone {
			t.Errorf("%s: without page %x: %d", name, d, e)
		}
	}
}

// 18.3: one tree of each shape, and it with another one; those that were let go can't be read.
func TestFollowsOfShapes(t *testing.T) {
	l := samples()
	all := slices.Concat(foreign(), allOf(l))
	for i, k := range l {
		next := l[(i+1)%len(l)]
		mustFollow(t, k.name+" and "+next.name, []kept{k, next}, all)
		if n := mustFollow(t, k.name, []kept{k}, all); n != len(all)-len(k.l) {
			t.Errorf("%s: %d idle", k.name, n)
		}
		need, _, _ := reap.Split([]api.Digest{k.link}, all)
		if _, e := pages.Load(next.link, need); e != api.ErrNone {
			t.Errorf("%s was let go, but is still read: %d", next.name, e)
		}
	}
	if n := mustFollow(t, "all of them", l, all); n != len(foreign()) {
		t.Errorf("all of them: %d idle", n)
	}
}

// 18.3: some epochs of a directory, the others of which were let go.
func TestFollowsOfEpochs(t *testing.T) {
	dice := rand.New(rand.NewPCG(18, 2))
	for range 30 {
		l := growing(dice, 1+dice.IntN(12))
		all := append(allOf(l), foreign()...)
		dice.Shuffle(len(all), func(i, j int) { all[i], all[j] = all[j], all[i] })
		some := slices.DeleteFunc(slices.Clone(l), func(kept) bool { return dice.IntN(3) == 0 })
		mustFollow(t, "some epochs", some, all)
	}
}

// 18.3: the fewer links the fewer pages: of all sets of some links, each needs no page that one with more links does not.
func TestFewerLinks(t *testing.T) {
	dice := rand.New(rand.NewPCG(18, 3))
	l := append(growing(dice, 4), samples()[2], samples()[4])
	all := slices.Concat(foreign(), allOf(l))
	var live [1 << 7][]api.Digest
	for set := range live {
		var links []api.Digest
		for i, k := range l {
			if set>>i&1 == 1 {
				links = append(links, k.link)
			}
		}
		got := mustTell(t, "a set of links", links, all, api.OK)
		live[set] = got.live
		for i := range l {
			if set>>i&1 == 1 {
				mustBeAmong(t, live[set&^(1<<i)], live[set])
			}
		}
	}
	if len(l) != 7 || len(live[0]) != 0 || len(live[1<<7-1]) < 10 {
		t.Errorf("%d links, %d and %d pages", len(l), len(live[0]), len(live[1<<7-1]))
	}
}

// mustBeAmong is of digests, all of which must be among others.
func mustBeAmong(t *testing.T, few, many []api.Digest) {
	t.Helper()
	for _, d := range few {
		if _, ok := slices.BinarySearchFunc(many, d, compared); !ok {
			t.Errorf("with fewer links %x is needed, with more it is not", d)
		}
	}
	if len(few) > len(many) {
		t.Errorf("with fewer links %d pages, with more %d", len(few), len(many))
	}
}

// 18.3: at most 1 and 256 for each leaf of each tree: trees that have as many as can be.
func TestMostPages(t *testing.T) {
	var some []kept
	for _, d := range []api.Digest{{}, chance(3), chance(4)} {
		some = append(some, keptOf("two that part at the last bit", numbered(d, turned(d, 255))), keptOf("a comb", comb(d)))
	}
	for i := range some {
		mustFollow(t, "deep", some[i:i+1], allOf(some))
	}
	mustFollow(t, "all deep ones", some, allOf(some))
	for n := range 4 {
		k := keptOf(strconv.Itoa(n)+" leaves", likeChance(n))
		got := mustTell(t, k.name, []api.Digest{k.link}, k.l, api.OK)
		if len(got.live) != 1 {
			t.Errorf("%s: %d pages", k.name, len(got.live))
		}
	}
}

// 18.3, P6: a directory that lets go of epochs as it goes on: what is kept is read as it was, by the pages that are needed alone.
func TestGoingOn(t *testing.T) {
	dice := rand.New(rand.NewPCG(18, 4))
	var some []kept
	var have [][]byte
	let := 0
	for _, k := range growing(dice, 50) {
		some = append(some, k)
		for _, b := range k.l {
			if !slices.ContainsFunc(have, func(c []byte) bool { return bytes.Equal(b, c) }) {
				have = append(have, b)
			}
		}
		if dice.IntN(3) == 0 {
			some = some[dice.IntN(len(some)+1):]
		}
		need, idles, e := reap.Split(linksOf(some), have)
		if e != api.OK {
			t.Fatalf("%s: %d", k.name, e)
		}
		let += len(idles)
		have = need
		mustRead(t, k.name, some, have)
		if live, e := reap.Live(linksOf(some), have); e != api.OK || len(live) != len(have) {
			t.Errorf("%s: %d pages of %d, error %d", k.name, len(live), len(have), e)
		}
	}
	if let < 100 {
		t.Errorf("%d pages were let go: too few to tell", let)
	}
}
