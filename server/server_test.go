package server_test

import (
	"bytes"
	"crypto/hmac"
	"crypto/sha256"
	"encoding/binary"
	"math"
	"strings"
	"testing"

	"blazon/api"
	"blazon/chain"
	"blazon/model"
	"blazon/reap"
	"blazon/server"
	"blazon/store"
	"blazon/tags"
)

// The chapter's example, by the package alone.
func TestExample(t *testing.T) {
	s := begin(t, 2048).s
	if e := s.Submit(api.Request{Kind: api.Register, Name: "ann", Key: []byte("k")}); e != api.OK {
		t.Fatalf("Submit: %d", e)
	}
	x, e := s.Seal()
	if e != api.OK || x.Root.Epoch != 1 || len(x.Sig) != api.SigBytes {
		t.Fatalf("Seal: %d, %v", e, x.Root)
	}
	a, e := s.Lookup("ann", 1)
	if e != api.OK || a.Epoch != 1 || !a.There || !sameBinding(a.Binding, bound("ann", "k", 1)) {
		t.Errorf("Lookup: %d, %v", e, a)
	}
	if n := s.Pages(); n != 1 {
		t.Errorf("%d pages", n)
	}
}

// keyed is a keyed digest by the library.
func keyed(key api.Digest, parts ...string) (d api.Digest) {
	h := hmac.New(sha256.New, key[:])
	for _, part := range parts {
		h.Write([]byte(part))
	}
	h.Sum(d[:0])
	return d
}

// eight is a number's eight bytes.
func eight(n uint64) string {
	return string(binary.BigEndian.AppendUint64(nil, n))
}

// 21.1: where any binding's leaf is, and its value, by the library's digests.
func TestLeaf(t *testing.T) {
	for _, secret := range []api.Digest{{}, secret, {31: 255}} {
		for _, b := range []api.Binding{
			{}, bound("ann", "k", 1), bound("ann", "k", 2), bound("ann", "l", 1), bound("bob", "k", 1),
			bound("Ann", "k", 0), bound("", "", 0), bound("ann", "", math.MaxUint64), bound("x\x00", "\x00", 1<<32),
			bound(strings.Repeat("n", 33), strings.Repeat("k", 65), 7), bound(strings.Repeat("\xff", 1000), strings.Repeat("k", 100000), 1<<63),
		} {
			key := bytes.Clone(b.Key)
			salt := keyed(secret, "S", eight(b.Serial), b.Name)
			text := "V" + string(salt[:]) + eight(uint64(len(b.Name))) + b.Name + eight(b.Serial) + string(b.Key)
			for range 2 {
				index, value := server.Leaf(secret, b)
				if index != keyed(secret, "I", b.Name) || value != sha256.Sum256([]byte(text)) {
					t.Errorf("Leaf of %.20q %.20q %d: %x, %x", b.Name, b.Key, b.Serial, index, value)
				}
			}
			if !bytes.Equal(b.Key, key) {
				t.Errorf("Leaf of %.20q: the key was changed", b.Name)
			}
		}
	}
}

// undone is requests that can't be done, behind an epoch with ann (k, 1).
func undone() map[string]api.Request {
	ann := bound("ann", "k", 1)
	late, forged, noted, odd := change(ann, "l"), change(ann, "l"), register("dan", "k"), change(ann, "l")
	late.Auth = policyOf(bound("ann", "k", 2), "l")
	forged.Key = []byte("m")
	noted.Auth[0] = 1
	odd.Kind = 3
	return map[string]api.Request{
		"zero": {}, "no kind": odd, "no name": register("", "k"), "a name that is none": register("Ann", "k"),
		"a long name": register(strings.Repeat("n", 33), "k"), "no key": register("dan", ""), "a long key": register("dan", strings.Repeat("k", 65)),
		"twice": register("ann", "x"), "of none": change(bound("dan", "k", 1), "l"), "by another key": change(bound("ann", "x", 1), "l"),
		"late": late, "forged": forged, "a Register with an Auth": noted,
	}
}

// policyOf is what a key is asked for with.
func policyOf(b api.Binding, key string) api.Digest {
	return change(b, key).Auth
}

// 21.3: what can't be done has model's error, and nothing is changed; also where others wait, and behind calls that were refused.
func TestRefused(t *testing.T) {
	l := begin(t, 2048)
	l.ask(lookup("ann", 1), api.ErrEpoch)
	l.ask(history("ann", 1, 1), api.ErrEpoch)
	l.ask(lookup("Ann", 1), api.ErrName)
	l.must(prune(0), api.ErrEpoch)
	l.must(prune(1), api.ErrEpoch)
	l.seals(register("ann", "k"), register("bob", "l"))
	for range 2 {
		for name, q := range undone() {
			if got := l.do(submit(t, q)); got.e == api.OK {
				t.Errorf("%s: is done", name)
			}
		}
		for _, to := range []uint64{0, 2, 3, 64, 65, math.MaxUint64} {
			l.must(prune(to), api.ErrEpoch)
		}
		mustBeWhole(t, "behind what was refused", l.s, l.w)
		l.must(submit(t, register("cid", l.w.nextKey())), l.w.errTwice("cid"))
	}
	l.must(seal(), api.OK)
	mustBeWhole(t, "sealed", l.s, l.w)
}

// nextKey is a key that nobody has.
func (w *twin) nextKey() string {
	return strings.Repeat("n", len(w.dir.Queue)+1)
}

// errTwice is ErrTwice, if a name waits already.
func (w *twin) errTwice(name string) api.Errno {
	for _, q := range w.dir.Queue {
		if q.Name == name {
			return api.ErrTwice
		}
	}
	return api.OK
}

// 21.3: of requests that wait there are 16 at most, and Seal makes room; a binding may change several times in one epoch.
func TestWaiting(t *testing.T) {
	l := begin(t, 2048)
	for _, q := range many(0, 16) {
		l.must(submit(t, q), api.OK)
	}
	l.must(submit(t, register("zed", "k")), api.ErrFull)
	l.must(submit(t, register(nth(3), "k")), api.ErrTwice)
	l.must(seal(), api.OK)
	l.must(submit(t, register("zed", "k")), api.OK)
	for i := range uint64(15) {
		l.must(submit(t, change(bound("zed", strings.Repeat("k", int(i)+1), i+1), strings.Repeat("k", int(i)+2))), api.OK)
	}
	l.must(submit(t, register("ann", "k")), api.ErrFull)
	l.must(seal(), api.OK)
	if a := l.ask(lookup("zed", 2), api.OK).answers[0]; !sameBinding(a.Binding, bound("zed", strings.Repeat("k", 16), 16)) {
		t.Errorf("zed has %v", a.Binding)
	}
	mustBeWhole(t, "sealed", l.s, l.w)
	l.open()
	mustBeWhole(t, "opened", l.s, l.w)
}

// 21.3: an epoch with no binding, ones like the one ahead, ones in which a key changes, and one in which it is the old key again.
func TestEpochs(t *testing.T) {
	l := begin(t, 2048)
	ann, long := bound("ann", "k", 1), strings.Repeat("K", 64)
	for i, asked := range [][]api.Request{
		nil, nil,
		{register("ann", "k")}, nil,
		{change(ann, "l")}, {change(bound("ann", "l", 2), "k")}, {change(bound("ann", "k", 3), "k")},
		{register(strings.Repeat("z", 32), long), register("0", "\x00"), register("-.", "\xff")},
		{register("bob", "k"), change(bound("bob", "k", 1), "l"), change(bound("ann", "k", 4), long)},
		nil,
	} {
		l.seals(asked...)
		mustBeWhole(t, "behind epoch "+number(uint64(i+1)), l.s, l.w)
		mustBeWhole(t, "opened behind epoch "+number(uint64(i+1)), mustOpen(t, "a clone", clone(t, l.d)), l.w)
	}
	if a := l.ask(lookup("ann", 1), api.OK).answers[0]; a.There || a.Salt != (api.Digest{}) || !sameBinding(a.Binding, api.Binding{}) || a.Index != tags.IndexOf(secret, "ann") {
		t.Errorf("ann in an epoch with no binding: %v", a)
	}
	for n, serial := range map[uint64]uint64{3: 1, 4: 1, 5: 2, 6: 3, 7: 4, 8: 4, 9: 5, 10: 5} {
		if a := l.ask(lookup("ann", n), api.OK).answers[0]; !a.There || a.Binding.Serial != serial || a.Salt != tags.SaltOf(secret, "ann", serial) {
			t.Errorf("ann in %d: %v", n, a)
		}
	}
}

// 21.3: the roots that Seal tells can be followed from the pin on, each by its epoch's tree.
func TestRootsLead(t *testing.T) {
	l := begin(t, 2048)
	h := chain.Start(chain.Pin(seed))
	for i := range 4 {
		l.must(submit(t, register(nth(i), "k")), api.OK)
		x, e := l.s.Seal()
		_, l.w = l.w.seal()
		if e != api.OK || x.Root.Tree != treeOf(secret, l.s.Dir().Epochs[i]).Root() {
			t.Fatalf("epoch %d: %d, another tree", i+1, e)
		}
		if h, e = chain.Follow(h, x); e != api.OK {
			t.Fatalf("epoch %d can't be followed: %d", i+1, e)
		}
		mustBe(t, "told again", told{roots: []api.Signed{x}}, roots(uint64(i+1), uint64(i+1)).told(l.s))
	}
}

// 21.3: History over one epoch, over all, and its errors in their order.
func TestHistory(t *testing.T) {
	l := begin(t, 2048)
	for i := range 4 {
		l.seals(register(nth(i), "k"))
	}
	for range 2 {
		for _, x := range []struct {
			name     string
			from, to uint64
			e        api.Errno
		}{
			{nth(1), 4, 4, api.OK}, {nth(1), 3, 4, api.OK}, {nth(1), 3, 3, api.OK}, {"nobody", 3, 4, api.OK},
			{nth(1), 4, 3, api.ErrRange}, {nth(1), 3, 5, api.ErrEpoch}, {nth(1), 5, 4, api.ErrEpoch}, {nth(1), 0, 4, api.ErrEpoch},
			{nth(1), 4, 0, api.ErrEpoch}, {nth(1), math.MaxUint64, math.MaxUint64, api.ErrEpoch}, {"No", 5, 4, api.ErrName}, {"", 4, 3, api.ErrName},
			{strings.Repeat("n", 33), 1, 1, api.ErrName}, {strings.Repeat("n", 32), 4, 4, api.OK},
		} {
			l.ask(history(x.name, x.from, x.to), x.e)
		}
		mustBeWhole(t, "asked", l.s, l.w)
		l.must(prune(3), api.OK)
	}
	for _, x := range []struct {
		from, to uint64
		e        api.Errno
	}{{1, 4, api.ErrPruned}, {2, 3, api.ErrPruned}, {3, 2, api.ErrPruned}, {4, 1, api.ErrPruned}, {2, 5, api.ErrPruned}, {5, 2, api.ErrEpoch}, {4, 3, api.ErrRange}} {
		l.ask(history(nth(1), x.from, x.to), x.e)
	}
}

// 21.4: Roots at its edges, also of epochs that were let go.
func TestRoots(t *testing.T) {
	l := begin(t, 2048)
	for _, x := range [][2]uint64{{0, 0}, {1, 1}, {0, 1}, {1, 0}, {math.MaxUint64, 0}} {
		l.ask(roots(x[0], x[1]), api.ErrEpoch)
	}
	for i := range 4 {
		l.seals(register(nth(i), "k"))
	}
	for range 3 {
		for from := range uint64(6) {
			for to := range uint64(6) {
				e := api.OK
				if from == 0 || from == 5 || to == 0 || to == 5 {
					e = api.ErrEpoch
				} else if from > to {
					e = api.ErrRange
				}
				if got := l.ask(roots(from, to), e); e == api.OK && uint64(len(got.roots)) != to-from+1 {
					t.Errorf("from %d to %d: %d roots", from, to, len(got.roots))
				}
			}
		}
		l.ask(roots(1, math.MaxUint64), api.ErrEpoch)
		l.ask(roots(math.MaxUint64, 1), api.ErrEpoch)
		l.must(prune(l.w.dir.From+1), api.OK)
	}
}

// 21.4: opened anew roots are the same, whichever ones are asked for first.
func TestRootsInAnyOrder(t *testing.T) {
	l := begin(t, 2048)
	for i := range 3 {
		l.seals(register(nth(i), "k"))
	}
	for _, rows := range [][]question{
		{roots(3, 3), roots(1, 1), roots(2, 3)}, {roots(1, 3)}, {roots(1, 1), roots(3, 3)}, {roots(2, 2), roots(1, 3)},
	} {
		l.open()
		for _, q := range rows {
			l.ask(q, api.OK)
		}
		l.open()
		l.ask(rows[0], api.OK)
	}
	l.seals() // the head of the last root, none having been asked for
	l.open()
	l.seals(register("ann", "k"))
	mustBeWhole(t, "gone on", l.s, l.w)
}

// ever is all pages that were told while a server lived, each once.
type ever map[api.Digest][]byte

// add puts a twin's pages to those that were told.
func (p ever) add(w *twin) {
	for d, b := range w.kept() {
		p[d] = b
	}
}

// mustKeepNeeded is 21.5 by layer reap: of all pages that ever were, those that the trees from From on need are kept, and no others.
func mustKeepNeeded(t *testing.T, name string, l *life, all ever) {
	t.Helper()
	all.add(l.w)
	var links []api.Digest
	for n := l.w.dir.From; n <= uint64(len(l.w.epochs)); n++ {
		d, e := l.s.Link(n)
		if e != api.OK {
			t.Fatalf("%s: Link of %d: %d", name, n, e)
		}
		links = append(links, d)
	}
	var texts [][]byte
	for _, b := range all {
		texts = append(texts, b)
	}
	live, e := reap.Live(links, texts)
	if e != api.OK || len(live) != l.s.Pages() {
		t.Fatalf("%s: %d pages are needed, %d; there are %d", name, len(live), e, l.s.Pages())
	}
	for _, d := range live {
		if b, e := l.s.Page(d); e != api.OK || !bytes.Equal(b, all[d]) || tags.Of(b) != d {
			t.Errorf("%s: Page of %x: %d", name, d, e)
		}
		delete(all, d)
	}
	for d := range all {
		l.ask(page(d), api.ErrNone)
	}
	all.add(l.w)
}

// 21.5: pages that epochs share are counted once, and stay as long as one of them is answered.
func TestPages(t *testing.T) {
	l := begin(t, 2048)
	all := ever{}
	mustKeepNeeded(t, "no epoch", l, all)
	for i, asked := range [][]api.Request{
		{}, {}, many(0, 16), many(16, 16), {}, {change(bound(nth(5), "k5", 1), "l")}, many(32, 1), {}, {},
	} {
		l.seals(asked...)
		mustKeepNeeded(t, "behind epoch "+number(uint64(i+1)), l, all)
	}
	if w := l.w; len(w.epochs[3].l) < 4 || w.epochs[0].link != w.epochs[1].link || len(w.kept()) < 15 {
		t.Fatalf("the trees are no good for this test: %d pages of epoch 4, %d of all", len(w.epochs[3].l), len(w.kept()))
	}
	ahead := l.s.Pages()
	for _, to := range []uint64{1, 2, 1, 3, 4, 5, 5, 7, 2, 9, 9} {
		l.must(prune(to), api.OK)
		mustKeepNeeded(t, "behind Prune to "+number(to), l, all)
		if n := l.s.Pages(); n > ahead {
			t.Errorf("behind Prune to %d: %d pages, %d ahead", to, n, ahead)
		}
		ahead = l.s.Pages()
		l.open()
		mustKeepNeeded(t, "opened behind Prune to "+number(to), l, all)
	}
	l.seals(register("ann", "k"))
	mustKeepNeeded(t, "gone on", l, all)
	mustBeWhole(t, "gone on", l.s, l.w)
}

// 21.5: a page that the last epoch has again, but not the one ahead of it, is kept: trees without a name are alike, whenever they are sealed.
func TestPageThatComesAgain(t *testing.T) {
	l := begin(t, 2048)
	for i := range 3 {
		l.seals()
		l.must(prune(uint64(i+1)), api.OK)
		if n := l.s.Pages(); n != 1 {
			t.Errorf("%d pages behind %d epochs without a name", n, i+1)
		}
	}
	l.ask(page(tags.Of([]byte{0})), api.OK)
	l.seals(register("ann", "k"))
	if n := l.s.Pages(); n != 2 {
		t.Errorf("%d pages, of two trees that share none", n)
	}
	l.must(prune(4), api.OK)
	l.ask(page(tags.Of([]byte{0})), api.ErrNone)
}

// 21.5: Link at its edges, also of epochs that were let go.
func TestLink(t *testing.T) {
	l := begin(t, 2048)
	l.ask(link(0), api.ErrEpoch)
	l.ask(link(1), api.ErrEpoch)
	for i := range 3 {
		l.seals(many(16*i, 16)...)
	}
	for range 3 {
		for n := uint64(1); n <= 3; n++ {
			if got := l.ask(link(n), api.OK); got.link != l.w.epochs[n-1].link {
				t.Errorf("Link of %d: %x", n, got.link)
			}
		}
		for _, n := range []uint64{0, 4, 64, 65, 1 << 32, math.MaxUint64} {
			l.ask(link(n), api.ErrEpoch)
		}
		l.must(prune(l.w.dir.From%3+1), api.OK)
	}
}

// 21.3: Prune to what is let go already, to the first one, to the last one, and once more.
func TestPrune(t *testing.T) {
	l := begin(t, 2048)
	for i := range 5 {
		l.seals(register(nth(i), "k"))
	}
	for _, x := range []struct{ to, from uint64 }{{1, 1}, {3, 3}, {3, 3}, {2, 3}, {1, 3}, {4, 4}, {5, 5}, {4, 5}, {5, 5}} {
		l.must(prune(x.to), api.OK)
		if d := l.s.Dir(); d.From != x.from || len(d.Epochs) != 5 {
			t.Errorf("behind Prune to %d: From %d, %d epochs", x.to, d.From, len(d.Epochs))
		}
		mustBeWhole(t, "behind Prune to "+number(x.to), l.s, l.w)
		l.open()
		mustBeWhole(t, "opened behind Prune to "+number(x.to), l.s, l.w)
	}
	l.must(prune(6), api.ErrEpoch)
	l.must(submit(t, register("ann", "k")), api.OK)
	l.must(prune(5), api.OK) // what waits goes on waiting
	l.must(seal(), api.OK)
	mustBeWhole(t, "gone on", l.s, l.w)
}

// 21.3: answers of epochs that were sealed stay, whatever is done behind them.
func TestAnswersStay(t *testing.T) {
	l := begin(t, 2048)
	l.seals(register("ann", "k"))
	want := lookup("ann", 1).told(l.s)
	for i := range 3 {
		l.seals(change(bound("ann", "k", uint64(i+1)), "k"), register(nth(i), "x"))
		mustBe(t, "ann in 1", lookup("ann", 1).told(l.s), want)
	}
}

// The calls of a store are a server's own.
type keys interface {
	Apply(l []api.Act) api.Errno
	Get(key string) ([]byte, bool)
	Len() int
}

// A server has all of its store's methods: it is the store that lies on its disk.
func TestStore(t *testing.T) {
	l := begin(t, 64)
	for i := range 4 {
		var k keys = l.s
		st, e := store.Open(clone(t, l.d))
		if e != api.OK || st.Len() != k.Len() {
			t.Fatalf("%d epochs: %d, %d keys, %d on the disk", i, e, k.Len(), st.Len())
		}
		n := 0
		for key, text := range l.s.All() {
			a, ok := st.Get(key)
			b, there := k.Get(key)
			if !ok || !there || !bytes.Equal(a, text) || !bytes.Equal(b, text) {
				t.Errorf("%d epochs: under %q another text lies on the disk", i, key)
			}
			n++
		}
		if n != st.Len() || n == 0 && i > 0 {
			t.Errorf("%d epochs: %d keys of %d", i, n, st.Len())
		}
		if e := k.Apply([]api.Act{{Key: ""}}); e != api.ErrArg {
			t.Errorf("Apply of what may be no batch: %d", e)
		}
		l.seals(register(nth(i), "k"))
	}
}

// Calls on a server that Open has not made don't panic.
func TestZero(t *testing.T) {
	for _, n := range []uint64{0, 1, 2, math.MaxUint64} {
		var s server.Server
		s.Submit(register("ann", "k"))
		s.Submit(api.Request{})
		s.Seal()
		s.Prune(n)
		s.Lookup("ann", n)
		s.History("ann", n, 1)
		s.Roots(n, n)
		s.Roots(1, n)
		s.Page(api.Digest{})
		s.Link(n)
		s.Dir()
		s.Pages()
	}
}

// P7: two servers of unlike disks tell the same, and like disks have the same bytes.
func TestAlike(t *testing.T) {
	a, b, other := begin(t, 256), begin(t, 256), begin(t, 1024)
	for i := range 4 {
		for _, l := range []*life{a, b, other} {
			l.seals(many(16*i, 12+i)...)
			l.must(prune(uint64(i/2+1)), api.OK)
		}
		a.ask(roots(1, 1), api.OK)
		if !sameBytes(a.d, b.d) {
			t.Errorf("behind epoch %d the disks are unlike", i+1)
		}
		mustBeAtRest(t, "another disk", other.s, a.w)
	}
	if !sameDir(model.New(), begin(t, 8).s.Dir()) {
		t.Error("a new one")
	}
}
