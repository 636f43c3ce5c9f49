package server_test

// What each call is asked through: it must tell what the words do; the same again; in new memory; and leave what is handed in.

import (
	"bytes"
	"fmt"
	"math"
	"slices"
	"strconv"
	"testing"

	"blazon/api"
	"blazon/disk"
	"blazon/policy"
	"blazon/proof"
	"blazon/server"
)

// The secrets of most servers here.
var (
	secret = api.Digest{1, 31: 7}
	seed   = api.Digest{2, 31: 9}
)

// question is a call that changes nothing.
type question struct {
	name  string
	told  func(s *server.Server) told
	words func(w *twin) told
}

// lookup is Lookup of a name in an epoch.
func lookup(name string, n uint64) question {
	return question{
		name: "Lookup of " + strconv.Quote(name) + " in " + number(n),
		told: func(s *server.Server) told {
			a, e := s.Lookup(name, n)
			return told{e: e, answers: []api.Answer{a}}
		},
		words: func(w *twin) told { return w.lookup(name, n) },
	}
}

// history is History of a name from an epoch to another.
func history(name string, from, to uint64) question {
	return question{
		name: "History of " + strconv.Quote(name) + " from " + number(from) + " to " + number(to),
		told: func(s *server.Server) told {
			l, e := s.History(name, from, to)
			return told{e: e, answers: l}
		},
		words: func(w *twin) told { return w.history(name, from, to) },
	}
}

// roots is Roots from an epoch to another.
func roots(from, to uint64) question {
	return question{
		name: "Roots from " + number(from) + " to " + number(to),
		told: func(s *server.Server) told {
			l, e := s.Roots(from, to)
			return told{e: e, roots: l}
		},
		words: func(w *twin) told { return w.roots(from, to) },
	}
}

// page is Page of a digest.
func page(d api.Digest) question {
	return question{
		name: fmt.Sprintf("Page of %x", d),
		told: func(s *server.Server) told {
			b, e := s.Page(d)
			return told{e: e, page: b}
		},
		words: func(w *twin) told { return w.page(d) },
	}
}

// link is Link of an epoch.
func link(n uint64) question {
	return question{
		name: "Link of " + number(n),
		told: func(s *server.Server) told {
			d, e := s.Link(n)
			return told{e: e, link: d}
		},
		words: func(w *twin) told { return w.link(n) },
	}
}

// dir is Dir.
func dir() question {
	return question{
		name:  "Dir",
		told:  func(s *server.Server) told { return told{dir: s.Dir()} },
		words: func(w *twin) told { return told{dir: copied(w.dir)} },
	}
}

// count is Pages.
func count() question {
	return question{
		name:  "Pages",
		told:  func(s *server.Server) told { return told{n: s.Pages()} },
		words: func(w *twin) told { return told{n: len(w.kept())} },
	}
}

// mustTell asks a question of a server, which must tell what the words do.
func mustTell(t *testing.T, name string, s *server.Server, w *twin, q question) told {
	t.Helper()
	name += ", " + q.name
	want, raised := q.words(w), q.words(w)
	first, again := q.told(s), q.told(s)
	mustBe(t, name, first, want)
	raise(again)
	mustBe(t, name+": what is told twice shares memory", first, want)
	raise(first)
	raise(raised)
	mustBe(t, name+": what is told shares memory with itself", first, raised)
	mustBe(t, name+": what is told shares memory with the server", q.told(s), want)
	return want
}

// mustBe holds what a call tells against what it must tell.
func mustBe(t *testing.T, name string, got, want told) {
	t.Helper()
	if !same(got, want) {
		t.Fatalf("%s: %s; want %s", name, shown(got), shown(want))
	}
}

// shown is what a call tells, as far as a line has room for it.
func shown(a told) string {
	s := fmt.Sprintf("%d %d %x %v %v %.20x", a.e, a.n, a.link[:4], a.dir, a.answers, a.page)
	for _, x := range a.roots {
		s += fmt.Sprintf(" %d %.4x %.4x %d %.4x", x.Root.Epoch, x.Root.Tree, x.Root.Next, len(x.Sig), x.Sig)
	}
	return s[:min(len(s), 600)]
}

// raise writes over all memory of what is told, to its lists' very ends, so that each thing is one more: what two lists share is two more.
func raise(a told) {
	for _, l := range whole(a.dir.Epochs) {
		for i := range whole(l) {
			whole(l)[i].Serial++
			raiseBytes(whole(l)[i].Key)
		}
	}
	for i := range whole(a.dir.Queue) {
		whole(a.dir.Queue)[i].Kind++
		raiseBytes(whole(a.dir.Queue)[i].Key)
	}
	for i := range whole(a.answers) {
		x := &whole(a.answers)[i]
		x.Epoch++
		raiseBytes(x.Binding.Key)
		for k := range whole(x.Proof.Sides) {
			whole(x.Proof.Sides)[k][0]++
		}
	}
	for i := range whole(a.roots) {
		whole(a.roots)[i].Root.Epoch++
		raiseBytes(whole(a.roots)[i].Sig)
	}
	raiseBytes(a.page)
}

// raiseBytes makes each byte one more, to the list's very end.
func raiseBytes(b []byte) {
	for i := range whole(b) {
		whole(b)[i]++
	}
}

// whole is all memory of a list, what lies behind its length, too.
func whole[T any](l []T) []T {
	return l[:cap(l)]
}

// life is a server on its disk, and what the words say of it.
type life struct {
	t *testing.T
	d *disk.Disk
	s *server.Server
	w *twin
}

// begin is a server of a disk of so many sectors, all noughts.
func begin(t *testing.T, sectors int) *life {
	t.Helper()
	d, e := disk.New(sectors)
	if e != api.OK {
		t.Fatalf("a disk of %d: %d", sectors, e)
	}
	return &life{t, d, mustOpen(t, "noughts", d), newTwin(secret, seed)}
}

// mustOpen opens a disk by the secrets of most servers.
func mustOpen(t *testing.T, name string, d *disk.Disk) *server.Server {
	t.Helper()
	s, e := server.Open(d, secret, seed)
	if e != api.OK || s == nil {
		t.Fatalf("%s: Open: %d", name, e)
	}
	return s
}

// deed is a call that changes something.
type deed struct {
	name  string
	told  func(s *server.Server) told
	words func(w *twin) (told, *twin)
}

// submit is Submit of a request, whose key has more memory behind its length; that must stay as it was.
func submit(t *testing.T, q api.Request) deed {
	key := bytes.Clone(q.Key)
	q.Key = append(make([]byte, 0, len(key)+8), key...)
	copy(whole(q.Key)[len(key):], "behind..")
	return deed{
		name: fmt.Sprintf("Submit of %d %q %.10q", q.Kind, q.Name, key),
		told: func(s *server.Server) told {
			e := s.Submit(q)
			if !bytes.Equal(q.Key, key) || string(whole(q.Key)[len(key):]) != "behind.." {
				t.Errorf("Submit of %q: the key was changed", q.Name)
			}
			raiseBytes(q.Key) // what is handed in is not kept
			return told{e: e}
		},
		words: func(w *twin) (told, *twin) {
			return w.submit(api.Request{Kind: q.Kind, Name: q.Name, Key: key, Auth: q.Auth})
		},
	}
}

// seal is Seal.
func seal() deed {
	return deed{
		name: "Seal",
		told: func(s *server.Server) told {
			x, e := s.Seal()
			return told{e: e, roots: []api.Signed{x}}
		},
		words: (*twin).seal,
	}
}

// prune is Prune to an epoch.
func prune(to uint64) deed {
	return deed{
		name:  "Prune to " + number(to),
		told:  func(s *server.Server) told { return told{e: s.Prune(to)} },
		words: func(w *twin) (told, *twin) { return w.prune(to) },
	}
}

// refused is what a deed tells beside an error.
func refused(d deed, e api.Errno) told {
	if d.name == "Seal" {
		return told{e: e, roots: make([]api.Signed, 1)}
	}
	return told{e: e}
}

// do does one deed, which must be done as the words say.
func (l *life) do(d deed) told {
	l.t.Helper()
	want, next := d.words(l.w)
	got := d.told(l.s)
	mustBe(l.t, d.name, got, want)
	raise(got) // and the server stays as it is
	l.w = next
	mustBe(l.t, "Dir behind "+d.name, dir().told(l.s), dir().words(l.w))
	return want
}

// must does a deed that must have that error.
func (l *life) must(d deed, e api.Errno) {
	l.t.Helper()
	if got := l.do(d); got.e != e {
		l.t.Fatalf("%s: %d, the test wants %d", d.name, got.e, e)
	}
}

// ask asks a question, which must have that error.
func (l *life) ask(q question, e api.Errno) told {
	l.t.Helper()
	want := mustTell(l.t, "asked", l.s, l.w, q)
	if want.e != e {
		l.t.Fatalf("%s: %d, the test wants %d", q.name, want.e, e)
	}
	return want
}

// seals submits requests, which must be taken, and seals.
func (l *life) seals(asked ...api.Request) {
	l.t.Helper()
	for _, q := range asked {
		l.must(submit(l.t, q), api.OK)
	}
	l.must(seal(), api.OK)
}

// open opens the disk anew: the server is the same, but for what waits.
func (l *life) open() {
	l.t.Helper()
	l.s, l.w = mustOpen(l.t, "anew", l.d), l.w.opened()
}

// mustBeWhole asks a server everything: it must tell what the words do.
func mustBeWhole(t *testing.T, name string, s *server.Server, w *twin) {
	t.Helper()
	mustBeAtRest(t, name, s, w)
	n := uint64(len(w.epochs))
	for _, x := range []string{"ann", "bob", "zed", "x.1", "", "Ann"} {
		for k := range n + 2 {
			mustTell(t, name, s, w, lookup(x, k))
			mustTell(t, name, s, w, history(x, k, n))
		}
		mustTell(t, name, s, w, lookup(x, math.MaxUint64))
		mustTell(t, name, s, w, history(x, n, 1))
		mustTell(t, name, s, w, history(x, w.dir.From, w.dir.From))
	}
	for k := range n + 2 {
		mustTell(t, name, s, w, roots(1, k))
		mustTell(t, name, s, w, roots(k, n))
	}
	mustProve(t, name, s, w)
}

// mustBeAtRest asks a server what lies on its disk, or follows from it: directory, roots, pages and links.
func mustBeAtRest(t *testing.T, name string, s *server.Server, w *twin) {
	t.Helper()
	n := uint64(len(w.epochs))
	mustTell(t, name, s, w, dir())
	mustTell(t, name, s, w, count())
	mustTell(t, name, s, w, roots(1, n))
	for k := range n + 2 {
		mustTell(t, name, s, w, link(k))
	}
	for _, x := range w.epochs {
		mustTell(t, name, s, w, page(x.link))
	}
	mustTell(t, name, s, w, page(api.Digest{}))
	kept := w.kept()
	for _, d := range everPages(w) {
		b, e := s.Page(d)
		if _, ok := kept[d]; ok && (e != api.OK || !bytes.Equal(b, kept[d])) || !ok && (e != api.ErrNone || len(b) > 0) {
			t.Fatalf("%s: Page of %x: %d bytes, %d; kept: %v", name, d, len(b), e, ok)
		}
	}
}

// everPages is the digests of the pages of all epochs' trees.
func everPages(w *twin) []api.Digest {
	all := w.with(api.Dir{From: 1})
	var l []api.Digest
	for d := range all.kept() {
		l = append(l, d)
	}
	return l
}

// mustProve is 21.6: what is told of a name is proved by the epoch's root.
func mustProve(t *testing.T, name string, s *server.Server, w *twin) {
	t.Helper()
	for n := w.dir.From; n <= uint64(len(w.epochs)); n++ {
		root := w.epochs[n-1].root.Root.Tree
		names := []string{"ann", "zed", "nobody"}
		for _, b := range w.dir.Epochs[n-1] {
			names = append(names, b.Name)
		}
		for _, x := range names {
			a, e := s.Lookup(x, n)
			value, there, wrong := proof.Check(root, a.Index, a.Proof)
			if e != api.OK || wrong != api.OK || there != a.There {
				t.Fatalf("%s: %s in %d is not proved: %d, %d, there: %v, told: %v", name, x, n, e, wrong, there, a.There)
			}
			if _, want := leafOf(secret, a.Binding); there && value != want {
				t.Fatalf("%s: of %s in %d another binding is proved", name, x, n)
			}
		}
	}
}

// register is a request for a new name.
func register(name, key string) api.Request {
	return api.Request{Kind: api.Register, Name: name, Key: []byte(key)}
}

// change is the request of who has a binding's key for another one.
func change(b api.Binding, key string) api.Request {
	return policy.Ask(b, []byte(key))
}

// bound is a binding.
func bound(name, key string, serial uint64) api.Binding {
	return api.Binding{Name: name, Key: []byte(key), Serial: serial}
}

// nth is names that rise.
func nth(i int) string {
	return fmt.Sprintf("n%03d", i)
}

// many is so many requests for names that rise, from one on.
func many(from, n int) []api.Request {
	var l []api.Request
	for i := range n {
		l = append(l, register(nth(from+i), "k"+strconv.Itoa(i)))
	}
	return l
}

// number is a number to be read.
func number(n uint64) string {
	return strconv.FormatUint(n, 10)
}

// clone is a disk with the bytes of another one.
func clone(t *testing.T, d *disk.Disk) *disk.Disk {
	t.Helper()
	return load(t, d.Dump())
}

// load is a disk of bytes.
func load(t *testing.T, b []byte) *disk.Disk {
	t.Helper()
	d, e := disk.Load(b)
	if e != api.OK {
		t.Fatalf("Load: %d", e)
	}
	return d
}

// sameBytes tells whether two disks have the same bytes.
func sameBytes(a, b *disk.Disk) bool {
	return slices.Equal(a.Dump(), b.Dump())
}
