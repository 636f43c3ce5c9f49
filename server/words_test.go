package server_test

// What the chapter says, word by word: the tests hold the package against it.

import (
	"bytes"
	"slices"

	"blazon/api"
	"blazon/chain"
	"blazon/model"
	"blazon/pages"
	"blazon/tags"
	"blazon/tree"
)

// sealed is what the words say of an epoch that was sealed.
type sealed struct {
	tree *tree.Tree
	root api.Signed
	link api.Digest
	l    [][]byte     // pages
	d    []api.Digest // their digests
}

// twin is what the words say of a server. It is never changed: a call tells another one.
type twin struct {
	secret, seed api.Digest
	dir          api.Dir
	epochs       []sealed
}

// newTwin is what the words say of a server of a disk of noughts.
func newTwin(secret, seed api.Digest) *twin {
	return &twin{secret: secret, seed: seed, dir: model.New()}
}

// told is what a call tells: all of its results, each zero where the call has none such.
type told struct {
	e       api.Errno
	dir     api.Dir
	answers []api.Answer
	roots   []api.Signed
	page    []byte
	link    api.Digest
	n       int
}

// leafOf is 21.1.
func leafOf(secret api.Digest, b api.Binding) (index, value api.Digest) {
	salt := tags.SaltOf(secret, b.Name, b.Serial)
	return tags.IndexOf(secret, b.Name), tags.Of(tags.ValueBytes(salt, b))
}

// treeOf is an epoch's tree (21.1).
func treeOf(secret api.Digest, l []api.Binding) *tree.Tree {
	var indexes, values []api.Digest
	for _, b := range l {
		index, value := leafOf(secret, b)
		indexes, values = append(indexes, index), append(values, value)
	}
	return tree.Of(indexes, values)
}

// with is a twin with another directory.
func (w *twin) with(d api.Dir) *twin {
	next := *w
	next.dir = d
	return &next
}

// opened is a twin that was opened anew: nothing waits.
func (w *twin) opened() *twin {
	d := copied(w.dir)
	d.Queue = nil
	return w.with(d)
}

// head is how far the roots lead.
func (w *twin) head() api.Head {
	if len(w.epochs) == 0 {
		return chain.Start(chain.Pin(w.seed))
	}
	last := w.epochs[len(w.epochs)-1].root.Root
	return api.Head{Epoch: last.Epoch, Root: tags.Of(tags.RootBytes(last)), Key: last.Next}
}

// submit is Submit by the words (21.3).
func (w *twin) submit(q api.Request) (told, *twin) {
	d, e := model.Submit(w.dir, q)
	if e != api.OK {
		return told{e: e}, w
	}
	return told{}, w.with(d)
}

// seal is Seal by the words (21.3), of a disk that has room.
func (w *twin) seal() (told, *twin) {
	d, e := model.Seal(w.dir)
	if e != api.OK {
		return told{e: e, roots: make([]api.Signed, 1)}, w
	}
	x := sealed{tree: treeOf(w.secret, d.Epochs[len(d.Epochs)-1])}
	x.link, x.l = pages.Save(x.tree)
	for _, b := range x.l {
		x.d = append(x.d, tags.Of(b))
	}
	x.root, e = chain.Seal(w.seed, w.head(), x.tree.Root())
	next := w.with(d)
	next.epochs = append(slices.Clip(w.epochs), x)
	return told{e: e, roots: copiedRoots([]api.Signed{x.root})}, next
}

// prune is Prune by the words (21.3), of a disk that has room.
func (w *twin) prune(to uint64) (told, *twin) {
	d, e := model.Prune(w.dir, to)
	if e != api.OK {
		return told{e: e}, w
	}
	return told{}, w.with(d)
}

// answer is what the words say of a name that was found, or was not (21.3).
func (w *twin) answer(name string, x api.Found) api.Answer {
	var a api.Answer
	a.Epoch = x.Epoch
	a.Index = tags.IndexOf(w.secret, name)
	a.Proof = w.epochs[x.Epoch-1].tree.Prove(a.Index)
	if x.There {
		a.There = true
		a.Binding = x.Binding
		a.Salt = tags.SaltOf(w.secret, name, x.Binding.Serial)
	}
	return a
}

// lookup is Lookup by the words (21.3).
func (w *twin) lookup(name string, n uint64) told {
	x, e := model.Lookup(w.dir, name, n)
	if e != api.OK {
		return told{e: e, answers: make([]api.Answer, 1)}
	}
	return told{answers: []api.Answer{w.answer(name, x)}}
}

// history is History by the words (21.3).
func (w *twin) history(name string, from, to uint64) told {
	if _, e := model.History(w.dir, name, from, to); e != api.OK {
		return told{e: e}
	}
	var a told
	for n := from; n <= to; n++ {
		a.answers = append(a.answers, w.lookup(name, n).answers...)
	}
	return a
}

// there tells whether there is an epoch of that number.
func (w *twin) there(n uint64) bool {
	return n != 0 && n <= uint64(len(w.epochs))
}

// roots is Roots by the words (21.4).
func (w *twin) roots(from, to uint64) told {
	switch {
	case !w.there(from), !w.there(to):
		return told{e: api.ErrEpoch}
	case from > to:
		return told{e: api.ErrRange}
	}
	var a told
	for n := from; n <= to; n++ {
		a.roots = append(a.roots, copiedRoots([]api.Signed{w.epochs[n-1].root})...)
	}
	return a
}

// kept is the pages that are kept, by their digests (21.5).
func (w *twin) kept() map[api.Digest][]byte {
	m := map[api.Digest][]byte{}
	for i, x := range w.epochs {
		if uint64(i+1) >= w.dir.From {
			for k, d := range x.d {
				m[d] = x.l[k]
			}
		}
	}
	return m
}

// page is Page by the words (21.5).
func (w *twin) page(d api.Digest) told {
	b, ok := w.kept()[d]
	if !ok {
		return told{e: api.ErrNone}
	}
	return told{page: bytes.Clone(b)}
}

// link is Link by the words (21.5).
func (w *twin) link(n uint64) told {
	if !w.there(n) {
		return told{e: api.ErrEpoch}
	}
	return told{link: w.epochs[n-1].link}
}

// copied is a directory in new memory.
func copied(d api.Dir) api.Dir {
	c := api.Dir{From: d.From}
	for _, l := range d.Epochs {
		var epoch []api.Binding
		for _, b := range l {
			b.Key = bytes.Clone(b.Key)
			epoch = append(epoch, b)
		}
		c.Epochs = append(c.Epochs, epoch)
	}
	for _, q := range d.Queue {
		q.Key = bytes.Clone(q.Key)
		c.Queue = append(c.Queue, q)
	}
	return c
}

// copiedRoots is signed roots in new memory.
func copiedRoots(l []api.Signed) []api.Signed {
	l = slices.Clone(l)
	for i := range l {
		l[i].Sig = bytes.Clone(l[i].Sig)
	}
	return l
}

// sameBinding tells whether two bindings are the same.
func sameBinding(a, b api.Binding) bool {
	return a.Name == b.Name && bytes.Equal(a.Key, b.Key) && a.Serial == b.Serial
}

// sameRequest tells whether two requests are the same.
func sameRequest(a, b api.Request) bool {
	return a.Kind == b.Kind && a.Name == b.Name && bytes.Equal(a.Key, b.Key) && a.Auth == b.Auth
}

// sameDir tells whether two directories are the same; a list that is nil is one without elements.
func sameDir(a, b api.Dir) bool {
	return a.From == b.From && slices.EqualFunc(a.Queue, b.Queue, sameRequest) && slices.EqualFunc(a.Epochs, b.Epochs, func(l, m []api.Binding) bool {
		return slices.EqualFunc(l, m, sameBinding)
	})
}

// sameAnswer tells whether two answers are the same.
func sameAnswer(a, b api.Answer) bool {
	p, q := a.Proof, b.Proof
	return a.Epoch == b.Epoch && a.Index == b.Index && a.There == b.There && a.Salt == b.Salt && sameBinding(a.Binding, b.Binding) &&
		slices.Equal(p.Sides, q.Sides) && p.End == q.End && p.Index == q.Index && p.Value == q.Value
}

// sameRoot tells whether two signed roots are the same, byte by byte.
func sameRoot(a, b api.Signed) bool {
	return a.Root == b.Root && bytes.Equal(a.Sig, b.Sig)
}

// same tells whether two calls tell the same.
func same(a, b told) bool {
	return a.e == b.e && a.link == b.link && a.n == b.n && sameDir(a.dir, b.dir) && bytes.Equal(a.page, b.page) &&
		slices.EqualFunc(a.answers, b.answers, sameAnswer) && slices.EqualFunc(a.roots, b.roots, sameRoot)
}
