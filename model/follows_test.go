package model_test

import (
	"math/rand/v2"
	"strconv"
	"testing"

	"blazon/api"
	"blazon/model"
)

// 20.8: what follows, of directories that were made by the package's own calls.

// life is a directory's life: what it is, and each epoch as it was when it was sealed.
type life struct {
	t      *testing.T
	d      api.Dir
	sealed [][]api.Binding
}

// mustHold holds what follows at any time: a directory that may be, whose epochs are those that were sealed.
func (w *life) mustHold(name string) {
	w.t.Helper()
	if e := model.Check(w.d); e != api.OK {
		w.t.Fatalf("%s: may not be: %d", name, e)
	}
	if len(w.d.Epochs) != len(w.sealed) {
		w.t.Fatalf("%s: %d epochs, %d were sealed", name, len(w.d.Epochs), len(w.sealed))
	}
	for i, l := range w.d.Epochs {
		if !sameEpoch(l, w.sealed[i]) {
			w.t.Fatalf("%s: epoch %d is not what was sealed", name, i+1)
		}
	}
}

// take makes another directory the one of this life; there may be an epoch more, which was sealed.
func (w *life) take(name string, d api.Dir) {
	w.t.Helper()
	if n := len(w.sealed); len(d.Epochs) == n+1 {
		w.sealed = append(w.sealed, copied(d).Epochs[n])
		if n > 0 {
			mustFollow(w.t, w.sealed[n-1], w.sealed[n])
		}
	}
	w.d = d
	w.mustHold(name)
}

// do does one call; where it tells a directory, that is the life's from then on.
func (w *life) do(c call) api.Errno {
	w.t.Helper()
	e := c.words(copied(w.d)).e
	mustTell(w.t, "in a life", w.d, c, e)
	if got := c.told(w.d); got.d.From > 0 {
		w.take(c.name, got.d)
	}
	return e
}

// mustFollow is of an epoch and the one ahead of it: no name has gone, no Serial has fallen, a key is another one just where the Serial is.
func mustFollow(t *testing.T, ahead, l []api.Binding) {
	t.Helper()
	now := hasOf(l)
	for _, b := range ahead {
		next, there := now[b.Name]
		switch {
		case !there:
			t.Errorf("%s has gone", b.Name)
		case next.Serial < b.Serial:
			t.Errorf("%s: from %d to %d", b.Name, b.Serial, next.Serial)
		case next.Serial == b.Serial && !sameBinding(next, b):
			t.Errorf("%s: %v, behind %v", b.Name, next, b)
		}
	}
}

// now is the bindings behind all that waits.
func (w *life) now() []api.Binding {
	h, _ := waitingOf(w.d)
	return h.list()
}

// any is a request like chance: of a new name, of one that is there, of who has another key, or late.
func (w *life) any(r *rand.Rand) api.Request {
	all := []string{"ann", "bob", "cid", "dan", "eve", "x-1", "x.1", "0", "Bad", ""}
	keys := []string{"k", "l", "m", long(64), ""}
	name, key := all[r.IntN(len(all))], keys[r.IntN(len(keys))]
	l := w.now()
	if r.IntN(3) == 0 || len(l) == 0 {
		return register(name, key)
	}
	b := l[r.IntN(len(l))]
	switch r.IntN(8) {
	case 0:
		b.Key = []byte(key + "x")
	case 1:
		b.Serial--
	case 2:
		b.Name = name
	case 3:
		q := change(b, key)
		q.Kind = r.IntN(5) - 1
		return q
	}
	return change(b, key)
}

// step is one call like chance.
func (w *life) step(r *rand.Rand) api.Errno {
	n := uint64(len(w.d.Epochs))
	some := func() uint64 { return r.Uint64N(n + 3) }
	names := []string{"ann", "bob", "x.1", "zed", "Bad"}
	name := names[r.IntN(len(names))]
	switch r.IntN(16) {
	case 0, 1, 2:
		return w.do(seal())
	case 3:
		if r.IntN(4) == 0 {
			return w.do(prune(some()))
		}
		return w.do(prune(some() / 3))
	case 4:
		return w.do(lookup(name, some()))
	case 5:
		return w.do(history(name, some(), some()))
	}
	return w.do(submit(w.any(r)))
}

// Long lives like chance, each call held against the words.
func TestLives(t *testing.T) {
	told := map[api.Errno]int{}
	for seed := range uint64(16) {
		r := rand.New(rand.NewPCG(20, seed))
		w := &life{t: t, d: model.New()}
		for range 180 {
			told[w.step(r)]++
		}
	}
	for _, e := range []api.Errno{api.OK, api.ErrArg, api.ErrRange, api.ErrName, api.ErrKey, api.ErrTwice, api.ErrNone, api.ErrPolicy, api.ErrEpoch, api.ErrPruned} {
		if told[e] == 0 {
			t.Errorf("no life met the error %d", e)
		}
	}
}

// A life to its very end: 256 names, 64 epochs, 16 requests that wait, one call behind the other.
func TestWholeLife(t *testing.T) {
	w := &life{t: t, d: model.New()}
	for i := range 256 {
		w.submit(register(nth(255-i), "k"))
		if i%16 == 15 {
			mustTell(t, "16 wait", w.d, submit(register("zzz", "k")), api.ErrFull)
			w.seal()
		}
	}
	mustTell(t, "256 names", w.d, submit(register("zzz", "k")), api.ErrFull)
	for i := 16; i < 64; i++ {
		last := w.d.Epochs[i-1]
		w.submit(change(last[i], "l"+strconv.Itoa(i)))
		w.submit(change(last[0], "m"+strconv.Itoa(i)))
		w.seal()
	}
	mustTell(t, "64 epochs", w.d, seal(), api.ErrSpent)
	for _, x := range []struct {
		name   string
		epoch  uint64
		there  bool
		key    string
		serial uint64
	}{
		{nth(255), 1, true, "k", 1}, {nth(0), 15, false, "", 0}, {nth(0), 16, true, "k", 1},
		{nth(0), 17, true, "m16", 2}, {nth(0), 64, true, "m63", 49},
		{nth(40), 40, true, "k", 1}, {nth(40), 41, true, "l40", 2}, {nth(40), 64, true, "l40", 2},
	} {
		want := api.Found{Epoch: x.epoch}
		if x.there {
			want = api.Found{Epoch: x.epoch, There: true, Binding: bound(x.name, x.key, x.serial)}
		}
		if got := mustTell(t, "at the end", w.d, lookup(x.name, x.epoch), api.OK).l[0]; !sameFound(got, want) {
			t.Errorf("%v; want %v", got, want)
		}
	}
}

// submit submits, which must be OK; it is not asked twice, as mustTell does: a directory that is all but full takes long to copy.
func (w *life) submit(q api.Request) {
	w.t.Helper()
	d, e := model.Submit(w.d, q)
	if e != api.OK {
		w.t.Fatalf("Submit of %v: %d", q, e)
	}
	w.take("Submit", d)
}

// seal seals in the same way.
func (w *life) seal() {
	w.t.Helper()
	d, e := model.Seal(w.d)
	if e != api.OK || !same(answer{d: d}, sealOf(w.d)) {
		w.t.Fatalf("Seal at %d epochs: %d", len(w.d.Epochs), e)
	}
	w.take("Seal", d)
}

// What is let go changes no other answer, now and behind more calls.
func TestLetGo(t *testing.T) {
	w := &life{t: t, d: five(), sealed: five().Epochs}
	w.d.From = 1
	for range 3 {
		d := w.d
		for to := uint64(1); to <= uint64(len(d.Epochs)); to++ {
			pruned, e := model.Prune(d, to)
			if e != api.OK {
				t.Fatal(e)
			}
			mustAnswerAlike(t, d, pruned, to)
		}
		w.submit(change(d.Epochs[len(d.Epochs)-1][0], "new"))
		w.seal()
	}
}

// mustAnswerAlike is of a directory, and of the same from a later epoch on: what that one answers, the other one answers.
func mustAnswerAlike(t *testing.T, d, pruned api.Dir, from uint64) {
	t.Helper()
	calls := []call{check(), seal(), submit(register("zed", "k")), submit(register("ann", "k")), submit(change(d.Epochs[len(d.Epochs)-1][0], "x"))}
	for _, name := range []string{"ann", "bob", "dan", "zed", "Bad"} {
		for n := from; n <= uint64(len(d.Epochs))+1; n++ {
			calls = append(calls, lookup(name, n), history(name, from, n), history(name, n, uint64(len(d.Epochs))))
		}
	}
	for _, c := range calls {
		want, got := c.told(d), c.told(pruned)
		if got.d.From == from {
			got.d.From = want.d.From
		}
		if !same(got, want) {
			t.Errorf("%s, from %d on: %s; else %s", c.name, from, shown(got), shown(want))
		}
	}
}

// P1: whatever is handed in, each call ends, and tells what the words do.
func TestAnything(t *testing.T) {
	for seed := range uint64(1500) {
		r := rand.New(rand.NewPCG(2020, seed))
		d := five()
		if r.IntN(3) == 0 {
			d = api.Dir{}
		}
		for range r.IntN(4) {
			spoil(&d, r)
		}
		q := register("zed", "k")
		if r.IntN(2) == 0 {
			q = request(r)
		}
		name := texts()[r.IntN(len(texts()))]
		for _, c := range []call{check(), submit(q), seal(), lookup(name, count(r)), history(name, count(r), count(r)), prune(count(r))} {
			mustTell(t, "anything", d, c, c.words(copied(d)).e)
		}
	}
}

// texts is names, and what is none.
func texts() []string {
	return []string{"ann", "bob", "cid", "dan", "", "Ann", "\x00", "\xff\xfe", long(32), long(33), long(5000)}
}

// count is a number like chance, most often a small one.
func count(r *rand.Rand) uint64 {
	if r.IntN(6) == 0 {
		return r.Uint64()
	}
	return r.Uint64N(8)
}

// binding is a binding like chance.
func binding(r *rand.Rand) api.Binding {
	keys := []string{"k", "l", "", long(64), long(65), long(5000)}
	return bound(texts()[r.IntN(len(texts()))], keys[r.IntN(len(keys))], count(r))
}

// request is a request like chance.
func request(r *rand.Rand) api.Request {
	q := change(binding(r), string(binding(r).Key))
	q.Kind = r.IntN(5) - 1
	if r.IntN(4) == 0 {
		q.Kind, q.Auth = api.Register, api.Digest{}
	}
	return q
}

// spoil does something like chance to a directory.
func spoil(d *api.Dir, r *rand.Rand) {
	switch i := r.IntN(len(d.Epochs) + 1); r.IntN(7) {
	case 0:
		d.From = count(r)
	case 1:
		d.Queue = append(d.Queue, request(r))
	case 2:
		d.Queue = nil
	case 3:
		d.Epochs = append(d.Epochs, []api.Binding{binding(r)})
	case 4:
		d.Epochs = d.Epochs[:i]
	case 5:
		for range r.IntN(70) {
			d.Epochs = append(d.Epochs, nil)
		}
	case 6:
		if i < len(d.Epochs) {
			d.Epochs[i] = append(d.Epochs[i], binding(r))
		}
	}
}
