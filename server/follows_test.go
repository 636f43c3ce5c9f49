package server_test

import (
	"math/rand/v2"
	"slices"
	"strconv"
	"testing"

	"blazon/api"
)

// 21.3 to 21.6: long lives like chance on a disk that has room, each call held against the words, and opened anew now and then.
func TestLives(t *testing.T) {
	var rows [12]map[api.Errno]bool
	t.Run("rows", func(t *testing.T) {
		for row := range rows {
			t.Run(strconv.Itoa(row), func(t *testing.T) {
				t.Parallel()
				rows[row] = begin(t, 4096).live(rand.New(rand.NewPCG(21, uint64(row))), 70)
			})
		}
	})
	for _, e := range []api.Errno{api.OK, api.ErrRange, api.ErrName, api.ErrKey, api.ErrTwice, api.ErrNone, api.ErrPolicy, api.ErrEpoch, api.ErrPruned} {
		if !slices.ContainsFunc(rows[:], func(met map[api.Errno]bool) bool { return met[e] }) {
			t.Errorf("no life met the error %d", e)
		}
	}
}

// live does so many deeds like chance, with questions behind each, and tells which errors it met.
func (l *life) live(chance *rand.Rand, deeds int) map[api.Errno]bool {
	l.t.Helper()
	met, all := map[api.Errno]bool{}, ever{}
	for range deeds {
		met[l.do(l.any(chance)).e] = true
		some := func() uint64 { return chance.Uint64N(uint64(len(l.w.epochs)) + 2) }
		for _, q := range []question{lookup("ann", some()), history("bob", some(), some()), roots(some(), some()), link(some()), count()} {
			met[mustTell(l.t, "in a life", l.s, l.w, q).e] = true
		}
		if chance.IntN(6) == 0 {
			mustKeepNeeded(l.t, "in a life", l, all)
			l.open()
		}
	}
	mustBeWhole(l.t, "a life", l.s, l.w)
	l.open()
	mustBeWhole(l.t, "a life, opened", l.s, l.w)
	return met
}

// A life to its very end on the greatest disk: 256 names, 64 epochs.
func TestWholeLife(t *testing.T) {
	l := begin(t, api.MaxSectors)
	for i := range 16 {
		for k := range 16 {
			l.put(register(nth(255-16*i-k), "k"))
		}
		l.put(register("zed", "k"))
		l.seal()
	}
	l.must(submit(t, register("zed", "k")), api.ErrFull)
	for i := 16; i < 64; i++ {
		for k := range 16 {
			b := l.w.dir.Epochs[i-1][(i*7+k*16)%256]
			l.put(change(b, b.Name+strconv.Itoa(i)))
		}
		l.seal()
		if i == 40 {
			l.must(prune(30), api.OK)
			l.open()
		}
	}
	l.must(seal(), api.ErrSpent)
	l.must(submit(t, change(l.w.dir.Epochs[63][0], "on")), api.OK)
	l.must(seal(), api.ErrSpent)
	for range 2 {
		mustBeAtRest(t, "at the end", l.s, l.w)
		for _, n := range []uint64{1, 29, 30, 63, 64, 65} {
			mustTell(t, "at the end", l.s, l.w, lookup(nth(7), n))
			mustTell(t, "at the end", l.s, l.w, history(nth(200), 30, n))
		}
		mustProve(t, "at the end", l.s, l.w.with(api.Dir{Epochs: l.w.dir.Epochs, From: 60}))
		l.open()
	}
	l.must(seal(), api.ErrSpent)
	l.must(prune(64), api.OK)
	mustBeAtRest(t, "one epoch is left", l.s, l.w)
}

// put submits a request, if there is room for it; the directory is not looked at: when it is all but full that takes long.
func (l *life) put(q api.Request) {
	l.t.Helper()
	want, next := l.w.submit(q)
	if e := l.s.Submit(q); e != want.e {
		l.t.Fatalf("Submit of %q: %d, want %d", q.Name, e, want.e)
	}
	l.w = next
}

// seal seals, which must be done.
func (l *life) seal() {
	l.t.Helper()
	l.must(seal(), api.OK)
}
