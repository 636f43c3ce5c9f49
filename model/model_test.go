package model_test

import (
	"slices"
	"strconv"
	"testing"

	"blazon/api"
	"blazon/model"
)

// The chapter's example, by the package alone.
func TestExample(t *testing.T) {
	d, e := model.Submit(model.New(), api.Request{Kind: api.Register, Name: "ann", Key: []byte("k")})
	if e != api.OK {
		t.Fatalf("Submit: %d", e)
	}
	d, e = model.Seal(d)
	if e != api.OK {
		t.Fatalf("Seal: %d", e)
	}
	x, e := model.Lookup(d, "ann", 1)
	if e != api.OK || x.Epoch != 1 || !x.There || x.Binding.Name != "ann" || string(x.Binding.Key) != "k" || x.Binding.Serial != 1 {
		t.Errorf("in 1: %d, %v", e, x)
	}
	if x, e := model.Lookup(d, "ann", 2); e != api.ErrEpoch || !sameFound(x, api.Found{}) {
		t.Errorf("in 2: %d, %v", e, x)
	}
	if d, e := model.Prune(d, 2); e != api.ErrEpoch || !sameDir(d, api.Dir{}) {
		t.Errorf("Prune to 2: %d, %v", e, d)
	}
}

// New: no epochs, nothing waits, From 1; and what is done to one is not done to another.
func TestNew(t *testing.T) {
	a, b := model.New(), model.New()
	for _, d := range []api.Dir{a, b} {
		if len(d.Epochs) != 0 || len(d.Queue) != 0 || d.From != 1 {
			t.Errorf("%v", d)
		}
	}
	a.Epochs = append(a.Epochs, pair())
	a.Queue = append(a.Queue, register("z", "k"))
	if len(whole(b.Epochs)) > 0 && len(whole(b.Epochs)[0]) > 0 || len(whole(b.Queue)) > 0 && whole(b.Queue)[0].Name != "" {
		t.Error("what is told twice shares memory")
	}
	mustBeAllowed(t, "a new one", b)
	mustTell(t, "a new one", b, lookup("ann", 1), api.ErrEpoch)
	mustTell(t, "a new one", b, history("ann", 1, 1), api.ErrEpoch)
	mustTell(t, "a new one", b, prune(1), api.ErrEpoch)
}

// 20.2, 20.3: what can't be done has policy's own errors, alone and behind others, and wherever From is.
func TestSubmitUndone(t *testing.T) {
	d := api.Dir{Epochs: [][]api.Binding{nil, pair()}, From: 1}
	for range 2 {
		for _, x := range undone() {
			mustTell(t, x.name, d, submit(x.q), x.e)
			mustTell(t, x.name+", others wait", withQueue(d, others(3)), submit(x.q), x.e)
		}
		d.From++
	}
	for _, x := range undone() {
		e := x.e
		if x.q.Kind == api.Register && e == api.ErrTwice {
			e = api.OK // nobody has that name ahead of the first epoch
		} else if e == api.ErrSpent || e == api.ErrPolicy && x.q.Kind == api.Change {
			e = api.ErrNone
		}
		mustTell(t, x.name+", no epoch", model.New(), submit(x.q), e)
	}
}

// withQueue is a directory for which requests wait.
func withQueue(d api.Dir, queue []api.Request) api.Dir {
	d.Queue = queue
	return d
}

// others is so many requests for names that rise.
func others(n int) []api.Request {
	var l []api.Request
	for i := range n {
		l = append(l, register(nth(i), "k"))
	}
	return l
}

// 20.3: what can be done waits behind all that waits, and nothing else changes.
func TestSubmit(t *testing.T) {
	b := pair()[0]
	queue := []api.Request{register("z", "k"), change(b, "l"), register("a", "k"), change(bound("z", "k", 1), "l"), change(bound("b", "l", 2), "m")}
	for from := uint64(1); from <= 2; from++ {
		d := api.Dir{Epochs: [][]api.Binding{nil, pair()}, From: from}
		for i, q := range queue {
			next := mustDir(t, "from "+number(from), d, submit(q))
			if len(next.Queue) != i+1 || !sameRequest(next.Queue[i], q) || next.From != from || !slices.EqualFunc(next.Epochs, d.Epochs, sameEpoch) {
				t.Errorf("%v behind %v", next, d)
			}
			d = next
		}
		mustTell(t, "one of the first Serial", d, submit(change(b, "x")), api.ErrPolicy)
		mustTell(t, "one of the second Serial", d, submit(change(bound("b", "l", 2), "x")), api.ErrPolicy)
		mustTell(t, "one that is registered", d, submit(register("z", "x")), api.ErrTwice)
		mustTell(t, "one of the last Serial", d, submit(change(bound("b", "m", 3), "x")), api.OK)
	}
}

// 20.3: of requests that wait there are 16 at most; the error of doing one comes ahead of that.
func TestFullOfRequests(t *testing.T) {
	for _, n := range []int{0, 1, 14, 15, 16} {
		d := withQueue(waiting(pair()), others(n))
		full := api.OK
		if n == 16 {
			full = api.ErrFull
		}
		name := strconv.Itoa(n) + " wait"
		for _, q := range []api.Request{register("z", "k"), change(pair()[0], "l")} {
			mustTell(t, name, d, submit(q), full)
		}
		for _, x := range undone() {
			mustTell(t, name+", "+x.name, d, submit(x.q), x.e)
		}
		if n > 0 {
			mustTell(t, name+", one that waits", d, submit(register(nth(n-1), "k")), api.ErrTwice)
		}
	}
}

// 20.2: at 256 names there is no room for a new one, told behind policy's errors; for one that is there, there is.
func TestFullOfNames(t *testing.T) {
	wrong := register("a", "k")
	wrong.Auth[0] = 1
	for _, x := range []struct {
		name string
		d    api.Dir
		full bool
	}{
		{"254", waiting(many(254)), false},
		{"255", waiting(many(255)), false},
		{"256", waiting(many(256)), true},
		{"254 and one that waits", waiting(many(254), register("b", "k")), false},
		{"255 and one that waits", waiting(many(255), register("b", "k")), true},
		{"255 and a change that waits", waiting(many(255), change(many(1)[0], "l")), false},
		{"240 and 16 that wait", withQueue(waiting(many(240)), news(16)), true},
		{"256 and 16 that wait", withQueue(waiting(many(256)), greatest().Queue), true},
	} {
		full := api.OK
		if x.full {
			full = api.ErrFull
		}
		mustTell(t, x.name, x.d, submit(register("a", "k")), full)
		mustTell(t, x.name, x.d, submit(register(nth(300), "k")), full)
		if len(x.d.Queue) < 16 {
			mustTell(t, x.name, x.d, submit(change(many(8)[7], "l")), api.OK)
		}
		mustTell(t, x.name, x.d, submit(register(nth(7), "k")), api.ErrTwice)
		mustTell(t, x.name, x.d, submit(change(bound("a", "k", 1), "l")), api.ErrNone)
		mustTell(t, x.name, x.d, submit(change(bound(nth(7), "x", 8), "l")), api.ErrPolicy)
		mustTell(t, x.name, x.d, submit(wrong), api.ErrPolicy)
		mustTell(t, x.name, x.d, submit(register("A", "k")), api.ErrName)
		mustTell(t, x.name, x.d, submit(register("a", "")), api.ErrKey)
		mustTell(t, x.name, x.d, submit(api.Request{Name: "a", Key: []byte("k")}), api.ErrArg)
	}
}

// news is so many requests for names that stand behind others'.
func news(n int) []api.Request {
	var l []api.Request
	for i := range n {
		l = append(l, register("z"+nth(i), "k"))
	}
	return l
}

// 20.4: with nothing that waits the same stands once more; with something, it is done.
func TestSeal(t *testing.T) {
	d := model.New()
	for i := range 3 {
		d = mustDir(t, "nothing waits, for none", d, seal())
		if len(d.Epochs) != i+1 || len(d.Epochs[i]) != 0 || d.From != 1 {
			t.Errorf("%v", d)
		}
	}
	d = three()
	next := mustDir(t, "nothing waits", d, seal())
	if len(next.Epochs) != 4 || !sameEpoch(next.Epochs[3], d.Epochs[2]) || next.From != 2 {
		t.Errorf("%v", next)
	}
	b := d.Epochs[2][1]
	d.Queue = []api.Request{register("z", "k"), change(b, "l"), register("a", "k"), change(bound("d", "l", 4), "m"), register("e", "k")}
	next = mustDir(t, "some wait", d, seal())
	want := []api.Binding{bound("a", "k", 1), bound("b", "kb", 3), bound("d", "m", 5), bound("e", "k", 1), bound("f", "kf", 3), bound("z", "k", 1)}
	if len(next.Epochs) != 4 || !sameEpoch(next.Epochs[3], want) || len(next.Queue) != 0 || next.From != 2 {
		t.Errorf("%v", next)
	}
}

// 20.2, 20.4: a new binding stands where its name says, a changed one where it stood; in whichever order they wait.
func TestPlaces(t *testing.T) {
	l := []api.Binding{bound("a-", "k1", 1), bound("a0", "k2", 2), bound("aa", "k3", 3), bound("b", "k4", 4)}
	for _, name := range []string{"-", ".", "0", "a", "a.", "a-a", "a00", "a1", "ab", "aaa", "az", "b-", "ba", "c", "z"} {
		next := mustDir(t, "a new one", waiting(l, register(name, "k")), seal())
		if got := names(next.Epochs[1]); len(got) != 5 || !slices.IsSorted(got) || !slices.Contains(got, name) {
			t.Errorf("%s among %v", name, got)
		}
	}
	for i, b := range l {
		next := mustDir(t, "a changed one", waiting(l, change(b, "new")), seal())
		want := slices.Clone(l)
		want[i] = bound(b.Name, "new", b.Serial+1)
		if !sameEpoch(next.Epochs[1], want) {
			t.Errorf("%s: %v", b.Name, next.Epochs[1])
		}
	}
	queue := []api.Request{register("c", "k"), register("a", "k"), register("ab", "k"), change(l[2], "new")}
	want := names(mustDir(t, "several", waiting(l, queue...), seal()).Epochs[1])
	slices.Reverse(queue)
	got := names(mustDir(t, "several, the other way round", waiting(l, queue...), seal()).Epochs[1])
	if !slices.Equal(got, want) || len(got) != 7 {
		t.Errorf("%v, %v", got, want)
	}
}

// names is the names of bindings.
func names(l []api.Binding) []string {
	var n []string
	for _, b := range l {
		n = append(n, b.Name)
	}
	return n
}

// 20.4: there are 64 epochs at most, whatever waits, and wherever From is.
func TestSpent(t *testing.T) {
	for _, x := range []struct {
		epochs int
		e      api.Errno
	}{{0, api.OK}, {1, api.OK}, {62, api.OK}, {63, api.OK}, {64, api.ErrSpent}} {
		for _, queue := range [][]api.Request{nil, others(1), others(16)} {
			for _, from := range []int{1, x.epochs} {
				d := api.Dir{Epochs: make([][]api.Binding, x.epochs), Queue: queue, From: uint64(max(1, from))}
				mustTell(t, strconv.Itoa(x.epochs)+" epochs", d, seal(), x.e)
			}
		}
	}
	d := api.Dir{Epochs: make([][]api.Binding, 64), From: 64}
	mustTell(t, "64 epochs", d, submit(register("a", "k")), api.OK)
	mustTell(t, "64 epochs", d, prune(64), api.OK)
	mustTell(t, "64 epochs", d, history("a", 64, 64), api.OK)
}

// five is five epochs of which the third is the first one that is answered: ann comes in the first one, bob in the fourth; dan waits.
func five() api.Dir {
	ann, bob := bound("ann", "k", 1), bound("bob", "b", 1)
	changed, again := bound("ann", "l", 2), bound("ann", "m", 3)
	return api.Dir{
		Epochs: [][]api.Binding{{ann}, {ann}, {changed}, {changed, bob}, {again, bob}},
		Queue:  []api.Request{register("dan", "k"), change(bob, "c")},
		From:   3,
	}
}

// edge is an epoch at an edge that five has, with its error.
type edge struct {
	n uint64
	e api.Errno
}

// edges is epochs at the edges that five has.
func edges() []edge {
	l := []edge{{0, api.ErrEpoch}, {1, api.ErrPruned}, {2, api.ErrPruned}, {3, api.OK}, {4, api.OK}, {5, api.OK}}
	for _, n := range []uint64{6, 7, 1 << 32, 1<<32 + 3, 1 << 63, 1<<63 + 3, spent - 1, spent} {
		l = append(l, edge{n, api.ErrEpoch})
	}
	return l
}

// 20.5: a name's error ahead of the epoch's; ahead of From there are no answers.
func TestLookup(t *testing.T) {
	for _, x := range edges() {
		for _, name := range []string{"ann", "bob", "cid", "dan", "a", "z", "-", long(32)} {
			mustTell(t, "a name", five(), lookup(name, x.n), x.e)
		}
		for _, name := range []string{"", "Ann", "ann ", "ann\x00", "änn", "~", long(33), long(1000)} {
			mustTell(t, "no name", five(), lookup(name, x.n), api.ErrName)
		}
	}
	for c := range 256 {
		name, want := string([]byte{byte(c)}), api.OK
		if !nameOf(name) {
			want = api.ErrName
		}
		mustTell(t, "each byte", five(), lookup(name, 5), want)
	}
}

// 20.5: what is found, and what is not: of who is not in the epoch nothing is told but that.
func TestFound(t *testing.T) {
	for _, x := range []struct {
		name  string
		epoch uint64
		key   string
		n     uint64
	}{
		{"ann", 3, "l", 2}, {"ann", 4, "l", 2}, {"ann", 5, "m", 3},
		{"bob", 3, "", 0}, {"bob", 4, "b", 1}, {"bob", 5, "b", 1},
		{"dan", 5, "", 0}, {"cid", 5, "", 0}, {"a", 5, "", 0}, {"an", 4, "", 0}, {"anna", 3, "", 0},
	} {
		want := api.Found{Epoch: x.epoch}
		if x.key != "" {
			want = api.Found{Epoch: x.epoch, There: true, Binding: bound(x.name, x.key, x.n)}
		}
		if got := mustTell(t, "found", five(), lookup(x.name, x.epoch), api.OK).l[0]; !sameFound(got, want) {
			t.Errorf("%s in %d: %v; want %v", x.name, x.epoch, got, want)
		}
	}
}

// 20.5: each name of an epoch is found, however many there are, and none between them.
func TestEachName(t *testing.T) {
	for _, n := range []int{0, 1, 2, 3, 4, 5, 7, 8, 9, 31, 255, 256} {
		d := waiting(many(n))
		for i := range n {
			x, e := model.Lookup(d, nth(i), 1)
			if e != api.OK || !sameFound(x, api.Found{Epoch: 1, There: true, Binding: many(n)[i]}) {
				t.Errorf("%d of %d: %d, %v", i, n, e, x)
			}
		}
		for i := range n + 1 {
			for _, name := range []string{nth(i-1) + "-", nth(i-1) + "z", nth(i)[:3]} {
				x, e := model.Lookup(d, name, 1)
				if e != api.OK || !sameFound(x, api.Found{Epoch: 1}) {
					t.Errorf("%s of %d: %d, %v", name, n, e, x)
				}
			}
		}
	}
}

// 20.6: the errors one ahead of the other: the name's, from's, to's, and that of an order that is none.
func TestHistory(t *testing.T) {
	for _, from := range edges() {
		for _, to := range edges() {
			want := first(from.e, to.e)
			if want == api.OK && from.n > to.n {
				want = api.ErrRange
			}
			for _, name := range []string{"ann", "bob", "dan", "cid"} {
				mustTell(t, "a name", five(), history(name, from.n, to.n), want)
			}
			for _, name := range []string{"", "Ann", long(33)} {
				mustTell(t, "no name", five(), history(name, from.n, to.n), api.ErrName)
			}
		}
	}
	for _, x := range []struct {
		from, to uint64
		e        api.Errno
	}{
		{0, 2, api.ErrEpoch}, {6, 2, api.ErrEpoch}, {6, 4, api.ErrEpoch}, {6, 0, api.ErrEpoch},
		{2, 0, api.ErrPruned}, {2, 6, api.ErrPruned}, {2, 1, api.ErrPruned}, {2, 4, api.ErrPruned},
		{4, 0, api.ErrEpoch}, {4, 6, api.ErrEpoch}, {3, spent, api.ErrEpoch}, {4, 2, api.ErrPruned}, {5, 1, api.ErrPruned},
		{4, 3, api.ErrRange}, {5, 3, api.ErrRange}, {3, 3, api.OK}, {3, 5, api.OK},
	} {
		mustTell(t, "two errors", five(), history("ann", x.from, x.to), x.e)
	}
}

// 20.6: Lookup of each epoch, also of those in which the name is not.
func TestHistoryIsLookups(t *testing.T) {
	ann := func(n uint64, key string, serial uint64) api.Found {
		return api.Found{Epoch: n, There: true, Binding: bound("ann", key, serial)}
	}
	got := mustTell(t, "ann", five(), history("ann", 3, 5), api.OK).l
	if want := []api.Found{ann(3, "l", 2), ann(4, "l", 2), ann(5, "m", 3)}; !slices.EqualFunc(got, want, sameFound) {
		t.Errorf("%v", got)
	}
	d := five()
	d.From = 1
	for _, name := range []string{"ann", "bob", "cid", "dan"} {
		for from := uint64(1); from <= 5; from++ {
			for to := from; to <= 5; to++ {
				l, e := model.History(d, name, from, to)
				if e != api.OK || uint64(len(l)) != to-from+1 {
					t.Fatalf("%s from %d to %d: %d, %v", name, from, to, e, l)
				}
				for i, x := range l {
					if y, e := model.Lookup(d, name, from+uint64(i)); e != api.OK || !sameFound(x, y) {
						t.Errorf("%s in %d: %v, looked up %d, %v", name, from+uint64(i), x, e, y)
					}
				}
			}
		}
	}
}

// 20.7: From rises to each epoch that there is, and never falls; nothing else changes.
func TestPrune(t *testing.T) {
	for from := uint64(1); from <= 5; from++ {
		d := five()
		d.From = from
		for _, to := range []uint64{0, 6, 7, 1 << 32, 1<<32 + 3, 1 << 63, spent} {
			mustTell(t, "from "+number(from), d, prune(to), api.ErrEpoch)
		}
		for to := uint64(1); to <= 5; to++ {
			next := mustDir(t, "from "+number(from), d, prune(to))
			want := d
			want.From = max(from, to)
			if !sameDir(next, want) {
				t.Errorf("from %d, pruned to %d: %v", from, to, next)
			}
			mustDir(t, "pruned again", next, prune(to))
			mustTell(t, "pruned", next, lookup("ann", want.From), api.OK)
			for n := uint64(1); n < want.From; n++ {
				mustTell(t, "pruned", next, lookup("ann", n), api.ErrPruned)
			}
		}
	}
	none := api.Dir{Queue: []api.Request{register("ann", "k")}, From: 1}
	for _, to := range []uint64{0, 1, 2, spent} {
		mustTell(t, "no epoch", none, prune(to), api.ErrEpoch)
	}
}
