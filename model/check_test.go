package model_test

import (
	"math"
	"slices"
	"strconv"
	"testing"

	"blazon/api"
)

// 20.1: what may be, and what may not.

// everyCall is calls of all kinds, most of which would tell another error.
func everyCall() []call {
	l := []call{check(), seal()}
	for _, q := range []api.Request{register("new", "k"), register("b", "k"), register("Bad", "k"), register("new", ""), {Kind: 3, Name: "new"}, change(bound("b", "kb", 1), "l"), change(bound("none", "k", 1), "l")} {
		l = append(l, submit(q))
	}
	for _, name := range []string{"b", "new", "", "Bad"} {
		for _, n := range []uint64{0, 1, 2, 3, 64, 65, spent} {
			l = append(l, lookup(name, n), history(name, n, n), history(name, n, 1), history(name, 1, n))
		}
	}
	for _, n := range []uint64{0, 1, 2, 3, 64, 65, spent} {
		l = append(l, prune(n))
	}
	return l
}

// mustNotBe is of a directory that may not be: each call answers ErrArg, ahead of all else.
func mustNotBe(t *testing.T, name string, d api.Dir) {
	t.Helper()
	for _, c := range everyCall() {
		mustTell(t, name, d, c, api.ErrArg)
	}
}

// mustBeAllowed is of a directory that may be: it, and no call answers ErrArg but of what else is handed in.
func mustBeAllowed(t *testing.T, name string, d api.Dir) {
	t.Helper()
	for _, c := range everyCall() {
		mustTell(t, name, d, c, c.words(copied(d)).e)
	}
	mustTell(t, name, d, check(), api.OK)
}

// three is three epochs of three names, none of which waits for anything.
func three() api.Dir {
	epoch := func(serial uint64) []api.Binding {
		return []api.Binding{bound("b", "kb", serial), bound("d", "kd", serial), bound("f", "kf", serial)}
	}
	return api.Dir{Epochs: [][]api.Binding{epoch(1), epoch(2), epoch(3)}, From: 2}
}

// waiting is a directory of these bindings, for which these requests wait.
func waiting(l []api.Binding, queue ...api.Request) api.Dir {
	return api.Dir{Epochs: [][]api.Binding{l}, Queue: queue, From: 1}
}

// Directories that may be, the chapter's greatest among them.
func TestMayBe(t *testing.T) {
	mustBeAllowed(t, "none", api.Dir{From: 1})
	mustBeAllowed(t, "three epochs", three())
	mustBeAllowed(t, "an epoch of none", waiting(nil))
	mustBeAllowed(t, "epochs of none", api.Dir{Epochs: [][]api.Binding{nil, {}, nil}, From: 3})
	mustBeAllowed(t, "something waits for the first epoch", api.Dir{Queue: []api.Request{register("b", "k"), change(bound("b", "k", 1), "l")}, From: 1})
	d := api.Dir{Epochs: make([][]api.Binding, 64), Queue: []api.Request{register("b", "k")}, From: 64}
	mustBeAllowed(t, "64 epochs", d)
	d.From = 1
	mustBeAllowed(t, "64 epochs from the first one on", d)
	mustBeAllowed(t, "what else an epoch may have", waiting([]api.Binding{bound(".", "\x00", 1), bound(long(32), "k", spent), bound("z", long(64), 7)}))
}

// The greatest directory: 64 epochs of 256 bindings, and 16 requests.
func TestGreatest(t *testing.T) {
	d := greatest()
	mustTell(t, "the greatest", d, check(), api.OK)
	mustTell(t, "the greatest", d, history(nth(255), 1, 64), api.OK)
	mustTell(t, "the greatest", d, lookup(nth(0), 64), api.OK)
	mustTell(t, "the greatest", d, seal(), api.ErrSpent)
	mustTell(t, "the greatest", d, prune(64), api.OK)
	mustTell(t, "the greatest", d, submit(change(bound(nth(16), "k16", 17), "l")), api.ErrFull)
	mustTell(t, "the greatest, one more epoch", api.Dir{Epochs: append(d.Epochs, many(256)), Queue: d.Queue, From: 1}, check(), api.ErrArg)
	mustTell(t, "the greatest, one more request", api.Dir{Epochs: d.Epochs, Queue: append(d.Queue, change(bound(nth(16), "k16", 17), "l")), From: 1}, check(), api.ErrArg)
	d.Epochs[40] = many(257)
	mustTell(t, "the greatest, one more binding", d, check(), api.ErrArg)
}

// greatest is a directory that has as much as one may have.
func greatest() api.Dir {
	d := api.Dir{From: 1}
	for range 64 {
		d.Epochs = append(d.Epochs, many(256))
	}
	for i, b := range many(16) {
		d.Queue = append(d.Queue, change(b, "l"+strconv.Itoa(i)))
	}
	return d
}

// Too many epochs; nothing else is wrong with them.
func TestTooManyEpochs(t *testing.T) {
	for _, n := range []int{65, 66, 128, 1 << 12} {
		for _, from := range []uint64{1, 2, 64, uint64(n)} {
			d := api.Dir{Epochs: make([][]api.Binding, n), From: from}
			mustTell(t, strconv.Itoa(n)+" epochs", d, check(), api.ErrArg)
			if n == 65 {
				mustNotBe(t, "65 epochs from "+number(from), d)
			}
		}
	}
}

// Epochs of as many names as there may be, and of more, in each place.
func TestManyNames(t *testing.T) {
	for place := range 3 {
		for _, n := range []int{255, 256} {
			d := three()
			d.Epochs[place] = many(n)
			mustBeAllowed(t, strconv.Itoa(n)+" names in epoch "+strconv.Itoa(place+1), d)
		}
		for _, n := range []int{257, 258, 512} {
			d := three()
			d.Epochs[place] = many(n)
			mustTell(t, strconv.Itoa(n)+" names in epoch "+strconv.Itoa(place+1), d, check(), api.ErrArg)
			if n == 257 {
				mustNotBe(t, "257 names in epoch "+strconv.Itoa(place+1), d)
			}
		}
	}
}

// turn is what may be done to one of three's bindings; names still rise.
type turn struct {
	name string
	do   func(b *api.Binding)
}

// wrongs is what makes a binding one that may not be, or that no epoch has.
func wrongs() []turn {
	l := []turn{
		{"no key", func(b *api.Binding) { b.Key = nil }},
		{"a key of 65 bytes", func(b *api.Binding) { b.Key = []byte(long(65)) }},
		{"the Serial 0", func(b *api.Binding) { b.Serial = 0 }},
	}
	for _, end := range []string{"B", "b ", "\x00", "~", "_", "/", ":", "`", "{", "ä", "\xff", long(32)} {
		l = append(l, turn{"a name that ends with " + strconv.Quote(end), func(b *api.Binding) { b.Name += end }})
	}
	return l
}

// rights is what leaves a binding one that may be.
func rights() []turn {
	l := []turn{
		{"a key of 64 bytes", func(b *api.Binding) { b.Key = []byte(long(64)) }},
		{"a key of no text", func(b *api.Binding) { b.Key = []byte("\x00\xff") }},
		{"the Serial 1", func(b *api.Binding) { b.Serial = 1 }},
		{"the last Serial", func(b *api.Binding) { b.Serial = spent }},
	}
	for _, end := range []string{"a", "z", "0", "9", ".", "-", long(31)} {
		l = append(l, turn{"a name that ends with " + strconv.Quote(end), func(b *api.Binding) { b.Name += end }})
	}
	return l
}

// Bindings that may be and that may not, in each place of each epoch.
func TestBindings(t *testing.T) {
	for epoch := range 3 {
		for place := range 3 {
			where := " of binding " + strconv.Itoa(place+1) + " in epoch " + strconv.Itoa(epoch+1)
			for _, x := range wrongs() {
				d := three()
				x.do(&d.Epochs[epoch][place])
				mustNotBe(t, x.name+where, d)
			}
			for _, x := range rights() {
				d := three()
				x.do(&d.Epochs[epoch][place])
				mustTell(t, x.name+where, d, check(), api.OK)
			}
		}
		d := three()
		d.Epochs[epoch][0].Name = ""
		mustNotBe(t, "no name in epoch "+strconv.Itoa(epoch+1), d)
		d.Epochs[epoch] = d.Epochs[epoch][:1]
		mustNotBe(t, "no name by itself in epoch "+strconv.Itoa(epoch+1), d)
	}
}

// named is an epoch of these names.
func named(names ...string) []api.Binding {
	var l []api.Binding
	for _, name := range names {
		l = append(l, bound(name, "k", 1))
	}
	return l
}

// Names that rise, byte by byte, and that don't, in each epoch.
func TestOrder(t *testing.T) {
	rising := [][]string{
		{"b"}, {"a", "b"}, {"-", ".", "0", "9", "a", "z"}, {"a", "a-", "a.", "a0", "aa", "b"},
		{"aa", "b"}, {"10", "9"}, {"9", "a"}, {"z", "zz"}, {long(31), long(32)},
	}
	for epoch := range 3 {
		for _, names := range rising {
			d := three()
			d.Epochs[epoch] = named(names...)
			mustTell(t, "rising", d, check(), api.OK)
			for i := range len(names) - 1 {
				fallen := slices.Clone(names)
				fallen[i], fallen[i+1] = fallen[i+1], fallen[i]
				d.Epochs[epoch] = named(fallen...)
				mustTell(t, "with two of another order", d, check(), api.ErrArg)
			}
			for i := range names {
				d.Epochs[epoch] = named(slices.Insert(slices.Clone(names), i, names[i])...)
				mustTell(t, "with one twice", d, check(), api.ErrArg)
			}
		}
	}
}

// Each call tells so of names that don't rise, or stand twice, also where bindings are unlike.
func TestOrderOfEveryCall(t *testing.T) {
	for epoch := range 3 {
		for _, names := range [][]string{{"d", "b", "f"}, {"b", "f", "d"}, {"f", "d", "b"}, {"b", "b", "f"}, {"b", "f", "f"}, {"f", "b", "f"}} {
			d := three()
			for i, name := range names {
				d.Epochs[epoch][i].Name = name
			}
			mustNotBe(t, "the names "+names[0]+names[1]+names[2]+" in epoch "+strconv.Itoa(epoch+1), d)
			d = three()
			d.Epochs[epoch] = named(names...)
			mustTell(t, "with the same key", d, check(), api.ErrArg)
		}
	}
}

// From: from 1 to the number of epochs; 1, if there is none.
func TestFrom(t *testing.T) {
	for _, epochs := range []int{0, 1, 2, 3, 63, 64} {
		most := uint64(max(1, epochs))
		for _, from := range []uint64{0, 1, 2, 3, most - 1, most, most + 1, 64, 65, 66, 1 << 32, 1<<32 + 1, 1 << 63, 1<<63 + 1, spent} {
			name := strconv.Itoa(epochs) + " epochs from " + number(from)
			d := api.Dir{Epochs: make([][]api.Binding, epochs), From: from}
			if from >= 1 && from <= most {
				mustBeAllowed(t, name, d)
			} else {
				mustNotBe(t, name, d)
			}
		}
	}
}

// As many requests as may wait, and more, each of which can be done.
func TestManyRequests(t *testing.T) {
	for _, n := range []int{1, 15, 16, 17, 18, 40} {
		var news, rows []api.Request
		for i, b := 0, bound("b", "k", 3); i < n; i++ {
			news = append(news, register(nth(i), "k"))
			rows = append(rows, change(b, "k"))
			b.Serial++
		}
		for _, queue := range [][]api.Request{news, rows} {
			d := waiting([]api.Binding{bound("b", "k", 3)}, queue...)
			if n <= 16 {
				mustBeAllowed(t, strconv.Itoa(n)+" wait", d)
			} else {
				mustNotBe(t, strconv.Itoa(n)+" wait", d)
			}
		}
		if n > 16 {
			mustNotBe(t, strconv.Itoa(n)+" wait for the first epoch", api.Dir{Queue: news, From: 1})
		}
	}
}

// sent is a request with the error of doing it, where b and c have their keys kb and kc, the Serials 1 and the last one, and z has none.
type sent struct {
	name string
	q    api.Request
	e    api.Errno
}

// pair is the bindings of b and c.
func pair() []api.Binding {
	return []api.Binding{bound("b", "kb", 1), bound("c", "kc", spent)}
}

// undone is requests that can't be done, of each error.
func undone() []sent {
	l := []sent{
		{"no kind", api.Request{Name: "z", Key: []byte("k")}, api.ErrArg},
		{"the kind 3", api.Request{Kind: 3, Name: "z", Key: []byte("k")}, api.ErrArg},
		{"the kind -1", api.Request{Kind: -1, Name: "b", Key: []byte("k")}, api.ErrArg},
		{"a kind that is Register's in 32 bits", api.Request{Kind: 1 + 1<<32, Name: "z", Key: []byte("k")}, api.ErrArg},
		{"the greatest kind", api.Request{Kind: math.MaxInt, Name: "z", Key: []byte("k")}, api.ErrArg},
		{"no name", register("", "k"), api.ErrName},
		{"a name that is none", register("Z", "k"), api.ErrName},
		{"a name of 33 bytes", register(long(33), "k"), api.ErrName},
		{"a change of a name that is none", change(bound("B", "kb", 1), "l"), api.ErrName},
		{"no key", register("z", ""), api.ErrKey},
		{"a key of 65 bytes", register("z", long(65)), api.ErrKey},
		{"a change to no key", change(pair()[0], ""), api.ErrKey},
		{"a change to a key of 65 bytes", change(pair()[0], long(65)), api.ErrKey},
		{"once more", register("b", "k"), api.ErrTwice},
		{"once more, with the same key", register("b", "kb"), api.ErrTwice},
		{"a change of none", change(bound("z", "k", 1), "l"), api.ErrNone},
		{"a change of nothing", change(bound("z", "", 0), "l"), api.ErrNone},
		{"a change of the last Serial", change(pair()[1], "l"), api.ErrSpent},
		{"a change by another key", change(bound("b", "k", 1), "l"), api.ErrPolicy},
		{"a change at another Serial", change(bound("b", "kb", 2), "l"), api.ErrPolicy},
	}
	q := register("z", "k")
	q.Auth[31] = 1
	return append(l, sent{"a Register with an Auth", q, api.ErrPolicy})
}

// Requests that can't be done, by themselves, in each place among others that can.
func TestUndone(t *testing.T) {
	others := []api.Request{register("a", "k"), register("d", "k"), change(bound("a", "k", 1), "l")}
	mustBeAllowed(t, "the others", waiting(pair(), others...))
	for _, x := range undone() {
		mustNotBe(t, x.name, waiting(pair(), x.q))
		for i := range len(others) + 1 {
			d := waiting(pair(), slices.Insert(slices.Clone(others), i, x.q)...)
			mustTell(t, x.name+" in place "+strconv.Itoa(i+1), d, check(), api.ErrArg)
		}
		if x.e != api.ErrTwice && x.e != api.ErrSpent {
			mustNotBe(t, x.name+" for the first epoch", api.Dir{Queue: []api.Request{x.q}, From: 1})
		}
	}
}

// Requests that can't be done behind those ahead of them, but by themselves, and the other way round.
func TestUndoneBehindOthers(t *testing.T) {
	b := pair()[0]
	toL, toM := change(b, "l"), change(b, "m")
	afterL := change(bound("b", "l", 2), "m")
	reg, regOther, afterReg := register("z", "k"), register("z", "l"), change(bound("z", "k", 1), "l")
	for _, x := range []struct {
		name  string
		queue []api.Request
		e     api.Errno
	}{
		{"a change", []api.Request{toL}, api.OK},
		{"another change", []api.Request{toM}, api.OK},
		{"two changes of one Serial", []api.Request{toL, toM}, api.ErrArg},
		{"a change twice", []api.Request{toL, toL}, api.ErrArg},
		{"a change behind a change", []api.Request{toL, afterL}, api.OK},
		{"a change ahead of its change", []api.Request{afterL, toL}, api.ErrArg},
		{"a change without its change", []api.Request{afterL}, api.ErrArg},
		{"a Register", []api.Request{reg}, api.OK},
		{"a Register twice", []api.Request{reg, reg}, api.ErrArg},
		{"two Registers of one name", []api.Request{reg, regOther}, api.ErrArg},
		{"a change behind its Register", []api.Request{reg, afterReg}, api.OK},
		{"a change ahead of its Register", []api.Request{afterReg, reg}, api.ErrArg},
		{"a change behind another's Register", []api.Request{regOther, afterReg}, api.ErrArg},
		{"a Register behind its change", []api.Request{reg, afterReg, regOther}, api.ErrArg},
		{"others between", []api.Request{toL, reg, register("a", "k"), afterL, afterReg}, api.OK},
		{"others between, and one once more", []api.Request{toL, reg, register("a", "k"), afterL, afterReg, toL}, api.ErrArg},
	} {
		d := waiting(pair(), x.queue...)
		if x.e == api.OK {
			mustBeAllowed(t, x.name, d)
		} else {
			mustNotBe(t, x.name, d)
		}
	}
}

// Requests are done from the last epoch's bindings on, wherever From is; of epochs that are unlike nothing is asked.
func TestFromTheLastEpoch(t *testing.T) {
	none, some := []api.Binding{}, pair()
	for from := uint64(1); from <= 3; from++ {
		gone := api.Dir{Epochs: [][]api.Binding{none, some, none}, From: from}
		come := api.Dir{Epochs: [][]api.Binding{some, none, some}, From: from}
		mustBeAllowed(t, "names go", gone)
		mustBeAllowed(t, "names come", come)
		gone.Queue, come.Queue = []api.Request{register("b", "k")}, []api.Request{change(some[0], "l")}
		mustBeAllowed(t, "a Register of one that has gone", gone)
		mustBeAllowed(t, "a change of one that has come", come)
		gone.Queue, come.Queue = come.Queue, gone.Queue
		mustNotBe(t, "a change of one that has gone", gone)
		mustNotBe(t, "a Register of one that has come", come)
	}
}

// Of names that are full, none can be registered; their keys can be changed.
func TestFullQueue(t *testing.T) {
	other := many(256)[9]
	mustBeAllowed(t, "a change at 256", waiting(many(256), change(other, "l")))
	mustNotBe(t, "a new one at 256", waiting(many(256), register("a", "k")))
	mustNotBe(t, "a new one behind a change at 256", waiting(many(256), change(other, "l"), register("z", "k")))
	mustBeAllowed(t, "a new one at 255", waiting(many(255), register("a", "k")))
	mustNotBe(t, "two new ones at 255", waiting(many(255), register("a", "k"), register("z", "k")))
	mustBeAllowed(t, "a new one and changes at 255", waiting(many(255), change(other, "l"), register("a", "k"), change(bound("a", "k", 1), "l")))
	var news []api.Request
	for i := range 16 {
		news = append(news, register("a"+nth(i), "k"))
	}
	mustBeAllowed(t, "16 new ones at 240", waiting(many(240), news...))
	mustNotBe(t, "16 new ones at 241", waiting(many(241), news...))
}
