package model_test

// What each call is asked through: it must tell what the words do; the same again; in new memory; and leave what is handed in.

import (
	"bytes"
	"fmt"
	"slices"
	"strconv"
	"strings"
	"testing"

	"blazon/api"
	"blazon/model"
	"blazon/policy"
)

// call is a call with all that is handed in beside the directory.
type call struct {
	name  string
	told  func(d api.Dir) answer // what the package tells
	words func(d api.Dir) answer // what the words do
	key   []byte                 // the list that is handed in
}

// check is Check.
func check() call {
	return call{
		name:  "Check",
		told:  func(d api.Dir) answer { return failed(model.Check(d)) },
		words: func(d api.Dir) answer { return failed(checkOf(d)) },
	}
}

// submit is Submit of a request.
func submit(q api.Request) call {
	q.Key = roomy(string(q.Key))
	asked := copiedRequest(q)
	return call{
		name: "Submit of " + strconv.Itoa(q.Kind) + " " + strconv.Quote(q.Name) + " " + strconv.Quote(string(q.Key)),
		told: func(d api.Dir) answer {
			d, e := model.Submit(d, q)
			return answer{d: d, e: e}
		},
		words: func(d api.Dir) answer { return submitOf(d, asked) },
		key:   q.Key,
	}
}

// seal is Seal.
func seal() call {
	return call{
		name: "Seal",
		told: func(d api.Dir) answer {
			d, e := model.Seal(d)
			return answer{d: d, e: e}
		},
		words: sealOf,
	}
}

// lookup is Lookup of a name in an epoch.
func lookup(name string, epoch uint64) call {
	return call{
		name: "Lookup of " + strconv.Quote(name) + " in " + number(epoch),
		told: func(d api.Dir) answer {
			x, e := model.Lookup(d, name, epoch)
			return answer{l: []api.Found{x}, e: e}
		},
		words: func(d api.Dir) answer { return lookupOf(d, name, epoch) },
	}
}

// history is History of a name from an epoch to another.
func history(name string, from, to uint64) call {
	return call{
		name: "History of " + strconv.Quote(name) + " from " + number(from) + " to " + number(to),
		told: func(d api.Dir) answer {
			l, e := model.History(d, name, from, to)
			return answer{l: l, e: e}
		},
		words: func(d api.Dir) answer { return historyOf(d, name, from, to) },
	}
}

// prune is Prune to an epoch.
func prune(to uint64) call {
	return call{
		name: "Prune to " + number(to),
		told: func(d api.Dir) answer {
			d, e := model.Prune(d, to)
			return answer{d: d, e: e}
		},
		words: func(d api.Dir) answer { return pruneOf(d, to) },
	}
}

// mustTell asks one call of a directory, which must answer that error.
func mustTell(t *testing.T, name string, d api.Dir, c call, e api.Errno) answer {
	t.Helper()
	name += ", " + c.name
	want := c.words(copied(d))
	if want.e != e {
		t.Fatalf("%s: by the words %d; the test wants %d", name, want.e, e)
	}
	given, key := roomyDir(d), slices.Clone(c.key[:cap(c.key)])
	old := wholeDir(given)
	var told [2]answer
	for i := range told {
		told[i] = c.told(given)
		mustBe(t, name, told[i], want)
	}
	bare := c.told(copied(d)) // lists that are nil, where there is nothing in them
	mustBe(t, name+", of bare lists", bare, want)
	raise(told[1])
	mustBe(t, name+": what is told twice shares memory", told[0], want)
	raised := answer{copied(want.d), copiedFounds(want.l), want.e}
	raise(told[0])
	raise(raised)
	mustBe(t, name+": what is told shares memory with itself", told[0], raised)
	mustBe(t, name+": what is told of another directory shares memory", bare, want)
	if !sameDir(wholeDir(given), old) || !bytes.Equal(c.key[:cap(c.key)], key) {
		t.Errorf("%s: what is handed in was changed, or shares memory with what is told", name)
	}
	return want
}

// mustBe holds an answer against what it must be.
func mustBe(t *testing.T, name string, got, want answer) {
	t.Helper()
	if !same(got, want) {
		t.Errorf("%s: %s; want %s", name, shown(got), shown(want))
	}
}

// shown is an answer, as far as a line has room for it: there are great ones.
func shown(a answer) string {
	s := fmt.Sprintf("%d, %v, %v", a.e, a.d, a.l)
	if len(s) > 600 {
		return s[:600] + " .."
	}
	return s
}

// mustDir asks a call that tells a directory, which must answer OK.
func mustDir(t *testing.T, name string, d api.Dir, c call) api.Dir {
	t.Helper()
	return mustTell(t, name, d, c, api.OK).d
}

// copiedFounds is things that were found in new memory.
func copiedFounds(l []api.Found) []api.Found {
	l = slices.Clone(l)
	for i := range l {
		l[i].Binding = copiedBinding(l[i].Binding)
	}
	return l
}

// raise writes over all memory of an answer, to its lists' very ends, so that each thing is one more: what two lists share is two more.
func raise(a answer) {
	for _, l := range whole(a.d.Epochs) {
		for i := range whole(l) {
			b := &whole(l)[i]
			b.Serial++
			raiseKey(b.Key)
		}
	}
	for i := range whole(a.d.Queue) {
		q := &whole(a.d.Queue)[i]
		q.Kind++
		raiseKey(q.Key)
	}
	for i := range whole(a.l) {
		x := &whole(a.l)[i]
		x.Epoch++
		raiseKey(x.Binding.Key)
	}
}

// raiseKey makes each byte of a key one more, to its list's very end.
func raiseKey(b []byte) {
	for i := range whole(b) {
		whole(b)[i]++
	}
}

// whole is all memory of a list, what lies behind its length, too.
func whole[T any](l []T) []T {
	return l[:cap(l)]
}

// wholeDir is all memory of a directory as it is now, in new memory.
func wholeDir(d api.Dir) api.Dir {
	w := api.Dir{Epochs: slices.Clone(whole(d.Epochs)), Queue: slices.Clone(whole(d.Queue)), From: d.From}
	for i, l := range w.Epochs {
		w.Epochs[i] = slices.Clone(whole(l))
		for j := range w.Epochs[i] {
			b := &w.Epochs[i][j]
			b.Key = whole(b.Key)
		}
	}
	for i := range w.Queue {
		w.Queue[i].Key = whole(w.Queue[i].Key)
	}
	return copied(w)
}

// roomyDir is a directory in new memory, with things behind each of its lists that belong to nobody.
func roomyDir(d api.Dir) api.Dir {
	d = copied(d)
	for i, l := range d.Epochs {
		for j, b := range l {
			l[j].Key = roomy(string(b.Key))
		}
		d.Epochs[i] = append(l, bound("zzz", "behind", 9))[:len(l)]
	}
	for i, q := range d.Queue {
		d.Queue[i].Key = roomy(string(q.Key))
	}
	d.Epochs = append(d.Epochs, []api.Binding{bound("zzz", "behind", 9)})[:len(d.Epochs)]
	d.Queue = append(d.Queue, register("zzz", "behind"))[:len(d.Queue)]
	return d
}

// roomy is a text's bytes, with others behind them that belong to nobody.
func roomy(s string) []byte {
	return append([]byte(s), "behind it"...)[:len(s)]
}

// bound is a binding.
func bound(name, key string, serial uint64) api.Binding {
	return api.Binding{Name: name, Key: []byte(key), Serial: serial}
}

// register is a Register.
func register(name, key string) api.Request {
	return api.Request{Kind: api.Register, Name: name, Key: []byte(key)}
}

// change is the Change that the owner of a binding asks for.
func change(b api.Binding, key string) api.Request {
	return policy.Ask(b, []byte(key))
}

// number is a number's digits.
func number(n uint64) string {
	return strconv.FormatUint(n, 10)
}

// nth is the name of that number: of rising numbers the names rise.
func nth(i int) string {
	return "n" + strconv.Itoa(1000+i)
}

// many is so many bindings by rising names.
func many(n int) []api.Binding {
	var l []api.Binding
	for i := range n {
		l = append(l, bound(nth(i), "k"+strconv.Itoa(i), uint64(i+1)))
	}
	return l
}

// long is a text of n bytes that names have, none of them like its neighbours.
func long(n int) string {
	var b strings.Builder
	for i := range n {
		b.WriteByte(letters[i*7%len(letters)])
	}
	return b.String()
}
