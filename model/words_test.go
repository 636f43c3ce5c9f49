package model_test

// What the chapter says, word by word: the tests hold the package against it.

import (
	"bytes"
	"math"
	"slices"
	"strings"

	"blazon/api"
	"blazon/policy"
)

// spent is the last number that a Serial, or an epoch that is asked for, can be.
const spent = math.MaxUint64

// letters is what a name may have.
const letters = "abcdefghijklmnopqrstuvwxyz0123456789.-"

// nameOf tells whether a text is a name (5.1).
func nameOf(name string) bool {
	return name != "" && len(name) <= 32 && strings.Trim(name, letters) == ""
}

// has is which binding each name has.
type has map[string]api.Binding

// hasOf is bindings by their names.
func hasOf(l []api.Binding) has {
	h := has{}
	for _, b := range l {
		h[b.Name] = b
	}
	return h
}

// list is the bindings by rising names.
func (h has) list() []api.Binding {
	var l []api.Binding
	for _, b := range h {
		l = append(l, b)
	}
	slices.SortFunc(l, func(a, b api.Binding) int { return strings.Compare(a.Name, b.Name) })
	return l
}

// do is 20.2, word by word.
func (h has) do(q api.Request) api.Errno {
	old, there := h[q.Name]
	b, e := policy.Next(old, there, q)
	if e == api.OK && !there && len(h) == 256 {
		e = api.ErrFull
	}
	if e == api.OK {
		h[b.Name] = b
	}
	return e
}

// waitingOf is the last epoch's bindings behind all that waits, and the error of the first request that can't be done.
func waitingOf(d api.Dir) (has, api.Errno) {
	h := has{}
	if len(d.Epochs) > 0 {
		h = hasOf(d.Epochs[len(d.Epochs)-1])
	}
	for _, q := range d.Queue {
		if e := h.do(q); e != api.OK {
			return h, e
		}
	}
	return h, api.OK
}

// epochMayBe is what 20.1 says of an epoch.
func epochMayBe(l []api.Binding) bool {
	for i, b := range l {
		switch {
		case !nameOf(b.Name), len(b.Key) == 0, len(b.Key) > 64, b.Serial == 0:
			return false
		case i > 0 && strings.Compare(l[i-1].Name, b.Name) != -1:
			return false
		}
	}
	return len(l) <= 256
}

// checkOf is 20.1, word by word.
func checkOf(d api.Dir) api.Errno {
	most := uint64(len(d.Epochs))
	if most == 0 {
		most = 1
	}
	if len(d.Epochs) > 64 || len(d.Queue) > 16 || d.From == 0 || d.From > most {
		return api.ErrArg
	}
	for _, l := range d.Epochs {
		if !epochMayBe(l) {
			return api.ErrArg
		}
	}
	if _, e := waitingOf(d); e != api.OK {
		return api.ErrArg
	}
	return api.OK
}

// answer is what a call answers: all of its results, each zero where the call has none such.
type answer struct {
	d api.Dir
	l []api.Found
	e api.Errno
}

// failed is what a call answers that answers an error.
func failed(e api.Errno) answer {
	return answer{e: e}
}

// first is the first error that is one.
func first(l ...api.Errno) api.Errno {
	for _, e := range l {
		if e != api.OK {
			return e
		}
	}
	return api.OK
}

// submitOf is 20.3, word by word.
func submitOf(d api.Dir, q api.Request) answer {
	if e := checkOf(d); e != api.OK {
		return failed(e)
	}
	h, _ := waitingOf(d)
	if e := h.do(q); e != api.OK {
		return failed(e)
	}
	if len(d.Queue) == 16 {
		return failed(api.ErrFull)
	}
	d = copied(d)
	d.Queue = append(d.Queue, copiedRequest(q))
	return answer{d: d}
}

// sealOf is 20.4, word by word.
func sealOf(d api.Dir) answer {
	if e := checkOf(d); e != api.OK {
		return failed(e)
	}
	if len(d.Epochs) == 64 {
		return failed(api.ErrSpent)
	}
	d = copied(d)
	h, _ := waitingOf(d)
	return answer{d: copied(api.Dir{Epochs: append(d.Epochs, h.list()), From: d.From})}
}

// epochOf is the error of an epoch (20.5), word by word.
func epochOf(d api.Dir, n uint64) api.Errno {
	if n == 0 || n > uint64(len(d.Epochs)) {
		return api.ErrEpoch
	}
	if n < d.From {
		return api.ErrPruned
	}
	return api.OK
}

// errName is ErrName, if a text is no name.
func errName(name string) api.Errno {
	if !nameOf(name) {
		return api.ErrName
	}
	return api.OK
}

// foundOf is what a name has in an epoch that is answered.
func foundOf(d api.Dir, name string, n uint64) api.Found {
	b, there := hasOf(d.Epochs[n-1])[name]
	return api.Found{Epoch: n, There: there, Binding: copiedBinding(b)}
}

// lookupOf is 20.5, word by word.
func lookupOf(d api.Dir, name string, epoch uint64) answer {
	if e := first(checkOf(d), errName(name), epochOf(d, epoch)); e != api.OK {
		return answer{l: []api.Found{{}}, e: e}
	}
	return answer{l: []api.Found{foundOf(d, name, epoch)}}
}

// historyOf is 20.6, word by word.
func historyOf(d api.Dir, name string, from, to uint64) answer {
	e := first(checkOf(d), errName(name), epochOf(d, from), epochOf(d, to))
	if e == api.OK && from > to {
		e = api.ErrRange
	}
	if e != api.OK {
		return failed(e)
	}
	var a answer
	for n := from; n <= to; n++ {
		a.l = append(a.l, foundOf(d, name, n))
	}
	return a
}

// pruneOf is 20.7, word by word.
func pruneOf(d api.Dir, to uint64) answer {
	if e := checkOf(d); e != api.OK {
		return failed(e)
	}
	if to == 0 || to > uint64(len(d.Epochs)) {
		return failed(api.ErrEpoch)
	}
	d = copied(d)
	if to > d.From {
		d.From = to
	}
	return answer{d: d}
}

// copied is a directory in new memory, with nothing behind its lists.
func copied(d api.Dir) api.Dir {
	c := api.Dir{From: d.From}
	for _, l := range d.Epochs {
		var epoch []api.Binding
		for _, b := range l {
			epoch = append(epoch, copiedBinding(b))
		}
		c.Epochs = append(c.Epochs, slices.Clip(epoch))
	}
	for _, q := range d.Queue {
		c.Queue = append(c.Queue, copiedRequest(q))
	}
	c.Epochs, c.Queue = slices.Clip(c.Epochs), slices.Clip(c.Queue)
	return c
}

// copiedBinding is a binding in new memory.
func copiedBinding(b api.Binding) api.Binding {
	b.Key = slices.Clip(bytes.Clone(b.Key))
	return b
}

// copiedRequest is a request in new memory.
func copiedRequest(q api.Request) api.Request {
	q.Key = slices.Clip(bytes.Clone(q.Key))
	return q
}

// sameBinding tells whether two bindings are the same.
func sameBinding(a, b api.Binding) bool {
	return a.Name == b.Name && bytes.Equal(a.Key, b.Key) && a.Serial == b.Serial
}

// sameRequest tells whether two requests are the same.
func sameRequest(a, b api.Request) bool {
	return a.Kind == b.Kind && a.Name == b.Name && bytes.Equal(a.Key, b.Key) && a.Auth == b.Auth
}

// sameEpoch tells whether two epochs are the same.
func sameEpoch(a, b []api.Binding) bool {
	return slices.EqualFunc(a, b, sameBinding)
}

// sameDir tells whether two directories are the same; a list that is nil is one without elements.
func sameDir(a, b api.Dir) bool {
	return a.From == b.From && slices.EqualFunc(a.Epochs, b.Epochs, sameEpoch) && slices.EqualFunc(a.Queue, b.Queue, sameRequest)
}

// sameFound tells whether two things that were found are the same.
func sameFound(a, b api.Found) bool {
	return a.Epoch == b.Epoch && a.There == b.There && sameBinding(a.Binding, b.Binding)
}

// same tells whether two answers are the same.
func same(a, b answer) bool {
	return a.e == b.e && sameDir(a.d, b.d) && slices.EqualFunc(a.l, b.l, sameFound)
}
