package policy_test

// What the chapter says, word by word: the tests hold the package against it.

import (
	"bytes"
	"crypto/hmac"
	"crypto/sha256"
	"encoding/binary"
	"math"
	"slices"
	"strconv"
	"strings"
	"testing"

	"blazon/api"
	"blazon/policy"
)

// spent is the last number that a Serial can be.
const spent = math.MaxUint64

// names is what a name may have.
const names = "abcdefghijklmnopqrstuvwxyz0123456789.-"

// authOf is what tags.AuthOf must be.
func authOf(old []byte, name string, serial uint64, key []byte) (d api.Digest) {
	b := binary.BigEndian.AppendUint64([]byte("A"), uint64(len(name)))
	b = append(b, name...)
	b = binary.BigEndian.AppendUint64(b, serial)
	h := hmac.New(sha256.New, old)
	h.Write(append(b, key...))
	return api.Digest(h.Sum(nil))
}

// checkOf is what record.Check must be of a Name and a Key.
func checkOf(name string, key []byte) api.Errno {
	if name == "" || len(name) > 32 || strings.Trim(name, names) != "" {
		return api.ErrName
	}
	if len(key) == 0 || len(key) > 64 {
		return api.ErrKey
	}
	return api.OK
}

// fault is a case of 19.1, and what is told of it.
type fault struct {
	holds bool
	e     api.Errno
}

// faultsOf is all cases that 19.1 names, in its order.
func faultsOf(b api.Binding, there bool, q api.Request) []fault {
	checked := checkOf(q.Name, q.Key)
	register, change := q.Kind == 1, q.Kind == 2
	return []fault{
		{!register && !change, api.ErrArg},
		{checked != api.OK, checked},
		{there && b.Name != q.Name, api.ErrArg},
		{register && there, api.ErrTwice},
		{register && q.Auth != api.Digest{}, api.ErrPolicy},
		{change && !there, api.ErrNone},
		{change && b.Serial == spent, api.ErrSpent},
		{change && q.Auth != authOf(b.Key, b.Name, b.Serial+1, q.Key), api.ErrPolicy},
	}
}

// nextOf is 19.1, word by word.
func nextOf(b api.Binding, there bool, q api.Request) (api.Binding, api.Errno) {
	for _, f := range faultsOf(b, there, q) {
		if f.holds {
			return api.Binding{}, f.e
		}
	}
	if q.Kind == 1 {
		return api.Binding{Name: q.Name, Key: q.Key, Serial: 1}, api.OK
	}
	return api.Binding{Name: q.Name, Key: q.Key, Serial: b.Serial + 1}, api.OK
}

// askOf is 19.2, word by word.
func askOf(b api.Binding, key []byte) api.Request {
	return api.Request{Kind: 2, Name: b.Name, Key: key, Auth: authOf(b.Key, b.Name, b.Serial+1, key)}
}

// sameBinding tells whether two bindings are the same.
func sameBinding(a, b api.Binding) bool {
	return a.Name == b.Name && bytes.Equal(a.Key, b.Key) && a.Serial == b.Serial
}

// sameRequest tells whether two requests are the same.
func sameRequest(a, b api.Request) bool {
	return a.Kind == b.Kind && a.Name == b.Name && bytes.Equal(a.Key, b.Key) && a.Auth == b.Auth
}

// whole is all memory of a text, what lies behind its length, too.
func whole(b []byte) []byte {
	return b[:cap(b)]
}

// mustNext asks Next: it must tell that error, and what the words do; the same again; in new memory; and leave what is handed in.
func mustNext(t *testing.T, name string, b api.Binding, there bool, q api.Request, want api.Errno) api.Binding {
	t.Helper()
	model, e := nextOf(b, there, q)
	if e != want {
		t.Fatalf("%s: by the words %d; the test wants %d", name, e, want)
	}
	model.Key = bytes.Clone(model.Key)
	old, asked := slices.Clone(whole(b.Key)), slices.Clone(whole(q.Key))
	var told [2]api.Binding
	for i := range told {
		told[i], e = policy.Next(b, there, q)
		if e != want || !sameBinding(told[i], model) {
			t.Errorf("%s: %d, %v; want %d, %v", name, e, told[i], want, model)
		}
		if e != api.OK && told[i].Key != nil {
			t.Errorf("%s: beside the error %d there is a key", name, e)
		}
	}
	spoil(told[1].Key)
	if !sameBinding(told[0], model) {
		t.Errorf("%s: what is told twice shares memory", name)
	}
	spoil(told[0].Key)
	if !bytes.Equal(whole(b.Key), old) || !bytes.Equal(whole(q.Key), asked) {
		t.Errorf("%s: what is handed in was changed, or shares memory with what is told", name)
	}
	return model
}

// mustAsk asks Ask: it must tell what the words do; the same again; in new memory; and leave what is handed in.
func mustAsk(t *testing.T, name string, b api.Binding, key []byte) api.Request {
	t.Helper()
	model := askOf(b, bytes.Clone(key))
	old, asked := slices.Clone(whole(b.Key)), slices.Clone(whole(key))
	told := [2]api.Request{policy.Ask(b, key), policy.Ask(b, key)}
	for _, q := range told {
		if !sameRequest(q, model) {
			t.Errorf("%s: %v; want %v", name, q, model)
		}
	}
	spoil(told[1].Key)
	if !sameRequest(told[0], model) {
		t.Errorf("%s: what is told twice shares memory", name)
	}
	spoil(told[0].Key)
	if !bytes.Equal(whole(b.Key), old) || !bytes.Equal(whole(key), asked) {
		t.Errorf("%s: what is handed in was changed, or shares memory with what is told", name)
	}
	return model
}

// spoil writes over all memory of a text, to its very end.
func spoil(b []byte) {
	b = whole(b)
	for i := range b {
		b[i] ^= 0xff
	}
}

// bound is a binding.
func bound(name, key string, serial uint64) api.Binding {
	return api.Binding{Name: name, Key: roomy(key), Serial: serial}
}

// register is a Register.
func register(name, key string) api.Request {
	return api.Request{Kind: api.Register, Name: name, Key: roomy(key)}
}

// roomy is a text's bytes, with others behind them that belong to nobody.
func roomy(s string) []byte {
	return append([]byte(s), "behind it"...)[:len(s)]
}

// chance is a digest that is like chance, but the same one each time.
func chance(i int) api.Digest {
	return sha256.Sum256([]byte(strconv.Itoa(i)))
}

// turned is a digest of which that bit is the other one.
func turned(d api.Digest, bit int) api.Digest {
	d[bit/8] ^= 1 << (7 - bit%8)
	return d
}

// long is a text of n bytes that names have, none of them like its neighbours.
func long(n int) string {
	var b strings.Builder
	for i := range n {
		b.WriteByte(names[i*7%len(names)])
	}
	return b.String()
}
