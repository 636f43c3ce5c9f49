package policy_test

import (
	"crypto/sha256"
	"math/rand/v2"
	"strconv"
	"testing"

	"blazon/api"
	"blazon/policy"
)

// 19.3: what follows, by the package's own calls.

// mustGrant is of a request that must be granted: the name stays, the number rises by one, the key is the one that was asked for.
func mustGrant(t *testing.T, name string, b api.Binding, q api.Request) api.Binding {
	t.Helper()
	next := mustNext(t, name, b, true, q, api.OK)
	if next.Name != b.Name || next.Serial != b.Serial+1 || string(next.Key) != string(q.Key) {
		t.Errorf("%s: granted is %v, of %v", name, next, b)
	}
	return next
}

// refused tells whether a request is granted nothing by a binding.
func refused(b api.Binding, q api.Request) bool {
	next, e := policy.Next(b, true, q)
	return e != api.OK && sameBinding(next, api.Binding{})
}

// What the owner asks is granted, once; who has another key is granted nothing.
func TestAskedIsGrantedOnce(t *testing.T) {
	for _, name := range []string{"a", "ann", long(32)} {
		for _, serial := range []uint64{0, 1, 2, 1 << 40, spent - 2, spent - 1} {
			for _, old := range []int{1, 2, 32, 63, 64} {
				for _, key := range []int{1, 2, 32, 63, 64} {
					b := bound(name, long(old), serial)
					what := name + " at " + strconv.FormatUint(serial, 10) + ", " + strconv.Itoa(old) + " and " + strconv.Itoa(key)
					mustFollow(t, what, b, roomy(long(key)))
				}
			}
		}
	}
}

// mustFollow is of a binding whose owner asks for a key.
func mustFollow(t *testing.T, what string, b api.Binding, key []byte) {
	t.Helper()
	q := policy.Ask(b, key)
	next := mustGrant(t, what, b, q)
	if e := api.ErrPolicy; next.Serial != spent {
		mustNext(t, what+", sent again", next, true, q, e)
	} else {
		mustNext(t, what+", sent again at the last number", next, true, q, api.ErrSpent)
	}
	for _, other := range []string{string(b.Key) + "x", string(b.Key[1:]), "x" + string(b.Key[1:]), "x", string(key) + "y", ""} {
		asked := policy.Ask(bound(b.Name, other, b.Serial), key)
		mustNext(t, what+", by who has "+other, b, true, asked, api.ErrPolicy)
	}
	for _, other := range []string{"x", string(key) + "x"} {
		asked := q
		if asked.Key = []byte(other); len(other) <= 64 {
			mustNext(t, what+", to another key", b, true, asked, api.ErrPolicy)
		}
	}
}

// By each key of which one bit is another one nothing is granted.
func TestKeysOfOneBit(t *testing.T) {
	b := bound("ann", long(64), 1)
	for bit := range 8 * 64 {
		other := bound("ann", long(64), 1)
		other.Key[bit/8] ^= 1 << (bit % 8)
		if !refused(b, policy.Ask(other, roomy("l"))) {
			t.Errorf("with the bit %d another one it is granted", bit)
		}
	}
}

// Where keyed digests are one, who has the other key is the owner, too: of a key that is filled up with noughts, and of a long one and its digest.
func TestKeysOfOneDigest(t *testing.T) {
	short := bound("ann", "k", 1)
	for _, n := range []int{1, 2, 30, 63} {
		filled := bound("ann", "k"+string(make([]byte, n)), 1)
		mustGrant(t, "filled up", short, policy.Ask(filled, roomy("l")))
		mustGrant(t, "not filled up", filled, policy.Ask(short, roomy("l")))
	}
	mustNext(t, "filled up too far", short, true, policy.Ask(bound("ann", "k"+string(make([]byte, 64)), 1), roomy("l")), api.ErrPolicy)
	digest := sha256.Sum256([]byte(long(65)))
	mustGrant(t, "a long one", bound("ann", string(digest[:]), 1), policy.Ask(bound("ann", long(65), 1), roomy("l")))
}

// What was asked at one number, or of one name, is granted at no other one, even with the same key.
func TestAskedElsewhere(t *testing.T) {
	serials := []uint64{0, 1, 2, 3, 255, 256, 1 << 32, spent - 1, spent}
	for _, at := range serials {
		for _, asked := range serials {
			for _, name := range []string{"ann", "an", "anna"} {
				b, other := bound("ann", "k", at), bound(name, "k", asked)
				got := refused(b, policy.Ask(other, []byte("l")))
				if granted := at == asked && name == "ann" && at != spent; granted == got {
					t.Errorf("asked of %s at %d, sent to ann at %d: refused %v", name, asked, at, got)
				}
			}
		}
	}
}

// A key that comes back brings nothing of what was asked with it back.
func TestKeyComesBack(t *testing.T) {
	b := mustNext(t, "registered", api.Binding{}, false, register("ann", "k"), api.OK)
	unsent := policy.Ask(b, []byte("m"))
	sent := policy.Ask(b, []byte("l"))
	b = mustGrant(t, "to l", b, sent)
	b = mustGrant(t, "back to k", b, policy.Ask(b, []byte("k")))
	mustNext(t, "sent again", b, true, sent, api.ErrPolicy)
	mustNext(t, "sent late", b, true, unsent, api.ErrPolicy)
	same := policy.Ask(b, []byte("k"))
	b = mustGrant(t, "to itself", b, same)
	mustNext(t, "to itself again", b, true, same, api.ErrPolicy)
	if b.Serial != 4 {
		t.Errorf("the number is %d", b.Serial)
	}
}

// row is one name's life: what it has, and all that was granted.
type row struct {
	b       api.Binding
	there   bool
	granted []api.Request
	last    api.Binding // the one ahead
}

// any is a request like chance: of the owner, of who has another key, sent again, late, or forged.
func (w *row) any(r *rand.Rand) api.Request {
	keys := []string{"k", "l", "m", long(64), ""}
	key := roomy(keys[r.IntN(len(keys))])
	b := w.b
	switch r.IntN(8) {
	case 0:
		return register(b.Name, string(key))
	case 1:
		b.Key = roomy(keys[r.IntN(len(keys))])
	case 2:
		b.Serial = r.Uint64N(8)
	case 3:
		b = w.last
	case 4:
		if len(w.granted) > 0 {
			return w.granted[r.IntN(len(w.granted))]
		}
	case 5:
		q := policy.Ask(b, key)
		q.Auth = turned(q.Auth, r.IntN(256))
		return q
	case 6:
		b.Name = "bob"
	}
	return policy.Ask(b, key)
}

// send sends one request: what is granted has the same name and a number that is one more, and only by who has the key that is there.
func (w *row) send(t *testing.T, q api.Request) {
	t.Helper()
	next, want := nextOf(w.b, w.there, q)
	got := mustNext(t, "in a row", w.b, w.there, q, want)
	if want != api.OK {
		return
	}
	if !sameBinding(got, next) || got.Name != "ann" || got.Serial != w.b.Serial+1 {
		t.Fatalf("granted is %v, of %v", got, w.b)
	}
	if w.there && !sameRequest(q, askOf(w.b, q.Key)) {
		t.Fatalf("granted is %v, which was not asked with %s", q, w.b.Key)
	}
	w.last, w.b, w.there = w.b, got, true
	w.granted = append(w.granted, q)
	for i, old := range w.granted {
		if !refused(w.b, old) {
			t.Fatalf("what was granted as number %d is granted again at %d", i+1, w.b.Serial)
		}
	}
}

// Long rows like chance: nothing is ever granted twice, and the number is how often something was granted.
func TestRows(t *testing.T) {
	for seed := range uint64(40) {
		r := rand.New(rand.NewPCG(19, seed))
		w := row{b: api.Binding{Name: "ann"}, last: api.Binding{Name: "ann"}}
		for range 150 {
			q := w.any(r)
			if q.Name == "ann" || w.there {
				w.send(t, q)
			}
		}
		if w.b.Serial != uint64(len(w.granted)) || w.b.Serial < 10 {
			t.Errorf("seed %d: the number is %d, granted were %d", seed, w.b.Serial, len(w.granted))
		}
	}
}
