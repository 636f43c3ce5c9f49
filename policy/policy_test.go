package policy_test

import (
	"encoding/hex"
	"math"
	"math/rand/v2"
	"slices"
	"strconv"
	"testing"

	"blazon/api"
	"blazon/policy"
)

// The chapter's example (19.1, 19.2), by the package alone.
func TestExample(t *testing.T) {
	q := api.Request{Kind: api.Register, Name: "ann", Key: []byte("k")}
	b, e := policy.Next(api.Binding{}, false, q)
	if e != api.OK || b.Name != "ann" || string(b.Key) != "k" || b.Serial != 1 {
		t.Fatalf("registered: %d, %v", e, b)
	}
	if c, e := policy.Next(b, true, q); e != api.ErrTwice || !sameBinding(c, api.Binding{}) {
		t.Errorf("once more: %d, %v", e, c)
	}
	c, e := policy.Next(b, true, policy.Ask(b, []byte("l")))
	if e != api.OK || c.Name != "ann" || string(c.Key) != "l" || c.Serial != 2 {
		t.Errorf("changed: %d, %v", e, c)
	}
}

// Auth against a digest that another program worked out (19.2): HMAC-SHA-256 by the key k of A, 3, ann, 2, l.
func TestKnownAuth(t *testing.T) {
	q := policy.Ask(api.Binding{Name: "ann", Key: []byte("k"), Serial: 1}, []byte("l"))
	if got := hex.EncodeToString(q.Auth[:]); got != "bea22599a12e6de021ee722debfb45533cc96b491ad98cdaf3b9f684cc2922c9" {
		t.Error(got)
	}
}

// 19.1: kinds that are neither, whatever else is wrong or right.
func TestKinds(t *testing.T) {
	for _, kind := range []int{0, 3, 4, -1, -2, 1 + 1<<32, 2 + 1<<32, 257, 258, math.MaxInt, math.MinInt} {
		for _, name := range []string{"ann", "", "Ann", "bob", long(33)} {
			for _, key := range []string{"k", "", long(65)} {
				for _, serial := range []uint64{0, 1, spent} {
					for _, there := range []bool{false, true} {
						q := api.Request{Kind: kind, Name: name, Key: roomy(key)}
						mustNext(t, "of no kind", bound("ann", "k", serial), there, q, api.ErrArg)
						q.Auth = askOf(bound("ann", "k", serial), q.Key).Auth
						mustNext(t, "of no kind, with an Auth", bound("ann", "k", serial), there, q, api.ErrArg)
					}
				}
			}
		}
	}
}

// both is requests of both kinds for that name and key, which are granted if these may be.
func both(name, key string) []sent {
	b := bound(name, "old", 7)
	return []sent{
		{api.Binding{}, false, register(name, key)},
		{b, true, askOf(b, roomy(key))},
	}
}

// 19.1: names and keys that may be, and that may not.
func TestNamesAndKeys(t *testing.T) {
	for _, x := range []struct {
		name, key string
		want      api.Errno
	}{
		{"a", "k", api.OK},
		{long(32), long(64), api.OK},
		{".", "\x00", api.OK},
		{"-", "\xff\xfe", api.OK},
		{"0.z-9", "Key!", api.OK},
		{"", "k", api.ErrName},
		{long(33), "k", api.ErrName},
		{"Ann", "k", api.ErrName},
		{"ann ", "k", api.ErrName},
		{"an\x00n", "k", api.ErrName},
		{"änn", "k", api.ErrName},
		{"ann", "", api.ErrKey},
		{"ann", long(65), api.ErrKey},
		{"", "", api.ErrName},
		{long(33), long(65), api.ErrName},
	} {
		for _, c := range both(x.name, x.key) {
			mustNext(t, x.name+" with "+x.key, c.b, c.there, c.q, x.want)
		}
	}
}

// 19.1: each byte that a name may have, and each other one.
func TestBytesOfNames(t *testing.T) {
	for c := range 256 {
		name := "a" + string([]byte{byte(c)}) + "b"
		for _, x := range both(name, "k") {
			mustNext(t, strconv.Quote(name), x.b, x.there, x.q, checkOf(name, []byte("k")))
		}
	}
}

// 19.1: a binding of another name, of both kinds; where there is none, what stands there is not looked at.
func TestOtherName(t *testing.T) {
	for _, other := range []string{"bob", "an", "anna", "", "Ann", long(33)} {
		b := bound(other, "k", 1)
		right := api.Request{Kind: api.Change, Name: "ann", Key: roomy("l"), Auth: authOf([]byte("k"), "ann", 2, []byte("l"))}
		mustNext(t, "Register of ann, "+other+" there", b, true, register("ann", "l"), api.ErrArg)
		mustNext(t, "Change of ann, "+other+" there", b, true, right, api.ErrArg)
		mustNext(t, "Register of ann, "+other+" beside none", b, false, register("ann", "l"), api.OK)
		mustNext(t, "Change of ann, "+other+" beside none", b, false, right, api.ErrNone)
	}
}

// 19.1: Register, where there is a binding and where there is none, with each Auth of one bit, and others.
func TestRegister(t *testing.T) {
	ann := bound("ann", "k", 1)
	mustNext(t, "none there", api.Binding{}, false, register("ann", "l"), api.OK)
	mustNext(t, "a binding beside none", ann, false, register("ann", "l"), api.OK)
	for _, serial := range []uint64{0, 1, 2, spent - 1, spent} {
		mustNext(t, "beside none, "+strconv.FormatUint(serial, 10), bound("ann", "k", serial), false, register("ann", "k"), api.OK)
		mustNext(t, "there, "+strconv.FormatUint(serial, 10), bound("ann", "k", serial), true, register("ann", "k"), api.ErrTwice)
	}
	auths := []api.Digest{chance(1), askOf(ann, []byte("l")).Auth, askOf(api.Binding{Name: "ann"}, []byte("l")).Auth}
	for bit := range 256 {
		auths = append(auths, turned(api.Digest{}, bit))
	}
	for i, d := range auths {
		q := register("ann", "l")
		q.Auth = d
		mustNext(t, "with an Auth, "+strconv.Itoa(i), api.Binding{}, false, q, api.ErrPolicy)
		mustNext(t, "with an Auth, there, "+strconv.Itoa(i), ann, true, q, api.ErrTwice)
	}
}

// 19.1: Change, at each edge of the Serial, with the Auth that is asked for, with one of which a bit is another one, and with those of other things.
func TestChange(t *testing.T) {
	for _, serial := range []uint64{0, 1, 2, 255, 1<<32 - 1, 1 << 63, spent - 2, spent - 1} {
		b := bound("ann", "k", serial)
		name := "at " + strconv.FormatUint(serial, 10)
		got := mustNext(t, name, b, true, askOf(b, roomy("l")), api.OK)
		if got.Serial != serial+1 || got.Serial == 0 {
			t.Errorf("%s: the number is %d", name, got.Serial)
		}
		mustNext(t, name+", none there", b, false, askOf(b, roomy("l")), api.ErrNone)
		mustNext(t, name+", to the same key", b, true, askOf(b, roomy("k")), api.OK)
		for i, d := range wrongAuths(b, "l") {
			q := api.Request{Kind: api.Change, Name: "ann", Key: roomy("l"), Auth: d}
			mustNext(t, name+", wrong, "+strconv.Itoa(i), b, true, q, api.ErrPolicy)
			mustNext(t, name+", wrong, none there, "+strconv.Itoa(i), b, false, q, api.ErrNone)
		}
	}
}

// wrongAuths is what a change of a binding to a key is not asked for with.
func wrongAuths(b api.Binding, key string) []api.Digest {
	k, right := []byte(key), askOf(b, []byte(key)).Auth
	wrong := []api.Digest{
		{},
		chance(2),
		authOf(b.Key, b.Name, b.Serial, k),         // the number that is there
		authOf(b.Key, b.Name, b.Serial+2, k),       // the one behind the next one
		authOf(k, b.Name, b.Serial+1, k),           // by the new key
		authOf(nil, b.Name, b.Serial+1, k),         // by none
		authOf(b.Key, b.Name, b.Serial+1, b.Key),   // to the old key
		authOf(b.Key, b.Name, b.Serial+1, nil),     // to none
		authOf(b.Key, "bob", b.Serial+1, k),        // of another name
		authOf(b.Key, b.Name+key, b.Serial+1, nil), // another text
	}
	for bit := range 256 {
		wrong = append(wrong, turned(right, bit))
	}
	return wrong
}

// 19.1: at the last Serial a change is refused, whatever its Auth is.
func TestSpent(t *testing.T) {
	b := bound("ann", "k", spent)
	mustNext(t, "asked for", b, true, askOf(b, roomy("l")), api.ErrSpent)
	mustNext(t, "asked for, none there", b, false, askOf(b, roomy("l")), api.ErrNone)
	for _, d := range wrongAuths(b, "l") {
		mustNext(t, "wrong", b, true, api.Request{Kind: api.Change, Name: "ann", Key: roomy("l"), Auth: d}, api.ErrSpent)
	}
}

// A binding with a key that may not be, as 19.1 does not ask whether b may be.
func TestOldKeysOfAllLengths(t *testing.T) {
	for _, n := range []int{0, 1, 31, 32, 33, 63, 64, 65, 127, 128, 1000} {
		b := bound("ann", long(n), 3)
		name := "an old key of " + strconv.Itoa(n)
		mustNext(t, name, b, true, mustAsk(t, name, b, roomy("l")), api.OK)
		mustNext(t, name+", registered", b, true, register("ann", "l"), api.ErrTwice)
	}
}

// The order in which 19.1 tells errors, each against each where two of them hold, of all that a request can be.
func TestOrder(t *testing.T) {
	const cases = 8
	var pairs [cases][cases]int // how often the first case that holds is that one, and this one holds, too
	for _, x := range allRequests() {
		l := faultsOf(x.b, x.there, x.q)
		_, want := nextOf(x.b, x.there, x.q)
		mustNext(t, "of all", x.b, x.there, x.q, want)
		first := slices.IndexFunc(l, func(f fault) bool { return f.holds })
		for i, f := range l {
			if f.holds {
				pairs[first][i]++
			}
		}
	}
	for k := range cases {
		for i := k; i < cases; i++ {
			// A request is of one kind, and a binding is there or not.
			never := k == 0 && i >= 3 || 3 <= k && k <= 4 && i >= 5 || k == 2 && i == 5
			if never != (pairs[k][i] == 0) {
				t.Errorf("the cases %d and %d of 19.1 hold %d times", k+1, i+1, pairs[k][i])
			}
		}
	}
}

// sent is a request, and the binding that it is sent to.
type sent struct {
	b     api.Binding
	there bool
	q     api.Request
}

// allRequests is each kind with each name, key, binding, number and Auth.
func allRequests() (all []sent) {
	for _, kind := range []int{0, 1, 2, 3} {
		for _, name := range []string{"ann", "", "Ann", long(33)} {
			for _, key := range []string{"l", "", long(65)} {
				for _, other := range []bool{false, true} {
					for _, there := range []bool{false, true} {
						for _, serial := range []uint64{0, 1, spent - 1, spent} {
							b := bound(name, "k", serial)
							if other {
								b.Name = "bob"
							}
							for _, d := range []api.Digest{{}, askOf(b, []byte(key)).Auth, turned(askOf(b, []byte(key)).Auth, 255)} {
								all = append(all, sent{b, there, api.Request{Kind: kind, Name: name, Key: roomy(key), Auth: d}})
							}
						}
					}
				}
			}
		}
	}
	return all
}

// 19.2: Ask of bindings that may be and that may not, at each edge of the number, of the lengths of both keys, and of the name's.
func TestAsk(t *testing.T) {
	for _, serial := range []uint64{0, 1, 255, 1<<32 - 1, 1<<63 - 1, spent - 1, spent} {
		for _, old := range []int{0, 1, 64, 65} {
			for _, key := range []int{0, 1, 64, 65} {
				for _, name := range []string{"ann", "", "Ann", long(32), long(33), "\xff\x00"} {
					b := bound(name, long(old), serial)
					what := strconv.Quote(name) + " at " + strconv.FormatUint(serial, 10) + ", " + strconv.Itoa(old) + " and " + strconv.Itoa(key)
					mustAsk(t, what, b, roomy(long(key)))
				}
			}
		}
	}
}

// 19.2: at the last Serial the number in Auth is 0.
func TestAskSpent(t *testing.T) {
	q := policy.Ask(api.Binding{Name: "ann", Key: []byte("k"), Serial: spent}, []byte("l"))
	if q.Auth != authOf([]byte("k"), "ann", 0, []byte("l")) {
		t.Errorf("%x", q.Auth)
	}
}

// Lists that are nil and lists without elements are the same (R3), in both calls.
func TestNil(t *testing.T) {
	for _, old := range [][]byte{nil, {}, roomy("")} {
		for _, key := range [][]byte{nil, {}, roomy("")} {
			b := api.Binding{Name: "ann", Key: old, Serial: 4}
			q := mustAsk(t, "of no bytes", b, key)
			mustNext(t, "asked to none", b, true, q, api.ErrKey)
			mustNext(t, "registered with none", api.Binding{}, false, api.Request{Kind: api.Register, Name: "ann", Key: key}, api.ErrKey)
		}
	}
}

// One memory for all keys that are handed in: it stays as it was, and what is told is elsewhere.
func TestOneMemory(t *testing.T) {
	key := roomy("key")
	b := api.Binding{Name: "ann", Key: key, Serial: 1}
	q := mustAsk(t, "one memory", b, key)
	q.Key = key
	mustNext(t, "one memory", b, true, q, api.OK)
	mustNext(t, "one memory, refused", b, true, register("ann", "key"), api.ErrTwice)
}

// P1, P7: anything at all, like chance: no call panics, and each tells what the words do.
func TestLikeChance(t *testing.T) {
	r := rand.New(rand.NewPCG(19, 1))
	counts := map[api.Errno]int{}
	for range 20000 {
		b := api.Binding{Name: anyName(r), Key: anyKey(r), Serial: anySerial(r)}
		q := api.Request{Kind: r.IntN(4), Name: anyName(r), Key: anyKey(r), Auth: chance(r.IntN(3))}
		if r.IntN(4) > 0 {
			q.Name = b.Name
		}
		if r.IntN(3) > 0 {
			q.Auth = askOf(b, q.Key).Auth
		} else if r.IntN(2) > 0 {
			q.Auth = api.Digest{}
		}
		there := r.IntN(2) > 0
		_, want := nextOf(b, there, q)
		mustNext(t, "like chance", b, there, q, want)
		mustAsk(t, "like chance", b, q.Key)
		counts[want]++
	}
	for _, e := range []api.Errno{api.OK, api.ErrArg, api.ErrName, api.ErrKey, api.ErrTwice, api.ErrNone, api.ErrSpent, api.ErrPolicy} {
		if counts[e] == 0 {
			t.Errorf("%d was never told", e)
		}
	}
}

// anyName is a name, most times.
func anyName(r *rand.Rand) string {
	switch r.IntN(8) {
	case 0:
		return long(33)
	case 1:
		return string([]byte{byte(r.IntN(256))})
	case 2:
		return ""
	}
	return long(1 + r.IntN(3))
}

// anyKey is a key, most times.
func anyKey(r *rand.Rand) []byte {
	switch r.IntN(8) {
	case 0:
		return roomy(long(65 + r.IntN(2)))
	case 1:
		return nil
	}
	return roomy(long(1 + r.IntN(64)))
}

// anySerial is a number, often one at an edge.
func anySerial(r *rand.Rand) uint64 {
	switch r.IntN(4) {
	case 0:
		return spent
	case 1:
		return spent - r.Uint64N(3)
	case 2:
		return r.Uint64N(3)
	}
	return r.Uint64()
}
