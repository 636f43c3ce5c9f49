package cache

import (
	"bytes"
	"fmt"
	"maps"
	"math"
	"math/rand/v2"
	"slices"
	"strings"
	"testing"

	"blazon/api"
)

// filled is a cache of so many things and its model, in which those keys were put, each with its place as its thing.
func filled(t *testing.T, most int, keys string) *both[string, int] {
	t.Helper()
	b := newBoth[string](t, most, equal[int])
	for i, k := range strings.Split(keys, "") {
		b.put(k, i)
	}
	return b
}

// mustKeys is of a cache whose keys, one behind the other, must be that.
func (b *both[K, V]) mustKeys(want string) {
	b.t.Helper()
	var s string
	for _, k := range b.c.Keys() {
		s += fmt.Sprint(k)
	}
	if s != want {
		b.fail("Keys: %q, want %q", s, want)
	}
}

// mustCount is of a cache that must have counted so.
func (b *both[K, V]) mustCount(hits, misses int) {
	b.t.Helper()
	if h, m := b.c.Count(); h != hits || m != misses {
		b.fail("Count: %d, %d, want %d, %d", h, m, hits, misses)
	}
}

// mustHave is of a cache that must tell that thing of a key.
func (b *both[K, V]) mustHave(k K, want V) {
	b.t.Helper()
	if got, ok := b.c.Get(k); !ok || !b.like(got, want) {
		b.fail("Get of %v: %v, %v, want %v", k, got, ok, want)
	}
	b.m.Get(k)
	b.look()
}

// mustLack is of a cache that must not have a key: nothing is told beside the false.
func (b *both[K, V]) mustLack(k K) {
	b.t.Helper()
	if got, ok := b.c.Get(k); ok || !b.like(got, *new(V)) {
		b.fail("Get of %v: %v, %v, want false", k, got, ok)
	}
	b.m.Get(k)
	b.look()
}

// The chapter's example.
func TestExample(t *testing.T) {
	c := New[string, string](1)
	c.Put("a", "x")
	c.Put("b", "y")
	if v, ok := c.Get("a"); ok || v != "" {
		t.Errorf("a: %q, %v", v, ok)
	}
	if v, ok := c.Get("b"); !ok || v != "y" {
		t.Errorf("b: %q, %v", v, ok)
	}
	if hits, misses := c.Count(); hits != 1 || misses != 1 {
		t.Errorf("Count: %d, %d", hits, misses)
	}
}

// 16.1: a new cache has nothing, and has counted nothing.
func TestNew(t *testing.T) {
	for _, most := range []int{math.MinInt, -1000, -1, 0, 1, 2, 64, 1 << 20, math.MaxInt} {
		b := newBoth[string](t, most, equal[int])
		if b.c == nil {
			t.Fatalf("New(%d): nil", most)
		}
		b.mustKeys("")
		b.mustCount(0, 0)
		if b.drop("a") {
			t.Errorf("New(%d): Drop of a: true", most)
		}
		b.mustLack("a")
		b.mustLack("")
		b.mustCount(0, 2)
	}
}

// 16.1: how many there may be, of as many as are put.
func TestMost(t *testing.T) {
	for most, want := range map[int]string{
		math.MinInt: "", -2: "", -1: "", 0: "", 1: "f", 2: "ef", 3: "def", 5: "bcdef",
		6: "abcdef", 7: "abcdef", 64: "abcdef", math.MaxInt - 1: "abcdef", math.MaxInt: "abcdef",
	} {
		b := filled(t, most, "abcdef")
		b.mustKeys(want)
		for i, k := range strings.Split("abcdef", "") {
			if strings.Contains(want, k) {
				b.mustHave(k, i)
			} else {
				b.mustLack(k)
			}
		}
		b.mustCount(len(want), 6-len(want))
		b.mustKeys(want)
	}
}

// 16.1: two caches have nothing to do with each other.
func TestEachByItself(t *testing.T) {
	a, b := filled(t, 2, "ab"), filled(t, 2, "cd")
	a.put("c", 9)
	a.drop("b")
	a.get("d")
	b.mustKeys("cd")
	b.mustCount(0, 0)
	b.mustHave("c", 0)
	a.mustKeys("c")
	a.mustCount(0, 1)
	a.mustHave("c", 9)
}

// 16.2: what is at hand is told, and is then the one that was asked for last.
func TestGet(t *testing.T) {
	for k, want := range map[string]string{"a": "bcda", "b": "acdb", "c": "abdc", "d": "abcd"} {
		b := filled(t, 4, "abcd")
		for i := range 3 {
			b.mustHave(k, strings.Index("abcd", k))
			b.mustKeys(want)
			b.mustCount(i+1, 0)
		}
		b.put("e", 4) // the one that is first now goes
		b.mustKeys(want[1:] + "e")
		b.mustLack(want[:1])
		b.mustKeys(want[1:] + "e")
	}
	b := filled(t, 1, "a")
	b.mustHave("a", 0)
	b.mustKeys("a")
}

// 16.2: what is not at hand: what never was, what went, what was dropped. Nothing else changes by it.
func TestGetNone(t *testing.T) {
	b := filled(t, 3, "abcd")
	b.mustLack("x")
	b.mustKeys("bcd")
	b.mustCount(0, 1)
	b.mustLack("a")
	b.mustKeys("bcd")
	b.mustCount(0, 2)
	b.drop("c")
	b.mustLack("c")
	b.mustKeys("bd")
	b.mustCount(0, 3)
	b.mustLack("a")
	b.mustLack("a")
	b.mustCount(0, 5)
	b.mustHave("b", 1)
	b.mustKeys("db")
	b.mustCount(1, 5)
	b.put("e", 4) // there is room, as nothing that was asked for in vain takes any
	b.mustKeys("dbe")
}

// 16.2: a thing that is the zero value is at hand, too.
func TestZeroThing(t *testing.T) {
	b := newBoth[string](t, 2, equal[int])
	b.put("", 0)
	b.mustHave("", 0)
	b.mustKeys("")
	if keys := b.c.Keys(); len(keys) != 1 {
		t.Errorf("%d keys", len(keys))
	}
	b.mustLack("0")
	b.mustCount(1, 1)
	if !b.drop("") || b.drop("") {
		t.Error("Drop of the zero key")
	}
	b.mustLack("")
}

// 16.3: Put of a key that is not there, where there is room and where there is none.
func TestPutNew(t *testing.T) {
	b := newBoth[string](t, 3, equal[int])
	for i, want := range []string{"a", "ab", "abc", "bcd", "cde", "def"} {
		k := want[len(want)-1:]
		b.put(k, i)
		b.mustKeys(want)
		b.mustCount(i, 0)
		b.mustHave(k, i)
		b.mustKeys(want)
	}
	b.put("a", 7) // one that went, again
	b.mustKeys("efa")
	b.mustHave("a", 7)
	b.mustLack("d")
}

// 16.3: Put of a key that is there, with another thing and with the same one: none goes.
func TestPutAgain(t *testing.T) {
	for _, most := range []int{3, 4, math.MaxInt} {
		for k, want := range map[string]string{"a": "bca", "b": "acb", "c": "abc"} {
			for _, thing := range []int{strings.Index("abc", k), 77} {
				b := filled(t, most, "abc")
				b.put(k, thing)
				b.mustKeys(want)
				b.mustCount(0, 0)
				b.put(k, thing)
				b.mustKeys(want)
				b.mustHave(k, thing)
				for i, other := range strings.Split("abc", "") {
					if other != k {
						b.mustHave(other, i)
					}
				}
				b.mustHave(k, thing)
				b.mustCount(4, 0)
			}
		}
	}
}

// 16.3: Put makes the key the one that was asked for last: another one goes first.
func TestPutGoesLast(t *testing.T) {
	b := filled(t, 3, "abc")
	b.put("a", 10)
	b.put("d", 11)
	b.mustKeys("cad")
	b.mustLack("b")
	b.put("c", 12)
	b.put("e", 13)
	b.mustKeys("dce")
	b.mustLack("a")
	b.mustHave("c", 12)
}

// 16.3: into a cache of none: it goes at once.
func TestPutNone(t *testing.T) {
	for _, most := range []int{0, -1, math.MinInt} {
		b := newBoth[string](t, most, equal[int])
		for i := range 3 {
			b.put("a", i)
			b.put("b", i)
			b.mustKeys("")
			b.mustLack("a")
			b.mustLack("b")
			b.mustCount(0, 2*i+2)
			if b.drop("a") || b.drop("b") {
				t.Errorf("New(%d): Drop: true", most)
			}
		}
	}
}

// 16.3: into a cache of one: the last one alone stays.
func TestPutOne(t *testing.T) {
	b := filled(t, 1, "a")
	b.mustKeys("a")
	b.put("a", 5)
	b.mustKeys("a")
	b.mustHave("a", 5)
	b.put("b", 6)
	b.mustKeys("b")
	b.mustLack("a")
	b.mustHave("b", 6)
	b.put("a", 7)
	b.mustKeys("a")
	b.mustHave("a", 7)
	if !b.drop("a") || b.drop("b") {
		t.Error("Drop")
	}
	b.mustKeys("")
	b.put("b", 8)
	b.mustKeys("b")
	b.mustHave("b", 8)
	b.mustCount(4, 1)
}

// 16.3: Drop of the first, a middle and the last one, of one that is not there, twice; and Put of it again.
func TestDrop(t *testing.T) {
	for _, most := range []int{4, 5, math.MaxInt} {
		for k, rest := range map[string]string{"a": "bcd", "b": "acd", "c": "abd", "d": "abc"} {
			b := filled(t, most, "abcd")
			if !b.drop(k) {
				t.Errorf("Drop of %s: false", k)
			}
			b.mustKeys(rest)
			if b.drop(k) || b.drop("x") {
				t.Errorf("Drop of %s again, or of x: true", k)
			}
			b.mustKeys(rest)
			b.mustCount(0, 0)
			b.mustLack(k)
			b.mustCount(0, 1)
			b.put(k, 9)
			b.mustKeys(rest + k)
			b.mustHave(k, 9)
			for _, other := range strings.Split(rest, "") {
				b.mustHave(other, strings.Index("abcd", other))
			}
			b.mustCount(4, 1)
		}
	}
}

// 16.3: Drop of one that went: false. What is dropped makes room, what is not does not.
func TestDropMakesRoom(t *testing.T) {
	b := filled(t, 3, "abcd")
	if b.drop("a") {
		t.Error("Drop of one that went: true")
	}
	b.mustKeys("bcd")
	b.drop("c")
	b.put("e", 4)
	b.mustKeys("bde")
	b.put("f", 5)
	b.mustKeys("def")
	for _, k := range []string{"e", "d", "f"} {
		if !b.drop(k) {
			t.Errorf("Drop of %s: false", k)
		}
	}
	b.mustKeys("")
	b.put("a", 6)
	b.put("b", 7)
	b.put("c", 8)
	b.mustKeys("abc")
	b.put("d", 9)
	b.mustKeys("bcd")
	b.mustCount(0, 0)
}

// 16.4: Put, Drop, Keys and Count are not counted; each Get is, also of one key again and again.
func TestCount(t *testing.T) {
	b := filled(t, 2, "abc")
	for range 10 {
		b.put("b", 1)
		b.put("x", 1)
		b.drop("x")
		b.drop("y")
		b.put("c", 1)
		b.c.Keys()
	}
	b.mustCount(0, 0)
	for i := range 100 {
		b.mustCount(2*i, i)
		b.get("b")
		b.get("a")
		b.get("c")
	}
	b.mustCount(200, 100)
	b.drop("b")
	b.drop("c")
	b.mustCount(200, 100)
}

// 16.4, R3: what Keys tells is new memory each time, also behind its length.
func TestKeysShareNothing(t *testing.T) {
	b := filled(t, 4, "abcd")
	one, two := b.c.Keys(), b.c.Keys()
	for i := range one {
		one[i] = "z"
	}
	_ = append(one[:1], "y", "y", "y")
	_ = append(one, "y")
	if !slices.Equal(two, []string{"a", "b", "c", "d"}) {
		t.Errorf("another answer is %v", two)
	}
	b.look()
	b.mustLack("z")
	b.mustHave("a", 0)
	if !slices.Equal(two, []string{"a", "b", "c", "d"}) {
		t.Errorf("behind a Get an answer ahead of it is %v", two)
	}
	b.put("e", 4)
	b.drop("d")
	if !slices.Equal(two, []string{"a", "b", "c", "d"}) {
		t.Errorf("behind Put and Drop an answer ahead of them is %v", two)
	}
	b.mustKeys("cae")
}

// R3: keys and things that are arrays are kept as they were put, whatever becomes of what was handed in.
func TestKeysAreKeptAsTheyWere(t *testing.T) {
	c := New[[2]byte, [2]byte](2)
	k, v := [2]byte{1, 2}, [2]byte{3, 4}
	c.Put(k, v)
	k[0], v[0] = 9, 9
	if got, ok := c.Get([2]byte{1, 2}); !ok || got != [2]byte{3, 4} {
		t.Errorf("%v, %v", got, ok)
	}
	if _, ok := c.Get(k); ok {
		t.Error("a key that was never put is there")
	}
}

// step is one call, by its number: Get, Put or Drop of one of the keys.
func (b *both[K, V]) step(call int, keys []K, v V) {
	b.t.Helper()
	k := keys[call/3%len(keys)]
	switch call % 3 {
	case 0:
		b.get(k)
	case 1:
		b.put(k, v)
	case 2:
		b.drop(k)
	}
}

// 16.2 to 16.5: all rows of five calls with three keys, by caches of each size that matters.
func TestAllRows(t *testing.T) {
	keys := []string{"a", "b", "c"}
	for most := -1; most <= 4; most++ {
		for row := range 9 * 9 * 9 * 9 * 9 {
			b := newBoth[string](t, most, equal[int])
			for i := range 5 {
				b.step(row%9, keys, i+1)
				row /= 9
			}
		}
	}
}

// letters is so many keys.
func letters(n int) (keys []string) {
	for i := range n {
		keys = append(keys, fmt.Sprint("k", i))
	}
	return keys
}

// 16.2 to 16.5: long rows of calls like chance, with few keys and with many.
func TestLikeChance(t *testing.T) {
	chance := rand.New(rand.NewPCG(16, 1))
	for _, most := range []int{-7, 0, 1, 2, 3, 5, 8, 13, 64, math.MaxInt} {
		for _, n := range []int{1, 2, 4, 9, 14, 70} {
			b := newBoth[string](t, most, equal[int])
			keys := letters(n)
			for i := range 1500 {
				call := 3*chance.IntN(n) + []int{0, 0, 0, 1, 1, 1, 1, 2}[chance.IntN(8)]
				b.step(call, keys, i+1)
			}
		}
	}
}

// 16.5: there are never more than may be, none twice, and what is at hand is what was put last.
func TestNeverMore(t *testing.T) {
	chance := rand.New(rand.NewPCG(16, 2))
	for most := range 20 {
		c, last := New[int, int](most), map[int]int{}
		for i := range 3000 {
			k := chance.IntN(30)
			switch chance.IntN(5) {
			case 0:
				c.Drop(k)
				delete(last, k)
			case 1, 2:
				c.Put(k, i)
				last[k] = i
			default:
				v, ok := c.Get(k)
				if ok && v != last[k] || !ok && v != 0 {
					t.Fatalf("New(%d): Get of %d: %d, %v, put last: %d", most, k, v, ok, last[k])
				}
			}
			keys := c.Keys()
			if len(keys) > most {
				t.Fatalf("New(%d): %d keys", most, len(keys))
			}
			slices.Sort(keys)
			if len(slices.Compact(keys)) != len(c.Keys()) {
				t.Fatalf("New(%d): one key twice", most)
			}
		}
	}
}

// 16.5: a cache of more things has, behind the same calls, all that one of fewer has, with the same things.
func TestMoreHasAll(t *testing.T) {
	chance := rand.New(rand.NewPCG(16, 3))
	sizes := []int{-1, 0, 1, 2, 3, 4, 6, 9, 15, math.MaxInt}
	for range 30 {
		var l []*Cache[int, int]
		for _, most := range sizes {
			l = append(l, New[int, int](most))
		}
		keys, drops := 1+chance.IntN(20), 3+chance.IntN(30)
		for i := range 400 {
			k, call := chance.IntN(keys), chance.IntN(drops)
			hit := false
			for n, c := range l {
				switch {
				case call == 0:
					there := c.Drop(k)
					if hit && !there {
						t.Fatalf("Drop of %d: not there in a cache of %d", k, sizes[n])
					}
					hit = there
				case call%2 == 0:
					c.Put(k, i)
				default:
					_, there := c.Get(k)
					if hit && !there {
						t.Fatalf("Get of %d: not there in a cache of %d", k, sizes[n])
					}
					hit = there
				}
			}
			for n := range l[1:] {
				mustHaveAll(t, l[n], l[n+1])
			}
		}
	}
}

// mustHaveAll is of two caches of which the second must have all that the first has.
func mustHaveAll(t *testing.T, few, more *Cache[int, int]) {
	t.Helper()
	for _, k := range few.Keys() {
		if more.at[k] == nil || more.at[k].value != few.at[k].value {
			t.Fatalf("a cache of %d lacks %d, which one of %d has", more.most, k, few.most)
		}
	}
}

// P6: a cache that keeps less makes no answer another one: who asks, and puts what was not at hand, is told the same.
func TestWhatGoesChangesNoAnswer(t *testing.T) {
	for most := -1; most < 12; most++ {
		chance := rand.New(rand.NewPCG(16, 4))
		c := New[int, int](most)
		for range 2000 {
			k := chance.IntN(20)
			v, ok := c.Get(k)
			if !ok {
				v = k * k
				c.Put(k, v)
			}
			if v != k*k {
				t.Fatalf("New(%d): %d of %d", most, v, k)
			}
		}
		if hits, misses := c.Count(); hits+misses != 2000 {
			t.Errorf("New(%d): Count: %d, %d", most, hits, misses)
		}
	}
}

// tryTypes is rows of calls with keys and things of some type.
func tryTypes[K comparable, V any](t *testing.T, name string, keys []K, things []V, like func(a, b V) bool) {
	t.Run(name, func(t *testing.T) {
		chance := rand.New(rand.NewPCG(16, 5))
		for _, most := range []int{-1, 0, 1, 2, len(keys), math.MaxInt} {
			b := newBoth[K](t, most, like)
			for range 300 {
				b.step(chance.IntN(3*len(keys)), keys, things[chance.IntN(len(things))])
			}
		}
	})
}

// pair is a struct that is a key.
type pair struct {
	Name  string
	Epoch uint64
}

// Ways: keys and things of several types (generic-type).
func TestTypes(t *testing.T) {
	x, y := new(int), new(int)
	numbers := []int{0, 1, -1, 2}
	tryTypes(t, "digests and pages", []api.Digest{{}, {1}, {31: 1}, {0xff}}, [][]byte{nil, {}, {0}, {1, 2}}, bytes.Equal)
	tryTypes(t, "texts", []string{"", "a", "b", "a\x00", "\xff"}, []string{"", "x", "y"}, equal)
	tryTypes(t, "ints", []int{0, 1, -1, math.MinInt, math.MaxInt}, []float64{0, 1.5}, equal)
	tryTypes(t, "bytes", []uint8{0, 1, 255}, []bool{false, true}, equal)
	tryTypes(t, "bools", []bool{false, true}, []complex128{0, 1i}, equal)
	tryTypes(t, "numbers of api", []api.Errno{api.OK, api.ErrArg, api.ErrFork}, []error{nil, api.ErrArg}, equal)
	tryTypes(t, "structs", []pair{{}, {"a", 0}, {"a", 1}, {"b", 1}}, []pair{{}, {"x", 1}}, equal)
	tryTypes(t, "one key alone", []struct{}{{}}, numbers, equal)
	tryTypes(t, "pointers", []*int{nil, x, y}, []*int{nil, x, y}, equal)
	tryTypes(t, "channels", []chan int{nil, make(chan int), make(chan int)}, numbers, equal)
	tryTypes(t, "floats", []float64{0, 1, -1, math.Inf(1), math.SmallestNonzeroFloat64}, numbers, equal)
	tryTypes(t, "complex ones", []complex128{0, 1, 1i}, numbers, equal)
	tryTypes(t, "of any kind", []any{nil, 0, int64(0), "0", "", false, api.Digest{}, pair{}, x, 0.0}, []any{nil, 0, "x"}, equal)
	tryTypes(t, "errors", []error{nil, api.OK, api.ErrArg}, numbers, equal)
	tryTypes(t, "maps", numbers, []map[string]int{nil, {"a": 1}, {"a": 2}}, maps.Equal)
	tryTypes(t, "caches", numbers, []*Cache[int, int]{nil, New[int, int](1), New[int, int](1)}, equal)
	tryTypes(t, "functions", numbers, []func() int{nil, func() int { return 1 }}, func(f, g func() int) bool {
		return (f == nil) == (g == nil)
	})
}

// told is all that a cache answers to a row of calls like chance.
func told(seed uint64) string {
	var s strings.Builder
	chance := rand.New(rand.NewPCG(16, seed))
	c := New[string, int](7)
	for i := range 2000 {
		k := fmt.Sprint(chance.IntN(12))
		switch chance.IntN(4) {
		case 0:
			fmt.Fprintln(&s, c.Drop(k))
		case 1:
			v, ok := c.Get(k)
			fmt.Fprintln(&s, v, ok)
		default:
			c.Put(k, i)
		}
		hits, misses := c.Count()
		fmt.Fprintln(&s, c.Keys(), hits, misses)
	}
	return s.String()
}

// P7: the same calls are answered alike each time.
func TestAlike(t *testing.T) {
	first := told(6)
	for range 5 {
		if told(6) != first {
			t.Fatal("the same calls were answered otherwise")
		}
	}
}
