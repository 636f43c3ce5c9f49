package cache

import (
	"math"
	"testing"
)

// withList is a struct that can't be compared with another one, if both have lists.
type withList struct {
	list any
}

// oddKeys is keys that are like none, not even themselves, or can't be compared at all.
func oddKeys() map[string]any {
	return map[string]any{
		"a float that is no number":      math.NaN(),
		"a complex one that is none":     complex(0, math.NaN()),
		"an array with one":              [2]float64{1, math.NaN()},
		"a struct with one":              struct{ a, b float64 }{1, math.NaN()},
		"a list":                         []int{1},
		"no list":                        []int(nil),
		"a map":                          map[string]int{"a": 1},
		"a function":                     func() {},
		"a struct with a list in it":     withList{[]byte("x")},
		"an array with lists in it":      [2]any{1, []byte("x")},
		"one with no number, and a list": [2]any{math.NaN(), []byte("x")},
		"one in another":                 withList{withList{[1]any{map[int]int{}}}},
	}
}

// mustHaveSo is of a cache that must have so many keys, of which so many are like themselves.
func mustHaveSo(t *testing.T, c *Cache[any, int], keys, like int) {
	t.Helper()
	if got := len(c.Keys()); got != keys {
		t.Errorf("%d keys, want %d", got, keys)
	}
	if len(c.at) != like || c.size != keys {
		t.Errorf("%d in the map, %d in the row, want %d, %d", len(c.at), c.size, like, keys)
	}
}

// P1, 16.5: with keys that are like none nothing panics, there are never more than may be, and they go as others do.
func TestOddKeys(t *testing.T) {
	for name, odd := range oddKeys() {
		t.Run(name, func(t *testing.T) {
			c := New[any, int](3)
			for range 2 {
				if v, ok := c.Get(odd); ok || v != 0 {
					t.Errorf("Get: %d, %v", v, ok)
				}
				if c.Drop(odd) {
					t.Error("Drop: true")
				}
			}
			c.Put("a", 1)
			for i := range 2 {
				c.Put(odd, 7)
				mustHaveSo(t, c, i+2, 1)
				if v, ok := c.Get(odd); ok || v != 0 {
					t.Errorf("Get behind Put: %d, %v", v, ok)
				}
				if c.Drop(odd) {
					t.Error("Drop behind Put: true")
				}
			}
			c.Put(odd, 7) // a goes
			mustHaveSo(t, c, 3, 0)
			if v, ok := c.Get("a"); ok || v != 0 {
				t.Errorf("a: %d, %v", v, ok)
			}
			for range 100 {
				c.Put(odd, 7)
			}
			mustHaveSo(t, c, 3, 0)
			c.Put("a", 1)
			c.Put("b", 2)
			mustHaveSo(t, c, 3, 2)
			c.Put("c", 3)
			mustHaveSo(t, c, 3, 3)
			if k := c.Keys(); k[0] != "a" || k[1] != "b" || k[2] != "c" {
				t.Errorf("Keys: %v", k)
			}
			if v, ok := c.Get("a"); !ok || v != 1 {
				t.Errorf("a: %d, %v", v, ok)
			}
			if hits, misses := c.Count(); hits != 1 || misses != 5 {
				t.Errorf("Count: %d, %d", hits, misses)
			}
		})
	}
}

// P1: into caches of none and of one, too.
func TestOddKeysInSmallCaches(t *testing.T) {
	for most := -1; most < 2; most++ {
		c := New[any, int](most)
		for _, odd := range oddKeys() {
			c.Put(odd, 1)
			c.Put(odd, 2)
			if _, ok := c.Get(odd); ok || c.Drop(odd) {
				t.Errorf("New(%d): it is there", most)
			}
			mustHaveSo(t, c, max(most, 0), 0)
		}
	}
}

// 16.5: floats that are no numbers are let go as others are, in whichever row they are put.
func TestNoNumbers(t *testing.T) {
	for most := range 6 {
		c := New[float64, int](most)
		for i := range 500 {
			k := float64(i % 4)
			if i%3 == 0 {
				k = math.NaN()
			}
			c.Put(k, i)
			if v, ok := c.Get(k); ok != (k == k && most > 0) || ok && v != i {
				t.Fatalf("New(%d): Get of %v: %d, %v", most, k, v, ok)
			}
			mustBeWhole(t, c)
		}
		if n := len(c.Keys()); n != most {
			t.Errorf("New(%d): %d keys", most, n)
		}
	}
}

// A nought below 0 is the same key as one that is not.
func TestTwoNoughts(t *testing.T) {
	c := New[float64, string](2)
	c.Put(0, "x")
	c.Put(math.Copysign(0, -1), "y")
	if v, ok := c.Get(0); !ok || v != "y" || len(c.Keys()) != 1 {
		t.Errorf("%q, %v, %v", v, ok, c.Keys())
	}
	if !c.Drop(math.Copysign(0, -1)) || len(c.Keys()) != 0 {
		t.Error("Drop")
	}
}

// P1: a Cache that New has not made is one of none.
func TestNotMadeByNew(t *testing.T) {
	var c Cache[string, int]
	c.Put("a", 1)
	if v, ok := c.Get("a"); ok || v != 0 {
		t.Errorf("Get: %d, %v", v, ok)
	}
	if c.Drop("a") || len(c.Keys()) != 0 {
		t.Error("it has something")
	}
	if hits, misses := c.Count(); hits != 0 || misses != 1 {
		t.Errorf("Count: %d, %d", hits, misses)
	}
}

// P1: with very many things each call still ends soon, whether they are let go or not.
func TestVeryMany(t *testing.T) {
	const n = 200000
	for _, most := range []int{n / 4, n, math.MaxInt} {
		stay := min(most, n)
		c := New[int, int](most)
		for i := range n {
			c.Put(i, -i)
		}
		for i := range n {
			if v, ok := c.Get(i); ok != (i >= n-stay) || ok && v != -i {
				t.Fatalf("New(%d): Get of %d: %d, %v", most, i, v, ok)
			}
		}
		if hits, misses := c.Count(); hits != stay || misses != n-stay {
			t.Errorf("New(%d): Count: %d, %d", most, hits, misses)
		}
		for i := n - 1; i >= 0; i-- {
			if c.Drop(i) != (i >= n-stay) {
				t.Fatalf("New(%d): Drop of %d", most, i)
			}
		}
		mustBeWhole(t, c)
		if len(c.Keys()) != 0 {
			t.Errorf("New(%d): %d keys are left", most, len(c.Keys()))
		}
	}
}
