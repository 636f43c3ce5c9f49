package cache

import (
	"fmt"
	"slices"
	"testing"
)

// model is a cache by the chapter's words: all that is at hand, each with the turn at which it was asked for last.
type model[K comparable, V any] struct {
	most         int
	turn         int
	held         []held[K, V]
	hits, misses int
}

// held is one of a model's things.
type held[K comparable, V any] struct {
	key   K
	value V
	asked int
}

// where is the place of a key's thing, or -1.
func (m *model[K, V]) where(k K) int {
	return slices.IndexFunc(m.held, func(h held[K, V]) bool { return h.key == k })
}

// Get is 16.2, with what 16.4 counts.
func (m *model[K, V]) Get(k K) (V, bool) {
	m.turn++
	i := m.where(k)
	if i < 0 {
		m.misses++
		return *new(V), false
	}
	m.hits++
	m.held[i].asked = m.turn
	return m.held[i].value, true
}

// Put is 16.3.
func (m *model[K, V]) Put(k K, v V) {
	m.turn++
	h := held[K, V]{k, v, m.turn}
	if i := m.where(k); i < 0 {
		m.held = append(m.held, h)
	} else {
		m.held[i] = h
	}
	for len(m.held) > max(m.most, 0) {
		longest := 0
		for i, h := range m.held {
			if h.asked < m.held[longest].asked {
				longest = i
			}
		}
		m.held = slices.Delete(m.held, longest, longest+1)
	}
}

// Drop is 16.3.
func (m *model[K, V]) Drop(k K) bool {
	i := m.where(k)
	if i < 0 {
		return false
	}
	m.held = slices.Delete(m.held, i, i+1)
	return true
}

// Keys is 16.4.
func (m *model[K, V]) Keys() (keys []K) {
	byTurn := slices.Clone(m.held)
	slices.SortFunc(byTurn, func(a, b held[K, V]) int { return a.asked - b.asked })
	for _, h := range byTurn {
		keys = append(keys, h.key)
	}
	return keys
}

// both is a cache beside its model: each call is done to both, and what they tell must be alike.
type both[K comparable, V any] struct {
	t    *testing.T
	c    *Cache[K, V]
	m    *model[K, V]
	like func(a, b V) bool
	row  []string // the calls so far
}

// newBoth is a cache of so many things and its model, without any.
func newBoth[K comparable, V any](t *testing.T, most int, like func(a, b V) bool) *both[K, V] {
	b := &both[K, V]{t: t, c: New[K, V](most), m: &model[K, V]{most: most}, like: like}
	b.look()
	return b
}

// fail tells what is wrong behind the calls so far.
func (b *both[K, V]) fail(format string, args ...any) {
	b.t.Helper()
	b.t.Fatalf("New(%d) %v: %s", b.m.most, b.row[max(0, len(b.row)-20):], fmt.Sprintf(format, args...))
}

// get is Get of both.
func (b *both[K, V]) get(k K) bool {
	b.t.Helper()
	b.row = append(b.row, fmt.Sprintf("Get %v", k))
	want, there := b.m.Get(k)
	got, ok := b.c.Get(k)
	if ok != there || !b.like(got, want) {
		b.fail("%v, %v, want %v, %v", got, ok, want, there)
	}
	b.look()
	return ok
}

// put is Put of both.
func (b *both[K, V]) put(k K, v V) {
	b.t.Helper()
	b.row = append(b.row, fmt.Sprintf("Put %v", k))
	b.m.Put(k, v)
	b.c.Put(k, v)
	b.look()
}

// drop is Drop of both.
func (b *both[K, V]) drop(k K) bool {
	b.t.Helper()
	b.row = append(b.row, fmt.Sprintf("Drop %v", k))
	want := b.m.Drop(k)
	if got := b.c.Drop(k); got != want {
		b.fail("%v, want %v", got, want)
	}
	b.look()
	return want
}

// look is Keys and Count of both, told twice: neither changes what the other tells, nor what it tells itself.
func (b *both[K, V]) look() {
	b.t.Helper()
	want := b.m.Keys()
	for range 2 {
		if got := b.c.Keys(); !slices.Equal(got, want) {
			b.fail("Keys: %v, want %v", got, want)
		}
		if hits, misses := b.c.Count(); hits != b.m.hits || misses != b.m.misses {
			b.fail("Count: %d, %d, want %d, %d", hits, misses, b.m.hits, b.m.misses)
		}
	}
	mustBeWhole(b.t, b.c)
}

// mustBeWhole is of a cache whose row must be the same from both ends, with all that the map has, and no more than may be.
func mustBeWhole[K comparable, V any](t *testing.T, c *Cache[K, V]) {
	t.Helper()
	n, mapped := 0, 0
	var ahead *thing[K, V]
	for x := c.first; x != nil; ahead, x = x, x.behind {
		if x.ahead != ahead {
			t.Fatalf("the thing at %d has another one ahead of it", n)
		}
		if x.key == x.key {
			mapped++
			if c.at[x.key] != x {
				t.Fatalf("the map has another thing for that at %d", n)
			}
		}
		n++
	}
	if c.last != ahead || c.size != n || n > max(c.most, 0) {
		t.Fatalf("%d things, counted %d, may be %d", n, c.size, c.most)
	}
	if len(c.at) != mapped {
		t.Fatalf("the map has %d things, the row %d", len(c.at), mapped)
	}
}

// equal tells whether two things are the same.
func equal[V comparable](a, b V) bool {
	return a == b
}
