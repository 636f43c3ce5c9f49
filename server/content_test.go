package server

import (
	"fmt"
	"testing"

	"blazon/api"
	"blazon/codec"
	"blazon/disk"
	"blazon/record"
	"blazon/store"
	"blazon/tags"
)

// How a directory lies on its disk is the program's own: what stands here is there, so that disks that were written are read by what comes later.

// bound is a binding.
func bound(name, key string, serial uint64) api.Binding {
	return api.Binding{Name: name, Key: []byte(key), Serial: serial}
}

// texts is the text of an epoch with those bindings.
func texts(l ...api.Binding) string {
	var t [][]byte
	for _, b := range l {
		t = append(t, record.Binding(b))
	}
	return string(codec.Texts(t))
}

// storeOf is a store of a disk of noughts with those keys; pairs of a key and its text.
func storeOf(t *testing.T, pairs ...string) (*store.Store, *disk.Disk) {
	t.Helper()
	d, _ := disk.New(4096)
	s, e := store.Open(d)
	for i := 0; i < len(pairs) && e == api.OK; i += 2 {
		e = s.Apply([]api.Act{{Key: pairs[i], Set: true, Data: []byte(pairs[i+1])}})
	}
	if e != api.OK {
		t.Fatalf("a store: %d", e)
	}
	return s, d
}

// The keys of a store, byte by byte, and the directory that they are.
func TestContent(t *testing.T) {
	secret, seed := api.Digest{1}, api.Digest{2}
	mark := tags.Of([]byte("D" + string(secret[:]) + string(seed[:])))
	ann, bob, next := bound("ann", "k", 1), bound("bob", "l", 1), bound("ann", "m", 2)
	st, d := storeOf(t, "E\x01", "\x00", "E\x02", texts(ann, bob), "E\x03", texts(next), "E\x04", texts(), "F", "\x03", "S", string(mark[:]))
	s, e := Open(d, secret, seed)
	if e != api.OK {
		t.Fatalf("Open: %d", e)
	}
	want := "{[[] [{ann [107] 1} {bob [108] 1}] [{ann [109] 2} {bob [108] 1}] [{ann [109] 2} {bob [108] 1}]] [] 3}"
	if got := fmt.Sprint(s.Dir()); got != want {
		t.Errorf("%s, want %s", got, want)
	}
	if l := content(s.dir, mark); len(l) != st.Len() || len(news(st, l)) != 0 {
		t.Errorf("written as %v", l)
	}
	if l := content(api.Dir{From: 1, Queue: []api.Request{{}}}, mark); len(l) != 0 {
		t.Errorf("without an epoch: %v", l)
	}
}

// Keys that are all but right.
func TestContentAllButRight(t *testing.T) {
	secret, seed := api.Digest{1}, api.Digest{2}
	mark := markOf(secret, seed)
	ann, bob := bound("ann", "k", 1), bound("bob", "l", 1)
	rest := func(from string) []string { return []string{"F", from, "S", string(mark[:])} }
	var most []string
	for n := 1; n <= 64; n++ {
		most = append(most, "E"+string(rune(n)), "\x00")
	}
	var names, fewer []api.Binding
	for i := range 257 {
		names = append(names, bound(fmt.Sprintf("n%03d", i), "k", 1))
	}
	fewer = names[:256]
	for _, x := range []struct {
		name  string
		pairs []string
		e     api.Errno
	}{
		{"one", append(rest("\x01"), "E\x01", texts(ann, bob)), api.OK},
		{"From behind the last", append(rest("\x02"), "E\x01", texts(ann, bob)), api.ErrBad},
		{"From 0", append(rest("\x00"), "E\x01", texts(ann, bob)), api.ErrBad},
		{"From with more behind it", append(rest("\x01\x01"), "E\x01", texts(ann, bob)), api.ErrBad},
		{"From in another way", append(rest("\x81\x00"), "E\x01", texts(ann, bob)), api.ErrBad},
		{"no From", []string{"S", string(mark[:]), "E\x01", texts(ann, bob)}, api.ErrBad},
		{"no mark", []string{"F", "\x01", "E\x01", texts(ann, bob)}, api.ErrBad},
		{"another mark", []string{"F", "\x01", "S", string(secret[:]), "E\x01", texts(ann, bob)}, api.ErrBad},
		{"no epoch", rest("\x01"), api.ErrBad},
		{"no first epoch", append(rest("\x01"), "E\x02", texts(ann)), api.ErrBad},
		{"an epoch lacks", append(rest("\x01"), "E\x01", texts(ann), "E\x03", texts(bob)), api.ErrBad},
		{"an epoch 0", append(rest("\x01"), "E\x00", texts(), "E\x01", texts(ann)), api.ErrBad},
		{"names that fall", append(rest("\x01"), "E\x01", texts(bob, ann)), api.ErrBad},
		{"a name twice", append(rest("\x01"), "E\x01", texts(ann, ann)), api.ErrBad},
		{"a Serial 0", append(rest("\x01"), "E\x01", texts(bound("ann", "k", 0))), api.ErrBad},
		{"a name that is none", append(rest("\x01"), "E\x01", texts(bound("Ann", "k", 1))), api.ErrBad},
		{"a key that is none", append(rest("\x01"), "E\x01", texts(bound("ann", "", 1))), api.ErrBad},
		{"the same once more", append(rest("\x01"), "E\x01", texts(ann), "E\x02", texts(ann)), api.ErrBad},
		{"a key without a Serial of its own", append(rest("\x01"), "E\x01", texts(ann), "E\x02", texts(bound("ann", "x", 1))), api.ErrBad},
		{"one in which a key changes", append(rest("\x01"), "E\x01", texts(ann), "E\x02", texts(bound("ann", "x", 2))), api.OK},
		{"64 epochs", append(rest("\x40"), most...), api.OK},
		{"65 epochs", append(append(rest("\x40"), most...), "E\x41", "\x00"), api.ErrBad},
		{"256 names", append(rest("\x01"), "E\x01", texts(fewer...)), api.OK},
		{"257 names", append(rest("\x01"), "E\x01", texts(names...)), api.ErrBad},
		{"257 names in two epochs", append(rest("\x01"), "E\x01", texts(fewer...), "E\x02", texts(names[256])), api.ErrBad},
	} {
		_, d := storeOf(t, x.pairs...)
		if s, e := Open(d, secret, seed); e != x.e || (s != nil) != (e == api.OK) {
			t.Errorf("%s: %d, want %d", x.name, e, x.e)
		}
	}
}

// What is let go is not kept: of an epoch that is answered no more there is no tree.
func TestLetGo(t *testing.T) {
	d, _ := disk.New(64)
	s, e := Open(d, api.Digest{}, api.Digest{})
	for range 3 {
		if e == api.OK {
			_, e = s.Seal()
		}
	}
	if e != api.OK || s.Prune(2) != api.OK {
		t.Fatalf("Seal: %d", e)
	}
	for range 2 {
		for i, x := range s.epochs {
			if (x.tree == nil) != (i < 1) {
				t.Errorf("epoch %d: %v", i+1, x.tree)
			}
		}
		if s, e = Open(d, api.Digest{}, api.Digest{}); e != api.OK {
			t.Fatalf("Open: %d", e)
		}
	}
}
