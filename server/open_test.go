package server_test

import (
	"testing"

	"blazon/api"
	"blazon/disk"
	"blazon/journal"
	"blazon/server"
	"blazon/store"
)

// mustNotOpen is of a disk that must be refused: there is no server beside the error, and, if the power is there, nothing was changed.
func mustNotOpen(t *testing.T, name string, d *disk.Disk, secret, seed api.Digest, want api.Errno) {
	t.Helper()
	var was []byte
	waits := 0
	if d != nil {
		was, waits = d.Dump(), d.Pending()
	}
	if s, e := server.Open(d, secret, seed); e != want || s != nil {
		t.Fatalf("%s: Open: %d, want %d; a server: %v", name, e, want, s != nil)
	}
	if d != nil && want != api.ErrDown && (string(d.Dump()) != string(was) || d.Pending() != waits) {
		t.Fatalf("%s: Open has changed the disk", name)
	}
}

// newDisk is a disk of noughts.
func newDisk(t *testing.T, sectors int) *disk.Disk {
	t.Helper()
	d, e := disk.New(sectors)
	if e != api.OK {
		t.Fatalf("a disk of %d: %d", sectors, e)
	}
	return d
}

// 21.2: of a disk of noughts: model.New(), and so again.
func TestOpenNoughts(t *testing.T) {
	for _, n := range []int{8, 9, 10, 63, 2048, api.MaxSectors} {
		l := begin(t, n)
		for range 2 {
			mustBeWhole(t, "noughts", l.s, l.w)
			if d := l.s.Dir(); len(d.Epochs) != 0 || len(d.Queue) != 0 || d.From != 1 || l.s.Pages() != 0 || l.s.Len() != 0 {
				t.Errorf("%d sectors: %v, %d pages", n, d, l.s.Pages())
			}
			l.must(submit(t, register("ann", "k")), api.OK) // what waits is lost
			l.open()
		}
		if _, e := server.Open(l.d, seed, secret); e != api.OK {
			t.Errorf("%d sectors: nothing is there, but by other secrets: %d", n, e)
		}
	}
}

// 21.2: store.Open's errors.
func TestOpenErrors(t *testing.T) {
	mustNotOpen(t, "no disk", nil, secret, seed, api.ErrArg)
	mustNotOpen(t, "a disk that no call has made", new(disk.Disk), secret, seed, api.ErrArg)
	for n := 1; n < 8; n++ {
		mustNotOpen(t, "a small one", newDisk(t, n), secret, seed, api.ErrArg)
	}
	d := newDisk(t, 64)
	g, e := journal.Open(d)
	if e == api.OK {
		e = g.Append([]byte("no batch"))
	}
	if e != api.OK {
		t.Fatalf("a journal: %d", e)
	}
	mustNotOpen(t, "a record that is no batch", d, secret, seed, api.ErrCodec)
	if e := g.Append(store.Batch([]api.Act{{Key: "x", Set: true}})); e != api.OK {
		t.Fatalf("a journal: %d", e)
	}
	mustNotOpen(t, "a record that is no batch, and a key", d, secret, seed, api.ErrCodec)
}

// 21.2: the power may go at each change of Open of a disk of noughts: ErrDown, and behind it the server is the first one.
func TestOpenDown(t *testing.T) {
	met := 0
	for k := 0; ; k++ {
		d := newDisk(t, 16)
		d.Fuse(k)
		s, e := server.Open(d, secret, seed)
		if e == api.OK {
			break
		}
		if e != api.ErrDown || s != nil {
			t.Fatalf("the power goes at change %d: %d", k, e)
		}
		if _, want := store.Open(d); want != api.OK {
			mustNotOpen(t, "the power has gone", d, secret, seed, want)
		}
		d.Crash([]int{64, 3, 64, 64, 17})
		mustBeWhole(t, "opened again", mustOpen(t, "opened again", d), newTwin(secret, seed))
		met++
	}
	if met == 0 {
		t.Error("Open of noughts changes nothing: the test is no good")
	}
}

// lived is a server with a life behind it.
func lived(t *testing.T, sectors int) *life {
	t.Helper()
	l := begin(t, sectors)
	l.seals(register("ann", "k"), register("bob", "l"))
	l.seals(change(bound("ann", "k", 1), "m"))
	l.seals(register("cid", "k"))
	l.must(prune(2), api.OK)
	return l
}

// unclean has the power go within a Seal, so that a piece of what was written is there: a store that is opened then writes. It tells whether there is such a piece.
func unclean(t *testing.T, l *life, k, keep int) bool {
	t.Helper()
	was := l.d.Dump()
	l.must(submit(t, register("dan", "k")), api.OK)
	l.d.Fuse(k)
	if _, e := l.s.Seal(); e != api.ErrDown {
		t.Fatalf("the power goes at change %d: %d", k, e)
	}
	l.d.Crash([]int{keep})
	return string(l.d.Dump()) != string(was)
}

// others is secrets of others.
func others() [][2]api.Digest {
	near := secret
	near[31]++
	far := seed
	far[0]--
	return [][2]api.Digest{{near, seed}, {secret, far}, {near, far}, {seed, secret}, {secret, secret}, {seed, seed}, {{}, {}}, {{}, seed}, {secret, {}}}
}

// 21.2: what other secrets' servers have left is refused, and stays as it was: also where a store that is opened would write.
func TestOpenByOthers(t *testing.T) {
	l := begin(t, 2048)
	l.seals(register("ann", "k"))
	small := lived(t, 64)
	torn := lived(t, 64)
	if !unclean(t, torn, 1, 40) {
		t.Fatal("nothing is torn: the test is no good")
	}
	for _, x := range []*life{l, small, torn} {
		for _, o := range others() {
			mustNotOpen(t, "by other secrets", x.d, o[0], o[1], api.ErrBad)
		}
		x.open()
		mustBeWhole(t, "by the right ones", x.s, x.w)
		x.seals(register("eve", "k"))
		for _, o := range others() {
			mustNotOpen(t, "by other secrets, gone on", x.d, o[0], o[1], api.ErrBad)
		}
	}
}

// 21.2: where the power has gone, store.Open's error comes ahead of ErrBad.
func TestOpenByOthersDown(t *testing.T) {
	for _, torn := range []bool{false, true} {
		l := lived(t, 64)
		if torn && !unclean(t, l, 1, 40) {
			t.Fatal("nothing is torn: the test is no good")
		}
		l.d.Fuse(0)
		l.d.Sync()
		_, want := store.Open(l.d)
		if torn && want != api.ErrDown {
			t.Fatalf("store.Open: %d: the test is no good", want)
		}
		if want == api.OK {
			want = api.ErrBad
		}
		mustNotOpen(t, "the power has gone", l.d, seed, secret, want)
	}
}

// applied is a disk with keys that were set by others, beside what it had.
func applied(t *testing.T, d *disk.Disk, acts ...api.Act) *disk.Disk {
	t.Helper()
	d = clone(t, d)
	st, e := store.Open(d)
	if e == api.OK {
		e = st.Apply(acts)
	}
	if e != api.OK {
		t.Fatalf("others' batch: %d", e)
	}
	return d
}

// set is an act that sets a key.
func set(key, text string) api.Act {
	return api.Act{Key: key, Set: true, Data: []byte(text)}
}

// 21.2: what no server has left is refused: other keys, alone or beside a server's, and texts that no server writes.
func TestOpenAnythingElse(t *testing.T) {
	l := lived(t, 256)
	for _, d := range []*disk.Disk{newDisk(t, 256), l.d} {
		for _, a := range []api.Act{set("x", "y"), set("x", ""), set("\x00", ""), set("\xff", "x"), set("E", ""), set("E0", "\x00"), set("e\x01", "\x00")} {
			mustNotOpen(t, "a key", applied(t, d, a), secret, seed, api.ErrBad)
		}
		mustNotOpen(t, "two keys", applied(t, d, set("a", "b"), set("x", "y")), secret, seed, api.ErrBad)
	}
	for key, text := range l.s.All() {
		for _, other := range []string{"", string(text) + "\x00", string(text[:len(text)-1]), "\xff" + string(text), "\xff\xff\xff"} {
			mustNotOpen(t, "another text", applied(t, l.d, set(key, other)), secret, seed, api.ErrBad)
		}
		mustNotOpen(t, "a key alone", applied(t, newDisk(t, 256), set(key, string(text))), secret, seed, api.ErrBad)
	}
	gone := applied(t, newDisk(t, 256), set("x", "y"))
	if s := mustOpen(t, "all is gone", applied(t, gone, api.Act{Key: "x"})); !sameDir(s.Dir(), api.Dir{From: 1}) {
		t.Errorf("all is gone: %v", s.Dir())
	}
}

// P1: whatever is under a server's keys, Open ends, and does not panic.
func TestOpenMess(t *testing.T) {
	l := lived(t, 256)
	for key, text := range l.s.All() {
		for at := range text {
			for _, turn := range []byte{1, 2, 0x80, 0xff} {
				other := append([]byte(nil), text...)
				other[at] ^= turn
				if s, e := server.Open(applied(t, l.d, set(key, string(other))), secret, seed); (e == api.OK) != (s != nil) || e != api.OK && e != api.ErrBad {
					t.Fatalf("under %q %x: %d", key, other, e)
				}
			}
		}
		if s, e := server.Open(applied(t, l.d, api.Act{Key: key}), secret, seed); (e == api.OK) != (s != nil) || e != api.OK && e != api.ErrBad {
			t.Fatalf("without %q: %d", key, e)
		}
	}
}
