package store

import (
	"bytes"
	"fmt"
	"maps"
	"slices"
	"strings"
	"testing"

	"blazon/api"
	"blazon/disk"
	"blazon/journal"
)

// model is a store by the chapter's words: how many sectors its disk has, what its journal has, and its keys with texts.
type model struct {
	n       int
	gen     uint64
	records []string
	texts   map[string]string
}

// newModel is that of a disk of noughts that was opened.
func newModel(n int) *model {
	return &model{n: n, gen: 1, texts: map[string]string{}}
}

// clone is the same, by itself.
func (m *model) clone() *model {
	return &model{m.n, m.gen, slices.Clone(m.records), maps.Clone(m.texts)}
}

// fit tells whether records go into a half, each being one that may be.
func (m *model) fit(l ...string) bool {
	left := m.n/2 - 1
	for _, s := range l {
		if s == "" || len(s) > 1<<20 {
			return false
		}
		left -= (57 + len(s) + 63) / 64
	}
	return left >= 0
}

// do is what an act makes.
func (m *model) do(l []api.Act) {
	for _, a := range l {
		delete(m.texts, a.Key)
		if a.Set {
			m.texts[a.Key] = string(a.Data)
		}
	}
}

// whole is a batch of all keys, each set, rising.
func (m *model) whole() (l []api.Act) {
	for _, key := range slices.Sorted(maps.Keys(m.texts)) {
		l = append(l, put(key, m.texts[key]))
	}
	return l
}

// apply is 15.3.
func (m *model) apply(l []api.Act) api.Errno {
	if !mayBe(l) {
		return api.ErrArg
	}
	if len(l) == 0 {
		return api.OK
	}
	next := m.clone()
	next.do(l)
	next.records = append(next.records, string(batchByWords(l)))
	if !m.fit(next.records...) {
		next.gen, next.records = m.gen+1, nil
		if all := next.whole(); len(all) > 0 {
			next.records = []string{string(batchByWords(all))}
			if !mayBe(all) || !m.fit(next.records...) {
				return api.ErrDisk
			}
		}
	}
	*m = *next
	return api.OK
}

// mustLoad is a disk of bytes.
func mustLoad(t *testing.T, b []byte) *disk.Disk {
	t.Helper()
	d, e := disk.Load(b)
	if e != api.OK {
		t.Fatalf("Load of %d bytes: %v", len(b), e)
	}
	return d
}

// mustOpen is the store of a disk.
func mustOpen(t *testing.T, d *disk.Disk) *Store {
	t.Helper()
	s, e := Open(d)
	if e != api.OK || s == nil {
		t.Fatalf("Open: %v, %v", s, e)
	}
	return s
}

// mustNotOpen is of a disk that must be refused so, changing nothing of it.
func mustNotOpen(t *testing.T, name string, d *disk.Disk, want api.Errno) {
	t.Helper()
	was := d.Dump()
	for range 2 {
		if s, e := Open(d); s != nil || e != want {
			t.Errorf("Open of %s: %v, %v, want %v", name, s, e, want)
		}
	}
	if d.Pending() != 0 || !bytes.Equal(d.Dump(), was) {
		t.Errorf("Open of %s: there is a change", name)
	}
}

// openNew is a disk of n sectors of noughts, its store, and what the chapter's words tell of it.
func openNew(t *testing.T, n int) (*disk.Disk, *Store, *model) {
	t.Helper()
	d := mustLoad(t, make([]byte, 64*n))
	return d, mustOpen(t, d), newModel(n)
}

// half is Head and records, one behind the other, as half a disk begins with them.
func half(gen uint64, l ...string) []byte {
	b := journal.Head(gen)
	for seq, s := range l {
		b = append(b, journal.Record(gen, uint64(seq), []byte(s))...)
	}
	return b
}

// layout is a disk of n sectors, both halves of which begin with those bytes, noughts behind them.
func layout(n int, first, second []byte) []byte {
	b := make([]byte, 64*n)
	if size := 64 * (n / 2); len(first) > size || len(second) > size {
		panic("there is no room for it")
	}
	copy(b, first)
	copy(b[64*(n/2):], second)
	return b
}

// batches is the records of several batches.
func batches(l ...[]api.Act) (r []string) {
	for _, b := range l {
		r = append(r, string(batchByWords(b)))
	}
	return r
}

// listed is all keys with their texts, as All tells them, each a row.
func listed(s *Store) (l []string) {
	for key, text := range s.All() {
		l = append(l, fmt.Sprintf("%q %q", key, text))
	}
	return l
}

// listed is the same by the chapter's words.
func (m *model) listed() (l []string) {
	for _, a := range m.whole() {
		l = append(l, fmt.Sprintf("%q %q", a.Key, a.Data))
	}
	return l
}

// mustTell is of a store that must tell those keys with those texts, and again.
func mustTell(t *testing.T, s *Store, m *model) {
	t.Helper()
	for range 2 {
		if got := s.Len(); got != len(m.texts) {
			t.Errorf("Len: %d, want %d", got, len(m.texts))
		}
		if got, want := listed(s), m.listed(); !slices.Equal(got, want) {
			t.Errorf("All: %d keys %.100s, want %d keys %.100s", len(got), got, len(want), want)
		}
		for key, want := range m.texts {
			mustGet(t, s, key, want)
		}
		for _, key := range []string{"", "never", "a\x00", long(64), long(65), long(1000)} {
			if _, ok := m.texts[key]; !ok {
				mustNotGet(t, s, key)
			}
		}
	}
}

// mustHave is of a store that must tell what the words tell, all of it being safe on its disk, and being told by one that is opened again.
func mustHave(t *testing.T, s *Store, d *disk.Disk, m *model) {
	t.Helper()
	was := d.Dump()
	mustTell(t, s, m)
	if d.Pending() != 0 || !bytes.Equal(d.Dump(), was) {
		t.Errorf("%d writes wait, or what is told has changed the disk", d.Pending())
	}
	mustRecord(t, d, m)
	other := mustLoad(t, was)
	mustTell(t, mustOpen(t, other), m)
	if !bytes.Equal(other.Dump(), was) {
		t.Error("opened again the disk is another one")
	}
}

// mustRecord is of a disk whose journal must have what the words tell.
func mustRecord(t *testing.T, d *disk.Disk, m *model) {
	t.Helper()
	gen, l, e := journal.Read(d.Dump())
	var got []string
	for _, b := range l {
		got = append(got, string(b))
	}
	if e != api.OK || gen != m.gen || !slices.Equal(got, m.records) {
		t.Errorf("the journal: generation %d, %d records %.60q, %v; want %d, %d records %.60q", gen, len(got), got, e, m.gen, len(m.records), m.records)
	}
}

// mustGet is of a key that must have a text.
func mustGet(t *testing.T, s *Store, key, want string) {
	t.Helper()
	if got, ok := s.Get(key); !ok || string(got) != want {
		t.Errorf("Get(%.70q): %d bytes %.20q, %v, want %d bytes %.20q", key, len(got), got, ok, len(want), want)
	}
}

// mustNotGet is of a key that must not be there.
func mustNotGet(t *testing.T, s *Store, key string) {
	t.Helper()
	if got, ok := s.Get(key); ok || len(got) != 0 {
		t.Errorf("Get(%.70q): %d bytes %.20q, %v", key, len(got), got, ok)
	}
}

// mustApply is of a batch that must be answered so, by the words, too; it stays as it was, and then there is what the words tell. An error has changed nothing, nor been seen by the disk's fuse.
func mustApply(t *testing.T, s *Store, d *disk.Disk, m *model, want api.Errno, l ...api.Act) {
	t.Helper()
	given, was := own(l), d.Dump()
	if want != api.OK {
		d.Fuse(0)
	}
	if got, words := s.Apply(l), m.apply(l); got != want || words != want {
		t.Errorf("Apply of %s: %v, want %v, by the words %v", brief(l), got, want, words)
	}
	if want != api.OK {
		if d.Sync() != api.ErrDown || d.Pending() != 0 || !bytes.Equal(d.Dump(), was) {
			t.Error("an error has made a change")
		}
		d.Crash(nil)
	}
	if !same(l, given) {
		t.Error("Apply: what was handed in is another thing")
	}
	mustHave(t, s, d, m)
}

// mustAnswer is of a call that must be answered so.
func mustAnswer(t *testing.T, name string, got, want api.Errno) {
	t.Helper()
	if got != want {
		t.Errorf("%s: %v, want %v", name, got, want)
	}
}

// down is a disk of those bytes whose power has gone.
func down(t *testing.T, b []byte) *disk.Disk {
	t.Helper()
	d := mustLoad(t, b)
	d.Fuse(0)
	mustAnswer(t, "Sync", d.Sync(), api.ErrDown)
	return d
}

// The chapter's example.
func TestExample(t *testing.T) {
	d := mustLoad(t, make([]byte, 16*64))
	s := mustOpen(t, d)
	l := acts(put("a", "x"), gone("b"))
	mustAnswer(t, "Apply", s.Apply(l), api.OK)
	if b, ok := s.Get("a"); s.Len() != 1 || !ok || string(b) != "x" {
		t.Errorf("Len %d, Get of a: %q, %v", s.Len(), b, ok)
	}
	if b := Batch(l); string(b) != "\x02\x01a\x01\x01x\x01b\x00" {
		t.Errorf("Batch: %x", b)
	}
	if gen, r, e := journal.Read(d.Dump()); gen != 1 || e != api.OK || len(r) != 1 || string(r[0]) != "\x02\x01a\x01\x01x\x01b\x00" {
		t.Errorf("the journal: %d, %q, %v", gen, r, e)
	}
}

// 15.3: nil and disks of fewer than 8 sectors are refused, and nothing is written to them.
func TestOpenRefused(t *testing.T) {
	if s, e := Open(nil); s != nil || e != api.ErrArg {
		t.Errorf("Open(nil): %v, %v", s, e)
	}
	if s, e := Open(&disk.Disk{}); s != nil || e != api.ErrArg {
		t.Errorf("Open of a disk without sectors: %v, %v", s, e)
	}
	for n := 1; n < 8; n++ {
		mustNotOpen(t, "few sectors", mustLoad(t, make([]byte, 64*n)), api.ErrArg)
		mustNotOpen(t, "few sectors, the power having gone", down(t, make([]byte, 64*n)), api.ErrArg)
		b := make([]byte, 64*n)
		copy(b, half(1, batches(acts(put("a", "x")))...))
		mustNotOpen(t, "few sectors with a batch", mustLoad(t, b), api.ErrArg)
		copy(b, half(1, "no"))
		mustNotOpen(t, "few sectors with no batch", mustLoad(t, b), api.ErrArg)
	}
}

// 15.3: of noughts there is a store without keys, and its disk is that of the journal.
func TestOpenNew(t *testing.T) {
	for _, n := range []int{8, 9, 16, 17, 16384} {
		d, s, m := openNew(t, n)
		mustHave(t, s, d, m)
		if !bytes.Equal(d.Dump(), layout(n, half(1), nil)) {
			t.Errorf("%d sectors: another dump", n)
		}
	}
}

// 15.3: what all batches make, one behind the other, in each half, whatever the other one has; nothing is written.
func TestOpenBatches(t *testing.T) {
	for _, c := range []struct {
		l    [][]api.Act
		want []api.Act
	}{
		{nil, nil},
		{[][]api.Act{nil}, nil},
		{[][]api.Act{nil, nil, nil}, nil},
		{[][]api.Act{acts(put("a", "x"))}, acts(put("a", "x"))},
		{[][]api.Act{acts(gone("a"))}, nil},
		{[][]api.Act{acts(put("a", "x")), acts(put("b", "y"))}, acts(put("a", "x"), put("b", "y"))},
		{[][]api.Act{acts(put("b", "x")), acts(put("a", "y"))}, acts(put("a", "y"), put("b", "x"))},
		{[][]api.Act{acts(put("a", "x")), acts(put("a", "y"))}, acts(put("a", "y"))},
		{[][]api.Act{acts(put("a", "x")), acts(put("a", ""))}, acts(put("a", ""))},
		{[][]api.Act{acts(put("a", "x")), acts(gone("a"))}, nil},
		{[][]api.Act{acts(gone("a")), acts(put("a", "x"))}, acts(put("a", "x"))},
		{[][]api.Act{acts(put("a", "x")), acts(gone("a")), acts(put("a", "y"))}, acts(put("a", "y"))},
		{[][]api.Act{acts(put("a", "x"), put("b", "x")), nil, acts(gone("a"), put("c", "z"))}, acts(put("b", "x"), put("c", "z"))},
		{[][]api.Act{nil, acts(put("a", "x"), put("aa", "y")), acts(gone("aa"), gone("b"))}, acts(put("a", "x"))},
	} {
		for _, n := range []int{16, 17} {
			r := batches(c.l...)
			m := &model{n: n, gen: 7, records: r, texts: map[string]string{}}
			m.do(c.want)
			for i, b := range [][]byte{layout(n, half(7, r...), nil), layout(n, nil, half(7, r...)), layout(n, half(7, r...), half(6, "no")), layout(n, half(6, "no"), half(7, r...))} {
				d := mustLoad(t, b)
				d.Fuse(0)
				s := mustOpen(t, d)
				mustHave(t, s, d, m)
				if !bytes.Equal(d.Dump(), b) || d.Sync() != api.ErrDown {
					t.Errorf("%q, case %d: there is a change", r, i)
				}
			}
		}
	}
}

// notBatches is records that are no batches.
func notBatches() []string {
	good := string(batchByWords(acts(put("a", "x"), gone("b"))))
	l := []string{"x", "no batch", "\x01", "\x00\x00", "\x80\x00", good + "\x00", good[:len(good)-1], good[1:], "\x01\x01a\x02", "\x01\x01a\x02\x01x", "\x81\x00\x01a\x00"}
	return append(l, batches(acts(gone("b"), gone("a")), acts(gone("a"), gone("a")), acts(gone("")), acts(gone(long(65))), many(4097, ""))...)
}

// 15.3: a record that is no batch, ahead of such as are, between them, behind them, or alone: nothing is opened, and nothing changed.
func TestOpenNoBatch(t *testing.T) {
	a, b := string(batchByWords(acts(put("a", "x")))), string(batchByWords(nil))
	for _, bad := range notBatches() {
		n := 64 + len(bad)/16
		for _, l := range [][]string{{bad}, {bad, a}, {a, bad}, {a, bad, b}, {bad, a, b}, {b, a, bad}, {bad, bad}} {
			for i, image := range [][]byte{layout(n, half(3, l...), nil), layout(n, half(2, a), half(3, l...))} {
				name := fmt.Sprintf("%.60q, case %d", l, i)
				d := mustLoad(t, image)
				d.Fuse(0)
				mustNotOpen(t, name, d, api.ErrCodec)
				mustAnswer(t, name+": the disk's next change", d.Sync(), api.ErrDown)
				mustNotOpen(t, name+", the power having gone", d, api.ErrCodec)
			}
			// In the half that does not count it is nothing.
			mustTell(t, mustOpen(t, mustLoad(t, layout(n, half(2, l...), half(3, b)))), newModel(n))
		}
	}
}

// 15.3: where the journal would be begun anew as it is opened, it is so with batches alone: an error changes nothing.
func TestOpenBytesBehind(t *testing.T) {
	good, bad := batches(acts(put("a", "x")), acts(put("b", "y"), put("c", long(90)))), []string{"no batch"}
	for _, l := range [][]string{nil, good} {
		m := newModel(32)
		m.gen, m.records = 5, l
		if l != nil {
			m.do(acts(put("a", "x"), put("b", "y"), put("c", long(90))))
		}
		for _, image := range [][]byte{layout(32, append(half(4, l...), 1), half(3, "z")), layout(32, nil, append(half(4, l...), 0, 0, 1))} {
			d := mustLoad(t, image)
			mustHave(t, mustOpen(t, d), d, m)
			mustNotOpen(t, "bytes behind, the power having gone", down(t, image), api.ErrDown)
		}
	}
	for _, l := range [][]string{bad, append(slices.Clip(good), bad...), append(slices.Clip(bad), good...)} {
		image := layout(32, append(half(4, l...), 1), half(3, good...))
		d := mustLoad(t, image)
		d.Fuse(0)
		mustNotOpen(t, "no batch, and bytes behind", d, api.ErrCodec)
		mustAnswer(t, "the disk's next change", d.Sync(), api.ErrDown)
		mustNotOpen(t, "no batch, and bytes behind, the power having gone", down(t, image), api.ErrDown) // journal.Open's error is named first
	}
}

// 15.3: while the power has gone: what is there is told, nothing is done.
func TestOpenWhileDown(t *testing.T) {
	mustNotOpen(t, "noughts", down(t, make([]byte, 8*64)), api.ErrDown)
	mustNotOpen(t, "bytes that are nothing", down(t, bytes.Repeat([]byte{0xa5}, 9*64)), api.ErrDown)
	m := newModel(8)
	mustAnswer(t, "by the words", m.apply(acts(put("a", "x"))), api.OK)
	d := down(t, layout(8, half(1, m.records...), nil))
	s := mustOpen(t, d)
	for range 2 {
		mustAnswer(t, "Apply", s.Apply(acts(put("b", "y"))), api.ErrDown)
		mustAnswer(t, "Apply of no acts", s.Apply(nil), api.OK)
		mustAnswer(t, "Apply of what may not be", s.Apply(acts(gone(""))), api.ErrArg)
		mustHave(t, s, d, m)
	}
}

// 15.3: where the power goes at each change of an Open that has to write, that is told alone; there are the same keys behind it.
func TestOpenDownAtEach(t *testing.T) {
	m := newModel(16)
	m.records = batches(acts(put("a", "x"), put("b", long(70))))
	m.do(acts(put("a", "x"), put("b", long(70))))
	for _, c := range []struct {
		image   []byte
		m       *model
		changes int
	}{
		{make([]byte, 8*64), newModel(8), 4 + 1 + 0 + 1 + 1 + 1},
		{layout(16, append(half(1, m.records...), 1), nil), m, 8 + 1 + 3 + 1 + 1 + 1},
	} {
		for k := range c.changes {
			d := mustLoad(t, c.image)
			d.Fuse(k)
			if s, e := Open(d); s != nil || e != api.ErrDown {
				t.Errorf("power goes at change %d: %v, %v", k, s, e)
			}
			d.Crash([]int{64, 30, 0, 64})
			mustTell(t, mustOpen(t, d), c.m)
		}
		d := mustLoad(t, c.image)
		d.Fuse(c.changes)
		mustTell(t, mustOpen(t, d), c.m)
	}
}

// 15.3: no acts are done without a change, also where the journal is full.
func TestApplyNone(t *testing.T) {
	d, s, m := openNew(t, 8)
	for _, l := range [][]api.Act{nil, {}, acts(put("a", "x"))[:0]} {
		mustApply(t, s, d, m, api.OK, l...)
	}
	mustApply(t, s, d, m, api.OK, put("a", long(129)))
	for range 5 {
		d.Fuse(0)
		mustAnswer(t, "Apply of nil", s.Apply(nil), api.OK)
		mustAnswer(t, "Apply of no acts", s.Apply([]api.Act{}), api.OK)
		mustAnswer(t, "Sync", d.Sync(), api.ErrDown)
		d.Crash(nil)
		mustHave(t, s, d, m)
	}
}

// 15.3: batches are appended as they are, each as one record, whether or not they change anything.
func TestApply(t *testing.T) {
	d, s, m := openNew(t, 400)
	for i, l := range [][]api.Act{
		acts(put("a", "x")), acts(put("a", "x")), acts(put("a", "y")), acts(put("a", "")), acts(put("b", "z")),
		acts(gone("a")), acts(gone("a")), acts(gone("never")), acts(put("a", "again")), acts(gone("a"), put("b", ""), gone("c"), put("d", "\x00")),
		acts(put("\x00", "1"), put("\xff", "2")), acts(put(long(64), long(300))), acts(put("e", "1"), put("ee", "2"), gone("eee")), acts(gone("e")), acts(gone("ee")), many(100, "m"), taken(many(100, "m")),
	} {
		mustApply(t, s, d, m, api.OK, l...)
		if m.gen != 1 || len(m.records) != i+1 {
			t.Fatalf("generation %d, %d records", m.gen, len(m.records))
		}
	}
}

// 15.3: what Check refuses is refused ahead of all else, and nothing stays of it, not even of the acts ahead of the bad one.
func TestApplyRefused(t *testing.T) {
	for _, ahead := range [][]api.Act{nil, acts(put("a", "x")), acts(put("a", long(129)))} { // the last one leaves no room
		d, s, m := openNew(t, 8)
		mustApply(t, s, d, m, api.OK, ahead...)
		for _, c := range thoseThatMayNot() {
			mustApply(t, s, d, m, api.ErrArg, c.l...)
			if t.Failed() {
				t.Fatal(c.name)
			}
		}
		mustApply(t, s, d, m, api.ErrArg, put("0", "new"), put("1", "new"), gone("a"), gone("a"))
		mustApply(t, s, d, m, api.ErrArg, put("b", long(1<<20)), gone("a"))
	}
}

// 15.3: one that just fits the journal is appended to it; a byte more does not fit, nor do all keys then.
func TestApplyJustFits(t *testing.T) {
	d, s, m := openNew(t, 8)
	mustApply(t, s, d, m, api.ErrDisk, put("a", long(130)))
	mustApply(t, s, d, m, api.OK, put("a", long(129))) // 135 bytes
	if m.gen != 1 || len(m.records) != 1 || len(m.records[0]) != 135 {
		t.Errorf("generation %d, %d records", m.gen, len(m.records))
	}
	d, s, m = openNew(t, 8)
	mustApply(t, s, d, m, api.OK, put("a", "x"))
	mustApply(t, s, d, m, api.OK, put("b", long(66))) // 71 bytes: two sectors
	if m.gen != 1 || len(m.records) != 2 || len(m.records[1]) != 71 {
		t.Errorf("generation %d, %d records", m.gen, len(m.records))
	}
	d, s, m = openNew(t, 8)
	mustApply(t, s, d, m, api.OK, put("a", "x"))
	mustApply(t, s, d, m, api.OK, put("b", long(67))) // 72 bytes: one sector too many
	if m.gen != 2 || len(m.records) != 1 {
		t.Errorf("generation %d, %d records", m.gen, len(m.records))
	}
}

// 15.3: if it does not fit, the journal is begun anew with one record, Batch of all keys, each set, rising.
func TestApplyAnew(t *testing.T) {
	d, s, m := openNew(t, 10)
	for range 4 {
		mustApply(t, s, d, m, api.OK, put("b", "y"))
	}
	mustApply(t, s, d, m, api.OK, put("a", "x"), gone("never"))
	if gen, r, _ := journal.Read(d.Dump()); gen != 2 || len(r) != 1 || string(r[0]) != "\x02\x01a\x01\x01x\x01b\x01\x01y" {
		t.Errorf("the journal: %d, %q", gen, r)
	}
	mustApply(t, s, d, m, api.OK, put("c", "z"))
	mustApply(t, s, d, m, api.OK, gone("b"))
	mustApply(t, s, d, m, api.OK, gone("a"))
	if gen, r, _ := journal.Read(d.Dump()); gen != 3 || len(r) != 1 || string(r[0]) != "\x01\x01c\x01\x01z" {
		t.Errorf("the journal: %d, %q", gen, r)
	}
	if !bytes.HasPrefix(d.Dump(), half(3, "\x01\x01c\x01\x01z")) {
		t.Error("it is not in the first half")
	}
	// Also where the keys are set just as they were.
	for range 10 {
		mustApply(t, s, d, m, api.OK, put("c", "z"))
	}
	if m.gen < 4 {
		t.Errorf("generation %d", m.gen)
	}
}

// 15.3: begun anew where no key is left, without any record.
func TestApplyAnewWithNone(t *testing.T) {
	d, s, m := openNew(t, 8)
	mustApply(t, s, d, m, api.OK, put("a", long(129)))
	mustApply(t, s, d, m, api.OK, gone("a"))
	if gen, r, e := journal.Read(d.Dump()); gen != 2 || len(r) != 0 || e != api.OK {
		t.Errorf("the journal: %d, %q, %v", gen, r, e)
	}
	for range 3 {
		mustApply(t, s, d, m, api.OK, gone("a"))
	}
	if m.gen != 2 || len(m.records) != 3 {
		t.Errorf("generation %d, %d records", m.gen, len(m.records))
	}
	mustApply(t, s, d, m, api.OK, gone("a"))
	if gen, r, e := journal.Read(d.Dump()); gen != 3 || len(r) != 0 || e != api.OK {
		t.Errorf("the journal: %d, %q, %v", gen, r, e)
	}
	mustApply(t, s, d, m, api.OK, put("a", long(129)))
	mustApply(t, s, d, m, api.OK, gone("a"), gone("b"), gone("c"))
	if m.gen != 4 || len(m.records) != 0 {
		t.Errorf("generation %d, %d records", m.gen, len(m.records))
	}
	// The batch itself is too long for any journal of this disk; what it leaves is not.
	mustApply(t, s, d, m, api.OK, taken(many(100, ""))...)
	if m.gen != 5 || len(m.records) != 0 {
		t.Errorf("generation %d, %d records", m.gen, len(m.records))
	}
	mustApply(t, s, d, m, api.OK, append(taken(many(100, "")), put("x", "left"))...)
	mustGet(t, s, "x", "left")
}

// filling is how long b's text is for a batch with it, behind others, to have so many bytes.
func filling(t *testing.T, most int, ahead ...api.Act) int {
	t.Helper()
	for size := range most {
		if len(batchByWords(append(slices.Clip(ahead), put("b", long(size))))) == most {
			return size
		}
	}
	t.Fatalf("no batch has %d bytes", most)
	return 0
}

// 15.3: where all keys as they are then just fit, and where they have a byte too many: nothing is changed, and it goes on.
func TestApplyAnewJustFits(t *testing.T) {
	for _, n := range []int{8, 9, 16, 17} {
		most := 64*(n/2-1) - 57
		d, s, m := openNew(t, n)
		mustApply(t, s, d, m, api.OK, put("a", "x"))
		size := filling(t, most, put("a", "x"))
		mustApply(t, s, d, m, api.ErrDisk, put("b", long(size+1)))
		mustApply(t, s, d, m, api.OK, put("b", long(size)))
		if m.gen != 2 || len(m.records) != 1 || len(m.records[0]) != most {
			t.Errorf("%d sectors: generation %d, %d records", n, m.gen, len(m.records))
		}
		mustApply(t, s, d, m, api.ErrDisk, put("c", ""))
		mustApply(t, s, d, m, api.ErrDisk, put("a", "xx"))
		mustApply(t, s, d, m, api.ErrDisk, put("b", long(size+1)))
		if size > 128 { // else how long it is takes a byte more, too
			mustApply(t, s, d, m, api.OK, put("a", ""), put("b", long(size+1)))
		}
		mustApply(t, s, d, m, api.OK, put("a", "y"), put("b", long(size)))
		alone := filling(t, most)
		mustApply(t, s, d, m, api.ErrDisk, gone("a"), put("b", long(alone+1)))
		mustApply(t, s, d, m, api.OK, gone("a"), put("b", long(alone))) // not as long as the batch itself
		mustApply(t, s, d, m, api.OK, gone("b"))
	}
}

// 15.3: what is longer than a record may be does not fit, either, be it the batch or all keys.
func TestApplyTooLong(t *testing.T) {
	for _, n := range []int{8, 16384} {
		d, s, m := openNew(t, n)
		mustApply(t, s, d, m, api.OK, put("z", "kept"))
		most := 64*(n/2-1) - 57
		for _, size := range []int{most, 1<<20 - 8, 1<<20 - 7, 1<<20 - 6, 1 << 20} { // the batch has 7 bytes more
			mustApply(t, s, d, m, api.ErrDisk, put("a", long(size)))
			mustApply(t, s, d, m, api.ErrDisk, put("a", long(size)), gone("z"))
		}
		mustApply(t, s, d, m, api.ErrDisk, put("a", long(1<<20)), put("b", long(1<<20)))
	}
	text := []byte(long(1 << 20))
	l := many(4096, "")
	for i := range l {
		l[i].Data = text // 2^32 bytes to be written
	}
	_, s, m := openNew(t, 16)
	mustAnswer(t, "Apply of 2^32 bytes", s.Apply(l), api.ErrDisk)
	mustTell(t, s, m)
}

// 15.3: more than 4096 keys can be, but not in one batch: the journal is not begun anew until there are fewer.
func TestApplyTooMany(t *testing.T) {
	d, s, m := openNew(t, 16384)
	apply := func(want api.Errno, l ...api.Act) { // not telling all keys each time
		t.Helper()
		if got, words := s.Apply(l), m.apply(l); got != want || words != want {
			t.Fatalf("Apply of %d acts: %v, want %v, by the words %v", len(l), got, want, words)
		}
		mustRecord(t, d, m)
	}
	apply(api.OK, many(4096, "x")...)
	apply(api.OK, put("y", "the one too many"))
	text := long(40000)
	for m.fit(append(slices.Clip(m.records), string(batchByWords(acts(put("f", text)))))...) {
		apply(api.OK, put("f", text))
	}
	if m.gen != 1 || len(m.texts) != 4098 {
		t.Fatalf("generation %d, %d keys", m.gen, len(m.texts))
	}
	mustHave(t, s, d, m)
	was := d.Dump()
	apply(api.ErrDisk, put("f", text))
	apply(api.ErrDisk, put("f", text), gone("y")) // 4097 are left
	mustHave(t, s, d, m)
	if !bytes.Equal(d.Dump(), was) {
		t.Error("an error has made a change")
	}
	apply(api.OK, gone("00000"), put("f", text), gone("y"))
	if m.gen != 2 || len(m.texts) != 4096 || len(m.records) != 1 {
		t.Errorf("generation %d, %d keys, %d records", m.gen, len(m.texts), len(m.records))
	}
	mustHave(t, s, d, m)
	apply(api.OK, put("y", "once more"))
	mustHave(t, s, d, m)
}

// byJournal is how many changes a call makes to a disk of those bytes, and what it leaves.
func byJournal(t *testing.T, image []byte, call func(g *journal.Log) api.Errno) (changes int, left []byte) {
	t.Helper()
	for ; ; changes++ {
		d := mustLoad(t, image)
		g, e := journal.Open(d)
		mustAnswer(t, "journal.Open", e, api.OK)
		d.Fuse(changes)
		if e := call(g); e == api.OK {
			return changes, d.Dump()
		}
	}
}

// 15.3: a batch is one Append, or one Restart, and no change beside it; where the power goes at each of them ErrDown is told, and the store tells what it told.
func TestApplyChanges(t *testing.T) {
	m := newModel(8)
	for range 3 {
		mustAnswer(t, "by the words", m.apply(acts(put("a", "x"))), api.OK)
	}
	full, free := layout(8, half(1, m.records...), nil), layout(8, half(1, m.records[:1]...), nil)
	appended := func(l ...api.Act) func(g *journal.Log) api.Errno {
		return func(g *journal.Log) api.Errno { return g.Append(batchByWords(l)) }
	}
	restarted := func(l ...string) func(g *journal.Log) api.Errno {
		var b [][]byte
		for _, s := range l {
			b = append(b, []byte(s))
		}
		return func(g *journal.Log) api.Errno { return g.Restart(b) }
	}
	for _, c := range []struct {
		image []byte
		l     []api.Act
		call  func(g *journal.Log) api.Errno
		want  int
	}{
		{free, acts(put("b", "y")), appended(put("b", "y")), 1 + 1},
		{free, acts(gone("c")), appended(gone("c")), 1 + 1},
		{free, acts(put("b", long(60))), appended(put("b", long(60))), 2 + 1},
		{full, acts(put("b", "y")), restarted(batches(acts(put("a", "x"), put("b", "y")))...), 4 + 1 + 2 + 1 + 1 + 1},
		{full, acts(put("b", long(100))), restarted(batches(acts(put("a", "x"), put("b", long(100))))...), 4 + 1 + 3 + 1 + 1 + 1},
		{full, acts(put("a", "y")), restarted(batches(acts(put("a", "y")))...), 4 + 1 + 1 + 1 + 1 + 1},
		{full, acts(gone("a")), restarted(), 4 + 1 + 0 + 1 + 1 + 1},
	} {
		changes, left := byJournal(t, c.image, c.call)
		if changes != c.want {
			t.Errorf("the journal makes %d changes, want %d", changes, c.want)
		}
		for k := range changes + 1 {
			d := mustLoad(t, c.image)
			s := mustOpen(t, d)
			d.Fuse(k)
			if k == changes {
				mustAnswer(t, "Apply", s.Apply(c.l), api.OK)
				break
			}
			mustAnswer(t, "Apply", s.Apply(c.l), api.ErrDown)
			mustTell(t, s, m)
		}
		d := mustLoad(t, c.image)
		mustAnswer(t, "Apply", mustOpen(t, d).Apply(c.l), api.OK)
		if !bytes.Equal(d.Dump(), left) {
			t.Errorf("Apply of %v: another dump", c.l)
		}
	}
}

// 15.3: behind ErrDown a store is of no use any more: what it is asked to do is not done, though the power is there again.
func TestOfNoUse(t *testing.T) {
	for k := range 2 {
		d, s, m := openNew(t, 8)
		mustApply(t, s, d, m, api.OK, put("a", "x"))
		d.Fuse(k)
		mustAnswer(t, "Apply", s.Apply(acts(put("b", "y"))), api.ErrDown)
		d.Crash([]int{20})
		was := d.Dump()
		mustAnswer(t, "Apply", s.Apply(acts(put("c", "z"))), api.ErrDown)
		mustAnswer(t, "Apply", s.Apply(acts(put("c", long(110)))), api.ErrDown)
		mustAnswer(t, "Apply of no acts", s.Apply(nil), api.OK)
		mustAnswer(t, "Apply of what may not be", s.Apply(acts(gone(""))), api.ErrArg)
		mustTell(t, s, m)
		if d.Pending() != 0 || !bytes.Equal(d.Dump(), was) {
			t.Error("it goes on")
		}
		mustTell(t, mustOpen(t, d), m)
	}
}

// 15.4: Get of a key that is there, of one that was taken away, of one that never was, and of the empty one.
func TestGet(t *testing.T) {
	d, s, m := openNew(t, 64)
	mustNotGet(t, s, "a")
	mustNotGet(t, s, "")
	mustApply(t, s, d, m, api.OK, put(long(64), "long"), put("a", "x"), put("ab", ""), put("b", "\x00"))
	look := func() {
		t.Helper()
		mustGet(t, s, "a", "x")
		mustGet(t, s, "ab", "") // no bytes, but there
		mustGet(t, s, "b", "\x00")
		mustGet(t, s, long(64), "long")
		for _, key := range []string{"", "A", "aa", "abc", "a\x00", "\x00", "c", long(63), long(65)} {
			mustNotGet(t, s, key)
		}
	}
	look()
	s = mustOpen(t, d)
	look()
	mustApply(t, s, d, m, api.OK, gone("a"), gone("ab"))
	mustNotGet(t, s, "a")
	mustNotGet(t, s, "ab")
	mustGet(t, s, "b", "\x00")
	mustApply(t, s, d, m, api.OK, put("a", "again"))
	mustGet(t, s, "a", "again")
	mustNotGet(t, s, "ab")
}

// 15.4: All goes over the keys byte by byte, in whichever order they were put.
func TestAllRises(t *testing.T) {
	d, s, m := openNew(t, 400)
	keys := []string{"b", "a", "B", "\xff", "\x00", "aa", "a\x00", "10", "9", "é", "\x7f", "\x80", "ab", long(64), long(63), "\x00\x00", "z", "Z"}
	for i, key := range keys {
		mustApply(t, s, d, m, api.OK, put(key, fmt.Sprint(i)))
	}
	var got []string
	for key, text := range s.All() {
		got = append(got, key)
		if i := slices.Index(keys, key); string(text) != fmt.Sprint(i) {
			t.Errorf("%q: %q", key, text)
		}
	}
	want := slices.Clone(keys)
	slices.SortFunc(want, func(a, b string) int { return bytes.Compare([]byte(a), []byte(b)) })
	if !slices.Equal(got, want) {
		t.Errorf("%q, want %q", got, want)
	}
}

// firstKeys goes over the first n keys, and is left at the last of them.
func firstKeys(s *Store, n int) (l []string) {
	for key := range s.All() {
		if l = append(l, key); len(l) == n {
			break
		}
	}
	return l
}

// 15.4: All left at the first, at a later and at the last key; and of no keys.
func TestAllLeft(t *testing.T) {
	d, s, m := openNew(t, 64)
	if l := firstKeys(s, 1); len(l) != 0 {
		t.Errorf("of no keys: %q", l)
	}
	mustApply(t, s, d, m, api.OK, put("a", "1"), put("b", "2"), put("c", "3"), put("d", "4"))
	want := []string{"a", "b", "c", "d"}
	for n := 1; n < 6; n++ {
		for range 2 {
			if l := firstKeys(s, n); !slices.Equal(l, want[:min(n, 4)]) {
				t.Errorf("left at %d: %q", n, l)
			}
		}
	}
	all := s.All()
	for n := 1; n < 6; n++ { // by the function itself: it asks no more where it was told to leave
		asked := 0
		all(func(key string, text []byte) bool {
			asked++
			return asked < n
		})
		if asked != min(n, 4) {
			t.Errorf("left at %d: asked %d times", n, asked)
		}
	}
	mustHave(t, s, d, m)
}

// 15.4: All gone over twice, and within itself.
func TestAllTwice(t *testing.T) {
	d, s, m := openNew(t, 64)
	mustApply(t, s, d, m, api.OK, put("a", "1"), put("b", "2"), put("c", "3"))
	all := s.All()
	var l, pairs []string
	for range 2 {
		for key, text := range all {
			l = append(l, key+string(text))
		}
	}
	if got := strings.Join(l, " "); got != "a1 b2 c3 a1 b2 c3" {
		t.Error(got)
	}
	for a := range all {
		for b := range all {
			pairs = append(pairs, a+b)
		}
	}
	if got := strings.Join(pairs, " "); got != "aa ab ac ba bb bc ca cb cc" {
		t.Error(got)
	}
}

// 15.4: what is done behind All's asking, or while it goes, is not seen in it, also where the journal is begun anew; then all is there.
func TestAllAsItWas(t *testing.T) {
	for _, n := range []int{8, 400} {
		d, s, m := openNew(t, n)
		before := s.All()
		mustApply(t, s, d, m, api.OK, put("b", "1"), put("d", "2"), put("f", "3"))
		all := s.All()
		look := func() {
			t.Helper()
			var got []string
			for key, text := range all {
				got = append(got, key+string(text))
			}
			if strings.Join(got, " ") != "b1 d2 f3" {
				t.Errorf("%q", got)
			}
			for key := range before {
				t.Errorf("%q was not there", key)
			}
		}
		for _, l := range [][]api.Act{acts(put("a", "new"), put("c", "new"), put("g", "new")), acts(put("b", "other"), gone("d")), acts(gone("a"), gone("b"), gone("c"), gone("f"), gone("g")), acts(put("b", "back"), put("z", ""))} {
			mustApply(t, s, d, m, api.OK, l...)
			look()
		}
		mustApply(t, s, d, m, api.ErrDisk, put("c", long(1<<20)))
		look()
	}
}

// 15.4: keys are put and taken away while All goes, at each step of it.
func TestAllWhileItGoes(t *testing.T) {
	for _, n := range []int{16, 400} {
		d, s, m := openNew(t, n)
		mustApply(t, s, d, m, api.OK, put("b", "1"), put("d", "2"), put("f", "3"))
		var got []string
		for key, text := range s.All() {
			got = append(got, key+string(text))
			mustApply(t, s, d, m, api.OK, put("a"+key, "new"), put("b", "other"), gone("d"), put("x"+key, "new"), put("z", key))
			mustApply(t, s, d, m, api.OK, gone("f"))
		}
		if strings.Join(got, " ") != "b1 d2 f3" {
			t.Errorf("%q", got)
		}
		if l := firstKeys(s, 9); strings.Join(l, " ") != "ab ad af b xb xd xf z" {
			t.Errorf("%q", l)
		}
	}
}

// 15.3, R3: what is handed to Apply is neither kept nor changed, and what lies behind a length is not read.
func TestGivenIsNotKept(t *testing.T) {
	for _, n := range []int{8, 64} { // of 8 sectors it is begun anew
		d, s, m := openNew(t, n)
		mustApply(t, s, d, m, api.OK, put("a", "x"))
		mustApply(t, s, d, m, api.OK, put("a", "y"))
		whole := []byte(long(60))
		l := acts(api.Act{Key: "b", Set: true, Data: whole[:20]}, api.Act{Key: "c", Set: true, Data: whole[20:40]}, put("d", "behind"))
		mustApply(t, s, d, m, api.OK, l[:2]...)
		if string(whole) != long(60) || l[2].Key != "d" || (m.gen == 2) != (n == 8) {
			t.Errorf("generation %d, or what was handed in is another thing", m.gen)
		}
		all := s.All()
		clear(whole)
		clear(l)
		mustHave(t, s, d, m)
		mustGet(t, s, "b", long(60)[:20])
		for key, text := range all {
			if string(text) != m.texts[key] {
				t.Errorf("%q: %q", key, text)
			}
		}
		mustNotGet(t, s, "d")
	}
}

// 15.3, R3: what an Apply that is refused was given is not kept, either.
func TestRefusedIsNotKept(t *testing.T) {
	d, s, m := openNew(t, 8)
	mustApply(t, s, d, m, api.OK, put("a", "x"))
	b := []byte(long(200))
	mustAnswer(t, "Apply", s.Apply(acts(api.Act{Key: "a", Set: true, Data: b})), api.ErrDisk)
	clear(b)
	mustHave(t, s, d, m)
}

// 15.4, R3: what Get and All tell shares no memory with the store, nor one answer with another; what was told stays.
func TestToldSharesNothing(t *testing.T) {
	d, s, m := openNew(t, 64)
	mustApply(t, s, d, m, api.OK, put("a", "xx"), put("b", "yy"), put("c", long(50)))
	look := func() {
		t.Helper()
		all := s.All()
		first, _ := s.Get("a")
		second, _ := s.Get("a")
		clear(first[:cap(first)])
		_ = append(first, "more and more"...)
		if string(second) != "xx" {
			t.Error("two answers of Get share memory")
		}
		for range 2 {
			for key, text := range all {
				if string(text) != m.texts[key] {
					t.Errorf("All: %q: %q", key, text)
				}
				clear(text[:cap(text)])
				_ = append(text, "more and more"...)
			}
		}
		mustHave(t, s, d, m)
	}
	look()
	s = mustOpen(t, d)
	look()
	told, _ := s.Get("a")
	mustApply(t, s, d, m, api.OK, put("a", "zz"), gone("b"))
	if string(told) != "xx" {
		t.Error("what was told is another thing, as more was done")
	}
}

// 15.3: what is kept is that of the store's own disk: two stores are two.
func TestTwoStores(t *testing.T) {
	d, s, m := openNew(t, 16)
	e, u, k := openNew(t, 16)
	mustApply(t, s, d, m, api.OK, put("a", "x"))
	mustApply(t, u, e, k, api.OK, put("a", "y"), put("b", "z"))
	mustApply(t, s, d, m, api.OK, gone("a"))
	mustHave(t, s, d, m)
	mustHave(t, u, e, k)
}

// P7: what a store tells hangs on the calls on it alone, on no order of a map.
func TestAlike(t *testing.T) {
	row := func(between func()) (answers []string) {
		d, s, _ := openNew(t, 60)
		note := func(e api.Errno) {
			between()
			answers = append(answers, fmt.Sprintf("%v %d %q %x", e, s.Len(), listed(s), d.Dump()))
		}
		for i := range 12 {
			note(s.Apply(many(5*i, long(i))))
			note(s.Apply(taken(many(2*i, ""))))
			note(s.Apply(acts(gone("b"), gone("a"))))
			note(s.Apply(acts(put("b", long(300*i)))))
		}
		d.Fuse(1)
		note(s.Apply(acts(put("c", long(80)))))
		d.Crash([]int{30, 64})
		s = mustOpen(t, d)
		note(s.Apply(acts(put("d", ""))))
		return answers
	}
	first := row(func() {})
	_, other, _ := openNew(t, 8)
	for range 5 {
		if again := row(func() { other.Apply(acts(put("x", long(50)))); other.Get("x"); other.All() }); !slices.Equal(first, again) {
			t.Fatal("another thing is told")
		}
	}
}

// P1: no call panics, whatever it is given; a Store that no call has made has no keys, and room for none.
func TestNoPanic(t *testing.T) {
	for _, b := range [][]byte{bytes.Repeat([]byte{0xff}, 9*64), bytes.Repeat([]byte{'J'}, 20*64), bytes.Repeat([]byte{'H'}, 20*64), layout(8, half(1<<64-1, "\x00"), nil)} {
		d := mustLoad(t, b)
		s := mustOpen(t, d)
		for range 5 {
			s.Apply(acts(put("a", long(50))))
		}
		Open(d)
	}
	var none Store
	m := newModel(8)
	for range 2 {
		mustAnswer(t, "Apply of no acts", none.Apply(nil), api.OK)
		mustAnswer(t, "Apply of what may not be", none.Apply(acts(gone(""))), api.ErrArg)
		mustAnswer(t, "Apply", none.Apply(acts(put("a", "x"))), api.ErrDisk)
		mustAnswer(t, "Apply", none.Apply(acts(gone("a"))), api.ErrDisk)
		mustTell(t, &none, m)
	}
}
