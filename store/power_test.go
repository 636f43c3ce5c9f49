package store

import (
	"fmt"
	"maps"
	"math/rand/v2"
	"slices"
	"strings"
	"testing"

	"blazon/api"
	"blazon/disk"
	"blazon/journal"
)

// loss is an Apply to a store to which batches were applied, at any change of which the power may go.
type loss struct {
	name  string
	n     int // sectors
	ahead [][]api.Act
	l     []api.Act
	gen   uint64 // behind it
}

// times is a batch so many times.
func times(n int, l ...api.Act) [][]api.Act {
	return slices.Repeat([][]api.Act{l}, n)
}

// losses is Applies of many kinds.
func losses() []loss {
	a, b := put("a", "x"), put("b", "y")
	// A text whose sectors are records themselves, of batches that nobody did: ahead of it there are 63 bytes in its sector.
	sly := func(gen, seq uint64) string {
		s := "-"
		for i := range uint64(5) {
			s += string(journal.Record(gen, seq+i, batchByWords(acts(put("sly", "")))))
		}
		return s
	}
	return []loss{
		{"the first one", 8, nil, acts(a), 1},
		{"another one", 8, times(1, a), acts(b), 1},
		{"a text changes", 8, times(1, a), acts(put("a", "other")), 1},
		{"the same once more", 8, times(1, a), acts(a), 1},
		{"a key is taken away", 8, times(1, a, b), acts(gone("a")), 1},
		{"the last key is taken away", 8, times(1, a), acts(gone("a")), 1},
		{"no such key is taken away", 8, times(1, a), acts(gone("c")), 1},
		{"several at once", 16, times(1, a, b), acts(put("0", "new"), gone("a"), put("b", ""), gone("c"), put("d", long(100))), 1},
		{"one that just fits", 8, nil, acts(put("a", long(129))), 1},
		{"many sectors", 32, times(1, a), acts(put("b", long(500)), put("c", string(make([]byte, 200)))), 1},
		{"a text of noughts", 16, times(1, a), acts(put("b", string(make([]byte, 190)))), 1},
		{"sly, this one", 40, times(1, a), acts(put("b", sly(1, 1))), 1},
		{"sly, the next one", 40, times(1, a), acts(put("b", sly(1, 2))), 1},
		{"anew", 8, times(3, a), acts(b), 2},
		{"anew, from the second half", 9, times(6, a), acts(b), 3},
		{"anew with the same", 8, times(3, a), acts(a), 2},
		{"anew, a text changes", 8, times(3, a), acts(put("a", "other")), 2},
		{"anew, a key is taken away", 10, times(3, a, put("c", "")), acts(gone("c"), gone("d")), 2},
		{"anew with none", 8, times(3, a), acts(gone("a")), 2},
		{"anew with none, from none", 8, slices.Concat(times(1, a), times(2, gone("a"))), acts(gone("a")), 2},
		{"anew where all just fits", 8, times(1, put("a", long(129))), acts(put("a", long(130)[1:])), 2},
		{"anew, many sectors", 32, times(1, a, put("b", long(400))), acts(put("b", long(600)), put("c", "z")), 2},
		{"anew over sly ones", 40, [][]api.Act{acts(put("b", sly(3, 1))), acts(put("c", long(700))), acts(gone("b"), put("c", "")), acts(put("c", long(1000))), acts(put("c", "z"))}, acts(put("c", "y")), 3},
	}
}

// fewKeeps is what may be kept of so many writes: none, all, the last one alone, all but the last one, each second one, and all torn.
func fewKeeps(writes int) [][]int {
	l := make([][]int, 8)
	for i := range writes {
		for k := range l {
			l[k] = append(l[k], 0)
		}
		last := i == writes-1
		l[1][i] = 64
		if last {
			l[2][i] = 64
		} else {
			l[3][i] = 64
		}
		l[4+i%2][i] = 64
		l[6][i], l[7][i] = 9, 60
	}
	return l
}

// manyKeeps is fewKeeps; each write by itself torn at many bytes, all others being kept, or none of them; and several like chance.
func manyKeeps(chance *rand.Rand, writes int) [][]int {
	l := fewKeeps(writes)
	for i := range writes {
		for _, cut := range []int{1, 8, 9, 17, 18, 41, 49, 57, 58, 60, 63} {
			for _, rest := range []int{0, 64} {
				keep := slices.Repeat([]int{rest}, writes)
				keep[i] = cut
				l = append(l, keep)
			}
		}
	}
	for range 20 {
		l = append(l, likeChance(chance, writes))
	}
	return l
}

// likeChance is numbers for so many writes, many of them at the edges.
func likeChance(chance *rand.Rand, writes int) (keep []int) {
	for range writes {
		keep = append(keep, []int{0, 64, chance.IntN(65), chance.IntN(65)}[chance.IntN(4)])
	}
	return keep
}

// upTo is a disk of those bytes behind an Apply in which the power goes at the k-th change, if there are so many.
func upTo(t *testing.T, image []byte, k int, l []api.Act) (*disk.Disk, api.Errno) {
	t.Helper()
	d := mustLoad(t, image)
	s := mustOpen(t, d)
	d.Fuse(k)
	e := s.Apply(l)
	switch e {
	case api.OK:
		d.Fuse(-1)
	case api.ErrDown:
	default:
		t.Fatalf("Apply of %s: %v", brief(l), e)
	}
	return d, e
}

// begun is a disk's bytes behind the batches ahead; the keys that were, and those that are to be.
func (c loss) begun(t *testing.T) (image []byte, was, will *model) {
	t.Helper()
	d, s, was := openNew(t, c.n)
	for _, l := range c.ahead {
		mustApply(t, s, d, was, api.OK, l...)
	}
	will = was.clone()
	mustAnswer(t, c.name+", by the words", will.apply(c.l), api.OK)
	if will.gen != c.gen {
		t.Errorf("%s: generation %d, want %d", c.name, will.gen, c.gen)
	}
	return d.Dump(), was, will
}

// 15.5: wherever the power goes within an Apply, whatever is kept: opened again there are the keys that were, or those that were to be; and it goes on.
func TestWholeOrNotAtAll(t *testing.T) {
	chance := rand.New(rand.NewPCG(15, 5))
	for _, c := range losses() {
		image, was, will := c.begun(t)
		met := [2]int{}
		for k := 0; ; k++ {
			d, e := upTo(t, image, k, c.l)
			if e == api.OK {
				mustHave(t, mustOpen(t, d), d, will)
				break
			}
			for i, keep := range manyKeeps(chance, d.Pending()) {
				d, _ := upTo(t, image, k, c.l)
				d.Crash(keep)
				name := fmt.Sprintf("%s, power goes at change %d, kept %v", c.name, k, keep)
				if i < 8 {
					mustBeWholeAgain(t, name, d.Dump(), was, will)
				}
				met[mustBeWhole(t, name, d, was, will)]++
			}
		}
		if met[0] == 0 || met[1] == 0 && !maps.Equal(was.texts, will.texts) {
			t.Errorf("%s: the keys that were are met %d times, those that were to be %d times", c.name, met[0], met[1])
		}
		mustBeLostOrKept(t, c, image, was, will)
	}
}

// textsOf is all keys with their texts.
func textsOf(s *Store) map[string]string {
	m := map[string]string{}
	for key, text := range s.All() {
		m[key] = string(text)
	}
	return m
}

// mustBeWhole is 15.5 of a disk behind a crash: 0, if there are the keys that were, 1, if there are those that were to be. It goes on.
func mustBeWhole(t *testing.T, name string, d *disk.Disk, was, will *model) int {
	t.Helper()
	s := mustOpen(t, d)
	there := &model{n: d.Size(), texts: textsOf(s)}
	met := slices.IndexFunc([]*model{was, will}, func(m *model) bool { return maps.Equal(m.texts, there.texts) })
	if met < 0 {
		t.Fatalf("%s: there are %.200v", name, there.texts)
	}
	for _, l := range [][]api.Act{acts(gone("a"), put("on", "1")), acts(gone("b"), put("on", "2"))} {
		if e := s.Apply(l); e == api.OK {
			there.do(l)
		} else if e != api.ErrDisk {
			t.Fatalf("%s: it does not go on: %v", name, e)
		}
		for range 2 {
			if !maps.Equal(textsOf(s), there.texts) || s.Len() != len(there.texts) || d.Pending() != 0 {
				t.Fatalf("%s: as it goes on there are %.200v", name, textsOf(s))
			}
			s = mustOpen(t, d)
		}
	}
	return met
}

// mustBeWholeAgain is 15.5 of a disk of those bytes, the power going at each change while it is opened.
func mustBeWholeAgain(t *testing.T, name string, image []byte, was, will *model) {
	t.Helper()
	for k := 0; ; k++ {
		d := mustLoad(t, image)
		d.Fuse(k)
		if _, e := Open(d); e != api.ErrDown {
			mustAnswer(t, name, e, api.OK)
			return
		}
		for _, keep := range fewKeeps(d.Pending())[:4] {
			d := mustLoad(t, image)
			d.Fuse(k)
			if s, e := Open(d); s != nil || e != api.ErrDown {
				t.Fatalf("%s, once more at change %d of Open: %v, %v", name, k, s, e)
			}
			d.Crash(keep)
			if s := mustOpen(t, d); !maps.Equal(textsOf(s), was.texts) && !maps.Equal(textsOf(s), will.texts) {
				t.Fatalf("%s, once more at change %d of Open, kept %v: there are %.200v", name, k, keep, textsOf(s))
			}
		}
	}
}

// mustBeLostOrKept is of the last change, a Sync: with nothing kept there are the keys that were, with all kept those that were to be.
func mustBeLostOrKept(t *testing.T, c loss, image []byte, was, will *model) {
	t.Helper()
	last := -1
	for e := api.ErrDown; e != api.OK; last++ {
		_, e = upTo(t, image, last+1, c.l)
	}
	for _, k := range []struct {
		at, keep int
		want     *model
	}{{0, 0, was}, {last - 1, 0, was}, {last - 1, 64, will}} {
		d, e := upTo(t, image, k.at, c.l)
		mustAnswer(t, c.name, e, api.ErrDown)
		d.Crash(slices.Repeat([]int{k.keep}, d.Pending()))
		if got := textsOf(mustOpen(t, d)); !maps.Equal(got, k.want.texts) {
			t.Errorf("%s, power goes at change %d, kept %d of each: %.200v", c.name, k.at, k.keep, got)
		}
	}
}

// 15.5: all ways in which two writes of an Apply can be torn.
func TestAllWaysOfTwo(t *testing.T) {
	m := newModel(8)
	l := acts(gone("a"), put("b", long(53)))
	mustAnswer(t, "by the words", m.apply(acts(put("a", "x"))), api.OK)
	image := layout(8, half(1, m.records...), nil)
	for first := range 65 {
		for second := range 65 {
			d, e := upTo(t, image, 2, l) // at the Sync
			mustAnswer(t, "Apply", e, api.ErrDown)
			d.Crash([]int{first, second})
			want := map[string]string{"a": "x"}
			if first == 64 && second >= 57+len(batchByWords(l))-64 {
				want = map[string]string{"b": long(53)}
			}
			if got := textsOf(mustOpen(t, d)); !maps.Equal(got, want) {
				t.Fatalf("kept %d, %d: %.100v", first, second, got)
			}
		}
	}
}

// 15.3 to 15.5: two batches with no key in common come to the same in whichever order they are done, whether or not the journal is begun anew for one of them.
func TestWhicheverOrder(t *testing.T) {
	chance := rand.New(rand.NewPCG(15, 4))
	both, anew := 0, 0
	for i := range 3000 {
		first, second := parted(chance, someActs(chance, 9, 90), someActs(chance, 9, 90))
		ahead := someActs(chance, 9, 90)
		if !mayBe(first) || !mayBe(second) || !mayBe(ahead) {
			continue
		}
		n := 12 + chance.IntN(16)
		var left []map[string]string
		for _, row := range [][][]api.Act{{first, second}, {second, first}} {
			d, s, m := openNew(t, n)
			mustApply(t, s, d, m, m.clone().apply(ahead), ahead...)
			answers := []api.Errno{s.Apply(row[0]), s.Apply(row[1])}
			if answers[0] != api.OK || answers[1] != api.OK {
				continue
			}
			both++
			left = append(left, textsOf(s), textsOf(mustOpen(t, d)))
			if gen, _, _ := journal.Read(d.Dump()); gen > 1 {
				anew++
			}
		}
		for _, l := range left {
			if !maps.Equal(l, left[0]) {
				t.Fatalf("row %d: %v, %v", i, l, left[0])
			}
		}
	}
	if anew < 100 || both-anew < 100 {
		t.Errorf("%d are done, the journal is begun anew %d times: the rows are of one kind", both, anew)
	}
}

// parted is acts of which no key is in both lists.
func parted(chance *rand.Rand, l, m []api.Act) ([]api.Act, []api.Act) {
	keys := map[string]bool{}
	for _, a := range slices.Concat(l, m) {
		if _, ok := keys[a.Key]; !ok {
			keys[a.Key] = chance.IntN(2) == 0
		}
	}
	l = slices.DeleteFunc(l, func(a api.Act) bool { return keys[a.Key] })
	m = slices.DeleteFunc(m, func(a api.Act) bool { return !keys[a.Key] })
	return l, m
}

// row is a disk with its store, and what the chapter's words tell of them.
type row struct {
	d *disk.Disk
	s *Store
	m *model
}

// lose is an Apply at whose change the power goes, if it has so many: the keys are those that were, or those that were to be.
func (r *row) lose(t *testing.T, chance *rand.Rand, l []api.Act) {
	t.Helper()
	will := r.m.clone()
	want := will.apply(l)
	r.d.Fuse(chance.IntN(r.d.Size() + 4))
	e := r.s.Apply(l)
	for e == api.ErrDown {
		r.d.Crash(likeChance(chance, r.d.Pending()))
		r.d.Fuse(chance.IntN(2*r.d.Size()) - 1)
		if r.s, e = Open(r.d); e != api.OK {
			continue
		}
		r.d.Fuse(-1)
		there := textsOf(r.s)
		if !maps.Equal(there, r.m.texts) && !maps.Equal(there, will.texts) {
			t.Fatalf("there are %.200v", there)
		}
		r.m = r.byJournal(t, there)
		return
	}
	r.d.Fuse(-1)
	mustAnswer(t, "Apply of "+brief(l), e, want)
	r.m = will
}

// byJournal is a model with what the journal has.
func (r *row) byJournal(t *testing.T, texts map[string]string) *model {
	t.Helper()
	m := &model{n: r.d.Size(), texts: texts}
	gen, l, e := journal.Read(r.d.Dump())
	mustAnswer(t, "journal.Read", e, api.OK)
	m.gen = gen
	for _, b := range l {
		m.records = append(m.records, string(b))
	}
	return m
}

// 15.1 to 15.5: long rows like chance from a disk of noughts on, held against the chapter's words at each step.
func TestLongRows(t *testing.T) {
	told := map[api.Errno]int{}
	for seed := range 60 {
		chance := rand.New(rand.NewPCG(uint64(seed), 15))
		r := &row{}
		r.d, r.s, r.m = openNew(t, 8+seed%29)
		most := 4 << chance.IntN(7)
		for at := range 120 {
			l := someActs(chance, 6, most)
			switch chance.IntN(5) {
			case 0:
				r.s = mustOpen(t, r.d)
			case 1:
				r.lose(t, chance, l)
			default:
				want := r.m.clone().apply(l)
				mustApply(t, r.s, r.d, r.m, want, l...)
				told[want]++
			}
			mustHave(t, r.s, r.d, r.m)
			if t.Failed() {
				t.Fatalf("seed %d, step %d: another thing is told", seed, at)
			}
		}
	}
	for _, e := range []api.Errno{api.OK, api.ErrArg, api.ErrDisk} {
		if told[e] < 100 {
			t.Errorf("%v is told %d times: the rows are of one kind", e, told[e])
		}
	}
}

// 15.3: a long row of batches of great texts on the greatest disk: it goes on where all keys fit, whatever was there.
func TestGreatestDisk(t *testing.T) {
	d, s, m := openNew(t, 16384)
	apply := func(want api.Errno, l ...api.Act) {
		t.Helper()
		if got, words := s.Apply(l), m.apply(l); got != want || words != want {
			t.Fatalf("Apply of %s: %v, want %v, by the words %v", brief(l), got, want, words)
		}
		mustRecord(t, d, m)
	}
	for i := range 12 {
		apply(api.OK, put("a", strings.Repeat(string(rune('a'+i)), 200000)))
	}
	mustHave(t, s, d, m)
	apply(api.OK, put("b", long(300000)))
	apply(api.ErrDisk, put("c", long(30000)))
	apply(api.ErrDisk, put("a", long(250000)))
	apply(api.OK, gone("a"))
	apply(api.OK, put("b", long(8191*64-57-7)))
	if len(m.records) != 1 || len(m.records[0]) != 8191*64-57 {
		t.Errorf("%d records", len(m.records))
	}
	mustHave(t, s, d, m)
	apply(api.ErrDisk, put("b", long(8191*64-57-6)))
	apply(api.ErrDisk, put("c", ""))
	apply(api.OK, gone("b"))
	mustHave(t, s, d, m)
}
