package journal

import (
	"bytes"
	"fmt"
	"math/rand/v2"
	"slices"
	"testing"

	"blazon/api"
	"blazon/disk"
)

// fewKeeps is what may be kept of so many writes: none, all, the last one alone, all but the last one, each second one, and all torn.
func fewKeeps(writes int) [][]int {
	l := make([][]int, 8)
	for i := range writes {
		last := i == writes-1
		for k, n := range []int{0, 64, pick(last, 64, 0), pick(last, 0, 64), i % 2 * 64, (i + 1) % 2 * 64, 9, 60} {
			l[k] = append(l[k], n)
		}
	}
	return l
}

// pick is one of two numbers.
func pick(ok bool, yes, no int) int {
	if ok {
		return yes
	}
	return no
}

// manyKeeps is fewKeeps; each write by itself torn at each byte, all others being kept, or none of them; and several like chance.
func manyKeeps(chance *rand.Rand, writes int) [][]int {
	l := fewKeeps(writes)
	for i := range writes {
		for cut := range 65 {
			for _, rest := range []int{0, 64} {
				keep := slices.Repeat([]int{rest}, writes)
				keep[i] = cut
				l = append(l, keep)
			}
		}
	}
	for range 40 {
		l = append(l, likeChance(chance, writes))
	}
	return l
}

// likeChance is numbers for so many writes, many of them at the edges.
func likeChance(chance *rand.Rand, writes int) (keep []int) {
	for range writes {
		keep = append(keep, []int{0, 64, chance.IntN(65), chance.IntN(65)}[chance.IntN(4)])
	}
	return keep
}

// loss is a call on a disk of those bytes, at any change of which the power may go: which records were, and which were to be.
type loss struct {
	name  string
	image []byte
	call  func(d *disk.Disk) api.Errno
	was   []string
	will  []string
}

// losses is Appends, Restarts and Opens of many kinds.
func losses() []loss {
	// Sectors of these bytes are records themselves, of this generation and of later ones, where they would be taken for such.
	sly := func(gen, seq uint64) string {
		s := "7 bytes"
		for i := range uint64(4) {
			s += string(recordByWords(gen, seq+i, []byte("sly")))
		}
		return s
	}
	slyHead := "7 bytes" + string(headByWords(9)) + string(recordByWords(9, 0, []byte("sly")))
	a := []string{"a"}
	return []loss{
		{"Append of the first", layout(8, written(1), nil), appending("b"), nil, []string{"b"}},
		{"Append", layout(8, written(1, a...), nil), appending("b"), a, []string{"a", "b"}},
		{"Append to the second half", layout(9, written(1, "z"), written(2, a...)), appending(long(71)), a, []string{"a", long(71)}},
		{"Append of noughts", layout(8, written(1, a...), nil), appending("\x00\x00"), a, []string{"a", "\x00\x00"}},
		{"Append of a full half", layout(8, written(3), trash(4)), appending(long(135)), nil, []string{long(135)}},
		{"Append with noughts at its end", layout(12, written(1), nil), appending(long(10) + string(make([]byte, 190))), nil, []string{long(10) + string(make([]byte, 190))}},
		{"sly Append, this seq", layout(16, written(2, a...), written(1)), appending(sly(2, 1)), a, []string{"a", sly(2, 1)}},
		{"sly Append, the next seq", layout(16, written(2, a...), written(1)), appending(sly(2, 2)), a, []string{"a", sly(2, 2)}},
		{"sly Append, the next generation", layout(16, written(2, a...), written(1)), appending(sly(3, 1)), a, []string{"a", sly(3, 1)}},
		{"sly Append of a Head", layout(16, written(2, a...), written(1)), appending(slyHead), a, []string{"a", slyHead}},
		{"Restart with none", layout(8, written(1, a...), nil), restarting(), a, nil},
		{"Restart", layout(8, written(1, a...), nil), restarting("b", "c"), a, []string{"b", "c"}},
		{"Restart into the first half", layout(9, written(1, "z", "y"), written(2, a...)), restarting("b"), a, []string{"b"}},
		{"Restart with what is there", layout(8, written(1, a...), nil), restarting(a...), a, a},
		{"Restart of a full half", layout(8, written(4, "x", "y", "z"), written(3, "v", "w")), restarting("a", long(71)), []string{"x", "y", "z"}, []string{"a", long(71)}},
		{"Restart over sly records", layout(16, written(1, sly(3, 1)), written(2, a...)), restarting("b"), a, []string{"b"}},
		{"Restart with none over sly records", layout(16, written(1, "z", sly(3, 0)), written(2, a...)), restarting(), a, nil},
		{"Restart over trash", layout(8, written(4, a...), trash(4)), restarting("b", "c"), a, []string{"b", "c"}},
		{"Open of noughts", make([]byte, 8*64), opening, nil, nil},
		{"Open of noughts, 13 sectors", make([]byte, 13*64), opening, nil, nil},
		{"Open with bytes behind", layout(8, append(written(1, "a", "b"), 1, 2), nil), opening, []string{"a", "b"}, []string{"a", "b"}},
		{"Open with bytes behind, in the second half", layout(9, written(1, "z"), append(written(2, a...), 0, 0, 1)), opening, a, a},
		{"Open with sly bytes behind", layout(16, slices.Concat(written(4), trash(1), recordByWords(4, 1, []byte("sly"))), written(3, sly(5, 1))), opening, nil, nil},
	}
}

// 14.6: wherever the power goes, whatever is kept: opened again there are the records that were, or those that were to be; and it goes on.
func TestWholeOrNotAtAll(t *testing.T) {
	chance := rand.New(rand.NewPCG(14, 6))
	for _, c := range losses() {
		changes, done := 0, tried{}
		for ; ; changes++ {
			d, e := upTo(t, c.image, changes, c.call)
			if e == api.OK {
				mustGoOn(t, c.name, d, c.will)
				break
			}
			for i, keep := range manyKeeps(chance, d.Pending()) {
				d, _ := upTo(t, c.image, changes, c.call)
				d.Crash(keep)
				name := fmt.Sprintf("%s, power goes at change %d, kept %v", c.name, changes, keep)
				there := mustBeWhole(t, name, d, c)
				if i%25 == 0 || i < 8 {
					mustBeWholeAgain(t, name, d.Dump(), there, done)
				}
				if done.first(d, there) {
					mustGoOn(t, name, d, there)
				}
			}
		}
		mustBeLostOrKept(t, c, changes-1)
	}
}

// tried is disks that were tried already, with the records that they must have.
type tried map[string]bool

// first tells whether it is tried for the first time.
func (l tried) first(d *disk.Disk, there []string) bool {
	key := fmt.Sprintf("%q %s", there, d.Dump())
	was := l[key]
	l[key] = true
	return !was
}

// mustBeWhole is 14.6 of a disk behind a crash: the records that are there.
func mustBeWhole(t *testing.T, name string, d *disk.Disk, c loss) []string {
	t.Helper()
	_, l, _ := Read(d.Dump())
	there := plain(l)
	if !slices.Equal(there, c.was) && !slices.Equal(there, c.will) {
		t.Fatalf("%s: there are %.40q", name, there)
	}
	return there
}

// mustBeWholeAgain is 14.6 of a disk of those bytes, the power going at each change while it is opened.
func mustBeWholeAgain(t *testing.T, name string, image []byte, there []string, done tried) {
	t.Helper()
	for k := 0; ; k++ {
		d, e := upTo(t, image, k, opening)
		if e == api.OK {
			return
		}
		for _, keep := range fewKeeps(d.Pending()) {
			d, _ := upTo(t, image, k, opening)
			d.Crash(keep)
			if done.first(d, there) {
				mustGoOn(t, fmt.Sprintf("%s, once more at change %d of Open, kept %v", name, k, keep), d, there)
			}
		}
	}
}

// mustGoOn is of a disk that must be opened with those records; what is appended then is there, behind them.
func mustGoOn(t *testing.T, name string, d *disk.Disk, there []string) {
	t.Helper()
	g := mustOpen(t, d)
	gen, l := g.Gen(), there
	look := func() {
		t.Helper()
		if got := plain(g.All()); !slices.Equal(got, l) || g.Gen() != gen || g.Room() != roomByWords(d.Size(), l) || d.Pending() != 0 {
			t.Fatalf("%s: generation %d, records %.40q, room %d, want %d, %.40q", name, g.Gen(), got, g.Room(), gen, l)
		}
	}
	look()
	for _, s := range []string{"on", "and on"} {
		if g.Room() == 0 {
			mustAnswer(t, name+": Restart", g.Restart(texts("anew")), api.OK)
			gen, l = gen+1, []string{"anew"}
		}
		mustAnswer(t, name+": Append", g.Append([]byte(s)), api.OK)
		l = append(slices.Clip(l), s)
		look()
		g = mustOpen(t, d)
		look()
	}
}

// mustBeLostOrKept is of the last change, a Sync: with nothing kept there is what was, with all kept what was to be; a change ahead of it all is what was.
func mustBeLostOrKept(t *testing.T, c loss, last int) {
	t.Helper()
	for _, k := range []struct {
		at, keep int
		want     []string
	}{{0, 0, c.was}, {last, 0, c.was}, {last, 64, c.will}} {
		d, e := upTo(t, c.image, k.at, c.call)
		mustAnswer(t, c.name, e, api.ErrDown)
		d.Crash(slices.Repeat([]int{k.keep}, d.Pending()))
		if _, l, _ := Read(d.Dump()); !slices.Equal(plain(l), k.want) {
			t.Errorf("%s, power goes at change %d, kept %d of each: %.40q", c.name, k.at, k.keep, l)
		}
	}
}

// 14.6: on a disk of 8 sectors: all ways in which two writes of an Append can be torn.
func TestAllWaysOfTwo(t *testing.T) {
	image := layout(8, written(1, "a"), nil)
	s := long(60)
	for first := range 65 {
		for second := range 65 {
			d, e := upTo(t, image, 2, appending(s)) // at the Sync
			mustAnswer(t, "Append", e, api.ErrDown)
			d.Crash([]int{first, second})
			g := mustOpen(t, d)
			want, gen := []string{"a"}, uint64(2)
			switch {
			case first == 64 && second >= 53: // the 117 bytes that are not padding
				want, gen = []string{"a", s}, 1
			case first == 0 && second == 0: // nothing is behind
				gen = 1
			}
			mustHave(t, g, d, gen, want...)
			if t.Failed() {
				t.Fatalf("kept %d, %d", first, second)
			}
		}
	}
}

// model is a log by the chapter's words: the bytes of its disk, and what it tells.
type model struct {
	image   []byte
	half    int
	gen     uint64
	records []string
}

// size is how many bytes a half has.
func (m *model) size() int {
	return len(m.image) / 64 / 2 * 64
}

// open is 14.4.
func (m *model) open() {
	w := readByWords(m.image)
	m.half, m.gen, m.records = w.half, w.gen, w.records
	switch {
	case w.gen == 0:
		m.begin(0, 1, nil)
	case len(bytes.Trim(w.rest, "\x00")) > 0:
		m.begin(1-w.half, w.gen+1, w.records)
	}
}

// begin is to begin anew.
func (m *model) begin(half int, gen uint64, l []string) {
	b := m.image[half*m.size() : (half+1)*m.size()]
	clear(b)
	copy(b, written(gen, l...))
	m.half, m.gen, m.records = half, gen, l
}

// append is 14.5 of a record.
func (m *model) append(s string) api.Errno {
	switch {
	case s == "":
		return api.ErrArg
	case len(s) > roomByWords(len(m.image)/64, m.records):
		return api.ErrDisk
	}
	m.records = append(slices.Clip(m.records), s)
	copy(m.image[m.half*m.size():], written(m.gen, m.records...))
	return api.OK
}

// restart is 14.5 of records.
func (m *model) restart(l []string) api.Errno {
	switch {
	case slices.Contains(l, ""):
		return api.ErrArg
	case len(written(1, l...)) > m.size():
		return api.ErrDisk
	}
	m.begin(1-m.half, m.gen+1, l)
	return api.OK
}

// clone is the same, by itself.
func (m *model) clone() *model {
	c := *m
	c.image = bytes.Clone(m.image)
	return &c
}

// row is a disk with its log, and what the chapter's words tell of them.
type row struct {
	d *disk.Disk
	g *Log
	m *model
}

// alike tells whether all that is told is the same.
func (r *row) alike() bool {
	return slices.Equal(plain(r.g.All()), r.m.records) && r.g.Gen() == r.m.gen && r.g.Room() == roomByWords(r.d.Size(), r.m.records) && r.d.Pending() == 0 && bytes.Equal(r.d.Dump(), r.m.image)
}

// text is a record like chance, at times none, or too long.
func text(chance *rand.Rand, most int) string {
	if chance.IntN(30) == 0 {
		return ""
	}
	return long(1 + chance.IntN(most))
}

// step is a call like chance, on a log and on what the words tell of one.
func step(chance *rand.Rand, size int) (func(g *Log) api.Errno, func(m *model) api.Errno) {
	if chance.IntN(3) > 0 {
		s := text(chance, size/2)
		return func(g *Log) api.Errno { return g.Append([]byte(s)) }, func(m *model) api.Errno { return m.append(s) }
	}
	var l []string
	for range chance.IntN(5) {
		l = append(l, text(chance, size/2))
	}
	return func(g *Log) api.Errno { return g.Restart(texts(l...)) }, func(m *model) api.Errno { return m.restart(l) }
}

// lose is a step at whose change the power goes, if it has so many: the records are those that were, or those that were to be.
func (r *row) lose(chance *rand.Rand, call func(g *Log) api.Errno, words func(m *model) api.Errno) bool {
	was, will := r.m, r.m.clone()
	want := words(will)
	r.d.Fuse(chance.IntN(r.d.Size() + 4))
	if e := call(r.g); e != api.ErrDown {
		r.d.Fuse(-1)
		r.m = will
		return e == want
	}
	for {
		r.d.Crash(likeChance(chance, r.d.Pending()))
		r.m = &model{image: r.d.Dump()}
		r.m.open()
		if !slices.Equal(r.m.records, was.records) && !slices.Equal(r.m.records, will.records) {
			return false
		}
		r.d.Fuse(chance.IntN(2*r.d.Size()) - 1)
		g, e := Open(r.d)
		if e == api.OK {
			r.d.Fuse(-1)
			r.g = g
			return true
		}
		if e != api.ErrDown || g != nil {
			return false
		}
	}
}

// 14.1 to 14.6: long rows like chance from a disk of noughts on, held against the chapter's words at each step.
func TestLongRows(t *testing.T) {
	for seed := range 80 {
		chance := rand.New(rand.NewPCG(uint64(seed), 14))
		n := 8 + seed%17
		d := mustLoad(t, make([]byte, 64*n))
		r := &row{d: d, g: mustOpen(t, d), m: &model{image: make([]byte, 64*n)}}
		r.m.open()
		for at := range 150 {
			call, words := step(chance, 32*n)
			ok := true
			switch chance.IntN(4) {
			case 0:
				r.g = mustOpen(t, d)
				r.m.open()
			case 1:
				ok = r.lose(chance, call, words)
			default:
				ok = call(r.g) == words(r.m)
			}
			if !ok || !r.alike() {
				t.Fatalf("seed %d, step %d: another thing is told", seed, at)
			}
		}
	}
}
