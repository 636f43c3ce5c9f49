package server_test

import (
	"fmt"
	"math/rand/v2"
	"slices"
	"testing"

	"blazon/api"
	"blazon/disk"
	"blazon/server"
)

// script is a row of deeds of which some need a change's Auth: it hands them out one by one, by what the words say of the server.
func script(t *testing.T) []func(w *twin) deed {
	ask := func(q api.Request) func(*twin) deed { return func(*twin) deed { return submit(t, q) } }
	plain := func(d deed) func(*twin) deed { return func(*twin) deed { return d } }
	again := func(name, key string) func(*twin) deed {
		return func(w *twin) deed { return submit(t, change(now(w, name), key)) }
	}
	return []func(w *twin) deed{
		plain(seal()),
		ask(register("ann", "k")), plain(seal()),
		plain(prune(1)),
		again("ann", "l"), ask(register("bob", "k")), again("bob", "m"), plain(seal()),
		plain(prune(2)),
		plain(seal()),
		ask(register("cid", "a longer key than the others have, of 64 bytes: that is all there")), plain(seal()),
		plain(prune(5)), plain(prune(3)),
		again("ann", "k"), plain(seal()),
		again("ann", "m"), plain(seal()),
		plain(prune(7)),
	}
}

// now is what a name has behind all that waits.
func now(w *twin, name string) api.Binding {
	_, next := w.seal()
	for _, b := range next.dir.Epochs[len(next.dir.Epochs)-1] {
		if b.Name == name {
			return b
		}
	}
	return api.Binding{Name: name}
}

// keeps is what may be kept of so many writes: none, all, the last one alone, all but the last one, each second one, all torn, and some like chance.
func keeps(chance *rand.Rand, writes int) [][]int {
	if writes == 0 {
		return [][]int{nil}
	}
	none, all := make([]int, writes), slices.Repeat([]int{64}, writes)
	l := [][]int{
		none, all,
		slices.Concat(none[1:], all[:1]), slices.Concat(all[1:], none[:1]),
		slices.Repeat([]int{64, 0}, writes)[:writes], slices.Repeat([]int{0, 64}, writes)[:writes],
		slices.Repeat([]int{9}, writes), slices.Repeat([]int{60}, writes),
	}
	for range 3 {
		var like []int
		for range writes {
			like = append(like, []int{0, 64, chance.IntN(65), chance.IntN(65)}[chance.IntN(4)])
		}
		l = append(l, like)
	}
	return l
}

// loss is a deed within which the power may go.
type loss struct {
	name  string
	image []byte // of the disk ahead of it
	queue []api.Request
	d     deed
	was   *twin // opened behind it, if it was not done
	will  *twin // and if it was
	met   [2]int
}

// upTo is the disk behind the deed, in which the power goes at the k-th change, if there are so many.
func (x *loss) upTo(t *testing.T, k int) (*disk.Disk, told) {
	t.Helper()
	d := load(t, x.image)
	s := mustOpen(t, x.name, d)
	for _, q := range x.queue {
		if e := s.Submit(q); e != api.OK {
			t.Fatalf("%s: Submit: %d", x.name, e)
		}
	}
	d.Fuse(k)
	return d, x.d.told(s)
}

// mustSurvive has the power go at each change of a deed, with much that may be kept: opened again it is the directory that was, or that was to be. It tells how often each.
func (l *life) mustSurvive(chance *rand.Rand, name string, d deed) [2]int {
	l.t.Helper()
	want, next := d.words(l.w)
	x := &loss{name: name, image: l.d.Dump(), queue: l.w.dir.Queue, d: d, was: l.w.opened(), will: next.opened()}
	for k := 0; ; k++ {
		disk, got := x.upTo(l.t, k)
		if got.e != api.ErrDown {
			if got.e == api.ErrDisk {
				want = refused(d, api.ErrDisk)
			}
			mustBe(l.t, name, got, want)
			return x.met
		}
		mustBe(l.t, name, got, refused(d, api.ErrDown))
		for i, keep := range keeps(chance, disk.Pending()) {
			disk, _ := x.upTo(l.t, k)
			disk.Crash(keep)
			x.name = fmt.Sprintf("%s, the power goes at change %d, kept %v", name, k, keep)
			if i < 4 {
				x.mustOpenInDark(l.t, disk.Dump())
			}
			x.mustBeEither(l.t, disk, i%5 == k%5)
		}
	}
}

// mustOpenInDark is of a disk's bytes behind a crash: the power goes at each change while it is opened.
func (x *loss) mustOpenInDark(t *testing.T, image []byte) {
	t.Helper()
	for k := 0; ; k++ {
		for _, keep := range [][]int{nil, slices.Repeat([]int{64, 30}, 200)} {
			d := load(t, image)
			d.Fuse(k)
			if _, e := server.Open(d, secret, seed); e == api.OK {
				return
			} else if e != api.ErrDown {
				t.Fatalf("%s: Open: %d", x.name, e)
			}
			d.Crash(keep)
			x.mustBeEither(t, d, false)
		}
	}
}

// mustBeEither is of a disk behind a crash: it is opened, and is what was, or what was to be; and, if it is to go on, each root is told as it was, and it goes on: that is not looked at each time, as to sign takes long.
func (x *loss) mustBeEither(t *testing.T, d *disk.Disk, on bool) {
	t.Helper()
	s := mustOpen(t, x.name, d)
	i := slices.IndexFunc([]*twin{x.was, x.will}, func(w *twin) bool { return sameDir(s.Dir(), w.dir) })
	if i < 0 {
		t.Fatalf("%s: there is %v", x.name, s.Dir())
	}
	x.met[i]++
	l := &life{t, d, s, []*twin{x.was, x.will}[i]}
	n := uint64(len(l.w.epochs))
	for _, q := range []question{link(1), link(n), count(), lookup("ann", n), dir()} {
		mustBe(t, x.name+", "+q.name, q.told(s), q.words(l.w))
	}
	if !on {
		return
	}
	mustBe(t, x.name, roots(1, n).told(s), roots(1, n).words(l.w))
	l.must(submit(t, register("on", "k")), api.OK)
	l.doIfRoom(seal())
	l.open()
	mustBe(t, x.name+", gone on", roots(1, n+1).told(l.s), roots(1, n+1).words(l.w))
	mustBe(t, x.name+", gone on", dir().told(l.s), dir().words(l.w))
}

// doIfRoom does a deed, which must be done as the words say, or be told that the disk is full, and then nothing is changed. It tells whether it was full.
func (l *life) doIfRoom(d deed) bool {
	l.t.Helper()
	want, next := d.words(l.w)
	got := d.told(l.s)
	full := got.e == api.ErrDisk && want.e == api.OK
	if full {
		want, next = refused(d, api.ErrDisk), l.w
	}
	mustBe(l.t, d.name, got, want)
	l.w = next
	mustBe(l.t, "Dir behind "+d.name, dir().told(l.s), dir().words(l.w))
	return full
}

// 21.7: wherever the power goes within Seal and Prune, whatever is kept, and again while it is opened.
func TestPower(t *testing.T) {
	for _, sectors := range []int{8, 10, 14, 20, 40, 256} {
		t.Run(fmt.Sprint(sectors), func(t *testing.T) {
			t.Parallel()
			chance := rand.New(rand.NewPCG(21, uint64(sectors)))
			l := begin(t, sectors)
			met := [2]int{}
			for i, next := range script(t) {
				d := next(l.w)
				if d.name == "Seal" || d.name[0] == 'P' {
					m := l.mustSurvive(chance, fmt.Sprintf("deed %d, %s", i, d.name), d)
					met[0], met[1] = met[0]+m[0], met[1]+m[1]
				}
				if e, _ := d.words(l.w); e.e == api.OK {
					l.doIfRoom(d)
				}
			}
			if met[0] == 0 || met[1] == 0 {
				t.Errorf("what was is met %d times, what was to be %d times", met[0], met[1])
			}
		})
	}
}

// 21.7: rows like chance, in each of which the power goes several times.
func TestPowerLikeChance(t *testing.T) {
	var down [24]int
	t.Run("rows", func(t *testing.T) {
		for row := range down {
			t.Run(fmt.Sprint(row), func(t *testing.T) {
				t.Parallel()
				l := begin(t, []int{8, 12, 18, 30, 64, 200}[row%6])
				chance := rand.New(rand.NewPCG(217, uint64(row)))
				for range 60 {
					down[row] += l.inTheDark(chance)
				}
			})
		}
	})
	if slices.Max(down[:]) < 3 {
		t.Errorf("the power goes %v times: the test is no good", down)
	}
}

// inTheDark does a deed like chance, within which the power may go. It tells how often it went.
func (l *life) inTheDark(chance *rand.Rand) int {
	l.t.Helper()
	d := l.any(chance)
	want, next := d.words(l.w)
	l.d.Fuse(chance.IntN(24))
	got := d.told(l.s)
	l.d.Fuse(-1)
	switch {
	case got.e == api.ErrDown && want.e == api.OK:
		mustBe(l.t, d.name, got, refused(d, api.ErrDown))
		l.d.Crash(keeps(chance, l.d.Pending())[min(l.d.Pending(), 1)*8:][0])
		l.s = mustOpen(l.t, "behind a crash", l.d)
		if l.w = l.w.opened(); !sameDir(l.s.Dir(), l.w.dir) {
			l.w = next.opened()
		}
	case got.e == api.ErrDisk && want.e == api.OK:
		mustBe(l.t, d.name, got, refused(d, api.ErrDisk))
	default:
		mustBe(l.t, d.name, got, want)
		l.w = next
	}
	mustBeAtRest(l.t, d.name, l.s, l.w)
	if got.e == api.ErrDown {
		return 1
	}
	return 0
}

// any is a deed like chance.
func (l *life) any(r *rand.Rand) deed {
	n := uint64(len(l.w.epochs))
	switch r.IntN(7) {
	case 0, 1, 2:
		return seal()
	case 3:
		return prune(r.Uint64N(n + 2))
	}
	name := []string{"ann", "bob", "x.1", "eve", "Bad"}[r.IntN(5)]
	key := []string{"k", "l", "m", "", "a key that is long"}[r.IntN(5)]
	if r.IntN(2) == 0 {
		return submit(l.t, register(name, key))
	}
	b := api.Binding{Name: name}
	if n > 0 || len(l.w.dir.Queue) > 0 {
		if n < 64 {
			b = now(l.w, name)
		}
	}
	if r.IntN(8) == 0 {
		b.Serial += r.Uint64N(3) - 1
	}
	return submit(l.t, change(b, key))
}

// With ErrDown the server is of no use any more, but no call panics; behind a crash the disk is opened again.
func TestDown(t *testing.T) {
	for k := range 4 {
		l := lived(t, 64)
		l.must(submit(t, register("dan", "k")), api.OK)
		l.d.Fuse(k)
		_, e := l.s.Seal()
		if e == api.OK {
			break
		}
		if e != api.ErrDown {
			t.Fatalf("the power goes at change %d: %d", k, e)
		}
		l.s.Submit(register("eve", "k"))
		l.s.Seal()
		l.s.Prune(3)
		l.s.Lookup("ann", 3)
		l.s.History("ann", 1, 4)
		l.s.Roots(1, 3)
		l.s.Page(api.Digest{})
		l.s.Pages()
		l.s.Link(3)
		l.s.Dir()
		l.d.Crash(nil)
		l.open()
		mustBeWhole(t, "opened again", l.s, l.w)
		l.seals(register("dan", "k"))
		l.open()
		mustBeWhole(t, "gone on", l.s, l.w)
	}
}
