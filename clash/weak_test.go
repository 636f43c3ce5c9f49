package clash

// Nobody knows a pair of whole digests. So that it is tried, too, what is told of one, TestByWeakDigests runs the tests TestWeak.. by a tags.Of that tells 2 bits of a digest alone: of those pairs are everywhere.

import (
	"bytes"
	"crypto/sha256"
	"encoding/binary"
	"encoding/json"
	"go/ast"
	"go/parser"
	"go/token"
	"os"
	"os/exec"
	"path/filepath"
	"slices"
	"strings"
	"testing"

	"blazon/api"
	"blazon/proof"
	"blazon/tags"
)

// weakly is the name of what says, in the environment, that the tests run by weak digests.
const weakly = "TESTS_RUN_BY_WEAK_DIGESTS"

// weakOf is what stands in the place of tags.Of; wholeOf is then what was there.
const weakOf = `package tags

import "blazon/api"

func Of(b []byte) api.Digest { return api.Digest{wholeOf(b)[0] & 3} }
`

// weak is what that must be.
func weak(b []byte) api.Digest {
	return api.Digest{sha256.Sum256(b)[0] & 3}
}

// onlyWeak goes on if the digests are weak; if they should be, they must.
func onlyWeak(t *testing.T) {
	t.Helper()
	if os.Getenv(weakly) == "" {
		t.Skip("run by TestByWeakDigests")
	}
	for i := range 50 {
		if b := chance(i); tags.Of(b[:]) != weak(b[:]) {
			t.Fatal("the digests are not weak")
		}
	}
}

// TestByWeakDigests runs the tests TestWeak.. by weak digests.
func TestByWeakDigests(t *testing.T) {
	if os.Getenv(weakly) != "" {
		t.Skip("this is such a run")
	}
	run := exec.Command("go", "test", "-count=1", "-vet=off", "-v", "-run=^TestWeak", "-overlay="+overlay(t), ".")
	run.Env = append(os.Environ(), weakly+"=1")
	out, err := run.CombinedOutput()
	if err != nil || !bytes.Contains(out, []byte("--- PASS: TestWeakPair")) || bytes.Contains(out, []byte("--- SKIP")) {
		t.Errorf("%v\n%s", err, out)
	}
}

// overlay is a file that says what is built in the place of package tags.
func overlay(t *testing.T) string {
	folder, err := filepath.Abs("../tags")
	if err != nil {
		t.Fatal(err)
	}
	place, whole := withoutOf(t, folder)
	there := t.TempDir()
	write := func(name string, b []byte) string {
		name = filepath.Join(there, name)
		if err := os.WriteFile(name, b, 0o600); err != nil {
			t.Fatal(err)
		}
		return name
	}
	text, err := json.Marshal(map[string]map[string]string{"Replace": {
		place:                              write("whole.go", whole),
		filepath.Join(folder, "weakly.go"): write("weakly.go", []byte(weakOf)),
	}})
	if err != nil {
		t.Fatal(err)
	}
	return write("overlay.json", text)
}

// withoutOf is which file of a package has the function Of, and that file with Of named wholeOf.
func withoutOf(t *testing.T, folder string) (string, []byte) {
	names, _ := filepath.Glob(filepath.Join(folder, "*.go"))
	for _, name := range names {
		text, err := os.ReadFile(name)
		if err != nil {
			t.Fatal(err)
		}
		set := token.NewFileSet()
		file, err := parser.ParseFile(set, name, text, 0)
		if err != nil {
			t.Fatal(err)
		}
		for _, d := range file.Decls {
			if f, ok := d.(*ast.FuncDecl); ok && f.Recv == nil && f.Name.Name == "Of" && !strings.HasSuffix(name, "_test.go") {
				at := set.Position(f.Name.Pos()).Offset
				return name, slices.Concat(text[:at], []byte("wholeOf"), text[at+len("Of"):])
			}
		}
	}
	t.Fatal("package tags has no Of")
	return "", nil
}

// isPair is what a pair is, by weak digests.
func isPair(a, b []byte) bool {
	return string(a) != string(b) && weak(a) == weak(b)
}

// tally counts how often there was a pair, and how often none.
type tally struct{ pairs, none int }

// must is of an answer that must tell those two texts, if they are a pair; else nothing.
func (n *tally) must(t *testing.T, name string, a, b []byte) func(x, y []byte, ok bool) {
	t.Helper()
	if !isPair(a, b) {
		n.none++
		return mustBeNone(t, name)
	}
	n.pairs++
	return func(x, y []byte, ok bool) {
		t.Helper()
		if !ok || string(x) != string(a) || string(y) != string(b) {
			t.Errorf("%s: %x, %x, %v; want %x and %x", name, x, y, ok, a, b)
		}
	}
}

// mustHaveBoth is that some had a pair, and some had none: else too little was tried.
func (n *tally) mustHaveBoth(t *testing.T) {
	t.Helper()
	if n.pairs < 10 || n.none < 10 {
		t.Errorf("%d pairs and %d that were none: too few", n.pairs, n.none)
	}
}

// 9.1: each two texts that are a pair, in their order; each two others have none.
func TestWeakPair(t *testing.T) {
	onlyWeak(t)
	l := [][]byte{nil, {}, {0}, {0, 0}, []byte("a"), []byte("b"), []byte("E"), make([]byte, 5000), make([]byte, 5001)}
	for i := range 60 {
		d := chance(i)
		l = append(l, d[:i%33])
	}
	var n tally
	for _, a := range l {
		for _, b := range l {
			n.must(t, "two texts", a, b)(Pair(a, b))
		}
	}
	n.mustHaveBoth(t)
}

// firstOf is 9.2, word by word.
func firstOf(a, b [][]byte) ([]byte, []byte) {
	for i := 0; i < len(a) && i < len(b); i++ {
		if isPair(a[i], b[i]) {
			return a[i], b[i]
		}
	}
	return nil, nil
}

// some is a list of texts of one byte or none, like chance.
func some(seed, n int) [][]byte {
	var l [][]byte
	for i := range n {
		d := chance(seed*100 + i)
		l = append(l, d[1:1+d[0]%2])
	}
	return l
}

// 9.2: the first pair of the texts at one place, in lists of all lengths; not one of unlike places, nor one behind the shorter list's end.
func TestWeakFirst(t *testing.T) {
	onlyWeak(t)
	var n tally
	for seed := range 400 {
		a, b := some(seed, seed%7), some(seed+1000, seed/7%8)
		x, y := firstOf(a, b)
		n.must(t, "two lists", x, y)(First(a, b))
		mustBeNone(t, "a list and itself")(First(a, slices.Clone(a)))
	}
	n.mustHaveBoth(t)
}

// like is texts of one weak digest, each one another's pair.
func like(n int) [][]byte {
	var l [][]byte
	for i := 0; len(l) < n; i++ {
		if d := chance(i); weak(d[:8]) == (api.Digest{1}) {
			l = append(l, d[:8])
		}
	}
	return l
}

// 9.2: of several pairs the first one; of pairs at unlike places, and behind an end, none.
func TestWeakFirstOfSeveral(t *testing.T) {
	onlyWeak(t)
	l := like(8)
	var n tally
	n.must(t, "all of them pairs", l[0], l[4])(First(l[:4], l[4:]))
	n.must(t, "behind two that are the same", l[2], l[5])(First([][]byte{l[0], l[1], l[2], l[3]}, [][]byte{l[0], l[1], l[5], l[6]}))
	n.must(t, "at the shorter one's end", l[1], l[2])(First([][]byte{l[0], l[1]}, [][]byte{l[0], l[2], l[3]}))
	mustBeNone(t, "behind the shorter one's end")(First([][]byte{l[0]}, [][]byte{l[0], l[2], l[3]}))
	mustBeNone(t, "behind the shorter one's end")(First([][]byte{l[0], l[2], l[3]}, [][]byte{l[0]}))
	mustBeNone(t, "a list and none")(First(l, nil))
	mustBeNone(t, "no list and one")(First(nil, l))
	if n.none > 0 {
		t.Error("what should be pairs is none")
	}
}

// hashedAlong is what is hashed along a way (8.1), by weak digests.
func hashedAlong(index api.Digest, p api.Proof) [][]byte {
	b := []byte("E")
	if p.End == api.EndLeaf {
		b = slices.Concat([]byte("L"), p.Index[:], p.Value[:])
	}
	l := [][]byte{b}
	for i := len(p.Sides) - 1; i >= 0; i-- {
		side, below := p.Sides[i], weak(l[0])
		if i < 256 && index[i/8]<<(i%8)&0x80 != 0 {
			b = slices.Concat([]byte("N"), side[:], below[:])
		} else {
			b = slices.Concat([]byte("N"), below[:], side[:])
		}
		l = append([][]byte{b}, l...)
	}
	return l
}

// weakWays is ways of an index: of many lengths, with each end, many of them alike for some time. From each place on they may lead elsewhere.
func weakWays(index api.Digest) []api.Proof {
	l := []api.Proof{{}, {End: api.EndLeaf, Index: index}, {End: 2}, {Sides: chances(0, 257)}, {Sides: chances(0, 256), End: api.EndLeaf, Index: index}}
	for i := range 40 {
		n := i % 6
		sides := slices.Concat(chances(0, n/2), chances(10*i, n-n/2))
		if i < 20 {
			sides = chances(0, n)
		}
		l = append(l, api.Proof{Sides: sides, End: api.EndLeaf, Index: index, Value: chance(i)})
		l = append(l, api.Proof{Sides: sides, End: api.EndLeaf, Index: turned(index, 5+i), Value: chance(i)})
		l = append(l, api.Proof{Sides: sides})
	}
	return l
}

// 9.3: Ways is the first pair of what is hashed along both ways, whether they may be or not, and whichever roots they lead from.
func TestWeakWays(t *testing.T) {
	onlyWeak(t)
	var n tally
	for _, index := range []api.Digest{{}, filled(0xff), chance(7), chance(8)} {
		all := weakWays(index)
		var along [][][]byte
		for _, p := range all {
			along = append(along, hashedAlong(index, p))
		}
		for i, p := range all {
			for k, q := range all {
				x, y := firstOf(along[i], along[k])
				n.must(t, "two ways", x, y)(Ways(index, p, q))
			}
		}
	}
	n.mustHaveBoth(t)
}

// 9.4: if two ways of one index are taken by one root, and prove unlike things, Ways finds a pair; it is of what is hashed along them.
func TestWeakRootBinds(t *testing.T) {
	onlyWeak(t)
	bound := 0
	for _, index := range []api.Digest{{}, filled(0xff), chance(7), chance(8)} {
		all := weakWays(index)
		for _, p := range all {
			root := proof.Root(index, p)
			v, there, e := proof.Check(root, index, p)
			for _, q := range all {
				w, also, f := proof.Check(root, index, q)
				if e != api.OK || f != api.OK || v == w && there == also {
					continue
				}
				bound++
				a, b, ok := Ways(index, p, q)
				if !ok || !isPair(a, b) || !has(proof.Hashed(index, p), a) || !has(proof.Hashed(index, q), b) {
					t.Errorf("one root proves %x, %v and %x, %v; the pair: %x, %x, %v", v, there, w, also, a, b, ok)
				}
			}
		}
	}
	if bound < 100 {
		t.Errorf("unlike things proved by one root: %d times, too few", bound)
	}
}

// has tells whether a text is among some.
func has(l [][]byte, text []byte) bool {
	return slices.ContainsFunc(l, func(b []byte) bool { return bytes.Equal(b, text) })
}

// 9.3: Roots is the pair of what is hashed of both roots.
func TestWeakRoots(t *testing.T) {
	onlyWeak(t)
	var l []api.Root
	for i := range 40 {
		r := api.Root{Epoch: 7, Prev: chance(1), Tree: chance(2), Next: chance(3)}
		switch i % 4 {
		case 0:
			r.Epoch = uint64(i) << i
		case 1:
			r.Prev = chance(100 + i)
		case 2:
			r.Tree = chance(100 + i)
		case 3:
			r.Next = chance(100 + i)
		}
		l = append(l, r)
	}
	var n tally
	bytesOf := func(r api.Root) []byte {
		return slices.Concat(binary.BigEndian.AppendUint64([]byte("R"), r.Epoch), r.Prev[:], r.Tree[:], r.Next[:])
	}
	for _, a := range l {
		for _, b := range l {
			n.must(t, "two roots", bytesOf(a), bytesOf(b))(Roots(a, b))
		}
	}
	n.mustHaveBoth(t)
}

// 9.3: Values is the pair of what is hashed of both bindings, each with its own salt.
func TestWeakValues(t *testing.T) {
	onlyWeak(t)
	var l []hidden
	for i := range 40 {
		h := hidden{chance(1), api.Binding{Name: "ann", Key: []byte("k"), Serial: 1}}
		d := chance(100 + i)
		switch i % 4 {
		case 0:
			h.salt = d
		case 1:
			h.b.Name = string(d[:i%33])
		case 2:
			h.b.Key = d[:i%33]
		case 3:
			h.b.Serial = uint64(i) << i
		}
		l = append(l, h)
	}
	var n tally
	bytesOf := func(h hidden) []byte {
		b := binary.BigEndian.AppendUint64(append([]byte("V"), h.salt[:]...), uint64(len(h.b.Name)))
		return append(binary.BigEndian.AppendUint64(append(b, h.b.Name...), h.b.Serial), h.b.Key...)
	}
	for _, x := range l {
		for _, y := range l {
			n.must(t, "two bindings", bytesOf(x), bytesOf(y))(Values(x.salt, x.b, y.salt, y.b))
		}
	}
	n.mustHaveBoth(t)
}

// overlapping is two texts that share memory, and are a pair; behind both more lies.
func overlapping() (room, a, b []byte) {
	for i := 0; ; i++ {
		d := chance(i)
		if isPair(d[:8], d[4:12]) {
			return d[:], d[:8], d[4:12]
		}
	}
}

// R3: a pair that is told is new memory: it shares none with what was handed in, and neither text any with the other one.
func TestWeakNewMemory(t *testing.T) {
	onlyWeak(t)
	for name, call := range map[string]func(a, b []byte) ([]byte, []byte, bool){
		"Pair":  Pair,
		"First": func(a, b []byte) ([]byte, []byte, bool) { return First([][]byte{a}, [][]byte{b}) },
	} {
		room, a, b := overlapping()
		was, first, second := string(room), string(a), string(b)
		x, y, ok := call(a, b)
		if !ok || string(room) != was {
			t.Fatalf("%s: no pair, or what was handed in is another one", name)
		}
		_ = append(x, "behind it"...)
		_ = append(y, "behind it"...)
		if string(room) != was || string(x) != first || string(y) != second {
			t.Errorf("%s: what is put behind a text changes another one", name)
		}
		clear(room)
		if string(x) != first || string(y) != second {
			t.Errorf("%s: what is told shares memory with what was handed in", name)
		}
		clear(x)
		if string(y) != second {
			t.Errorf("%s: what is told shares memory", name)
		}
	}
}

// R3: of lists neither is changed where there is a pair, and what lies behind their length is not read.
func TestWeakHandedInStays(t *testing.T) {
	onlyWeak(t)
	l := like(6)
	room := slices.Clone(l)
	mustBeNone(t, "a pair behind the length")(First(room[:0], room[1:4]))
	if _, _, ok := First(room[:3], room[2:5]); !ok || !slices.EqualFunc(room, l, bytes.Equal) {
		t.Error("no pair, or a list that was handed in is another one")
	}
	text := append(like(1)[0], 'x')
	mustBeNone(t, "unlike behind the length alone")(Pair(text[:8], bytes.Clone(text[:8])))
}

// P7: what is told is told again.
func TestWeakAlike(t *testing.T) {
	onlyWeak(t)
	all := weakWays(chance(7))
	for i, p := range all[1:] {
		a, b, ok := Ways(chance(7), p, all[i])
		if x, y, again := Ways(chance(7), p, all[i]); ok != again || !bytes.Equal(a, x) || !bytes.Equal(b, y) {
			t.Error("told twice, unlike")
		}
	}
}
