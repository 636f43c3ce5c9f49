package fork

import (
	"bytes"
	"crypto/sha256"
	"encoding/binary"
	"encoding/hex"
	"fmt"
	"math"
	"slices"
	"strconv"
	"testing"

	"blazon/api"
	"blazon/chain"
	"blazon/lamport"
	"blazon/tags"
)

// chance is a digest that is like chance, but the same one each time.
func chance(i int) api.Digest {
	return sha256.Sum256([]byte(strconv.Itoa(i)))
}

// rising is 32 bytes, each one greater than the one ahead.
func rising() (d api.Digest) {
	for i := range d {
		d[i] = byte(i)
	}
	return d
}

// trees is n digests, all unlike.
func trees(n int) (l []api.Digest) {
	for i := range n {
		l = append(l, chance(i+1))
	}
	return l
}

// by is a root with its signature by a key.
func by(seed api.Digest, key uint64, r api.Root) api.Signed {
	return api.Signed{Root: r, Sig: lamport.Sign(seed, key, tags.RootBytes(r))}
}

// headOf is the head behind a root.
func headOf(r api.Root) api.Head {
	return api.Head{Epoch: r.Epoch, Root: tags.Of(tags.RootBytes(r)), Key: r.Next}
}

// sealOf is what Seal seals, and one past the last epoch, too.
func sealOf(seed api.Digest, h api.Head, tree api.Digest) api.Signed {
	epoch := h.Epoch + 1
	return by(seed, epoch, api.Root{Epoch: epoch, Prev: h.Root, Tree: tree, Next: lamport.Public(seed, epoch+1)})
}

// rootsOf is a seed's roots from a head on, one of each tree; and the heads: where they begin, and behind each.
func rootsOf(seed api.Digest, h api.Head, trees ...api.Digest) (l []api.Signed, heads []api.Head) {
	heads = append(heads, h)
	for _, tree := range trees {
		s := sealOf(seed, h, tree)
		h = headOf(s.Root)
		l, heads = append(l, s), append(heads, h)
	}
	return l, heads
}

// begin is where a seed's roots begin.
func begin(seed api.Digest) api.Head {
	return chain.Start(chain.Pin(seed))
}

// double is a seed's evidence: n roots, and two behind them.
func double(seed api.Digest, n int) api.Evidence {
	l, heads := rootsOf(seed, begin(seed), trees(n)...)
	return api.Evidence{Trunk: l, A: sealOf(seed, heads[n], chance(101)), B: sealOf(seed, heads[n], chance(102))}
}

// exchanged is evidence with its A as B, and its B as A.
func exchanged(e api.Evidence) api.Evidence {
	e.A, e.B = e.B, e.A
	return e
}

// with is a list with another root at a place.
func with(l []api.Signed, at int, s api.Signed) []api.Signed {
	l = slices.Clone(l)
	l[at] = s
	return l
}

// all is the roots of evidence, in the order of 12.2.
func all(e api.Evidence) []api.Signed {
	return slices.Concat(e.Trunk, []api.Signed{e.A, e.B})
}

// of is the evidence whose roots those are.
func of(l []api.Signed) api.Evidence {
	n := len(l) - 2
	return api.Evidence{Trunk: l[:n], A: l[n], B: l[n+1]}
}

// copied is signed roots in other memory.
func copied(l []api.Signed) (out []api.Signed) {
	for _, s := range l {
		out = append(out, api.Signed{Root: s.Root, Sig: bytes.Clone(s.Sig)})
	}
	return out
}

// same tells whether two signed roots are.
func same(a, b api.Signed) bool {
	return a.Root == b.Root && bytes.Equal(a.Sig, b.Sig)
}

// sameEvidence tells whether two are.
func sameEvidence(e, f api.Evidence) bool {
	return slices.EqualFunc(all(e), all(f), same)
}

// isZero tells whether evidence is zero.
func isZero(e api.Evidence) bool {
	return sameEvidence(e, api.Evidence{})
}

// texts is 4.3, by the library.
func texts(l ...[]byte) []byte {
	b := binary.AppendUvarint(nil, uint64(len(l)))
	for _, text := range l {
		b = append(binary.AppendUvarint(b, uint64(len(text))), text...)
	}
	return b
}

// rootText is 5.2 of a signed root, by the library.
func rootText(s api.Signed) []byte {
	b := binary.AppendUvarint(nil, s.Root.Epoch)
	b = slices.Concat(b, s.Root.Prev[:], s.Root.Tree[:], s.Root.Next[:])
	return append(binary.AppendUvarint(b, uint64(len(s.Sig))), s.Sig...)
}

// rootTexts is that of each of many.
func rootTexts(l []api.Signed) (out [][]byte) {
	for _, s := range l {
		out = append(out, rootText(s))
	}
	return out
}

// bytesOf is 12.2, word by word.
func bytesOf(e api.Evidence) []byte {
	return texts(rootTexts(all(e))...)
}

// mustHold is of evidence that Check and Accept must take.
func mustHold(t *testing.T, name string, pin api.Digest, e api.Evidence) {
	t.Helper()
	if got := Check(pin, e); got != api.OK {
		t.Errorf("%s: Check: %v", name, got)
	}
	if got := Accept(pin, bytesOf(e)); got != api.OK {
		t.Errorf("%s: Accept: %v", name, got)
	}
}

// mustNotHold is of evidence that can be read, but does not hold; nor does it with A and B exchanged.
func mustNotHold(t *testing.T, name string, pin api.Digest, e api.Evidence) {
	t.Helper()
	for _, e := range []api.Evidence{e, exchanged(e)} {
		if got := Check(pin, e); got != api.ErrBad {
			t.Errorf("%s: Check: %v", name, got)
		}
		if got := Accept(pin, bytesOf(e)); got != api.ErrBad {
			t.Errorf("%s: Accept: %v", name, got)
		}
	}
}

// mustRead is of the bytes of evidence: they are read as it, and it is written as them.
func mustRead(t *testing.T, name string, b []byte, asked api.Evidence) {
	t.Helper()
	got, err := Read(b)
	if err != api.OK || !sameEvidence(got, asked) {
		t.Errorf("%s: another one is read: %v", name, err)
	}
	if !bytes.Equal(Bytes(got), b) {
		t.Errorf("%s: it is written as other bytes", name)
	}
}

// mustNotRead is of bytes that are no evidence, against any pin.
func mustNotRead(t *testing.T, name string, pin api.Digest, b []byte) {
	t.Helper()
	if got, err := Read(b); err != api.ErrCodec || !isZero(got) {
		t.Errorf("%s: Read: %d roots ahead, %v, %v: %v", name, len(got.Trunk), got.A.Root, got.B.Root, err)
	}
	if got := Accept(pin, b); got != api.ErrCodec {
		t.Errorf("%s: Accept: %v", name, got)
	}
}

// mustFind is of lists that come to that evidence, which must hold, in either order, and be read as what is written.
func mustFind(t *testing.T, name string, pin api.Digest, l, m []api.Signed, asked api.Evidence) {
	t.Helper()
	got, ok := Find(pin, l, m)
	if !ok || !sameEvidence(got, asked) {
		t.Errorf("%s: %v, %d roots ahead, want %d", name, ok, len(got.Trunk), len(asked.Trunk))
		return
	}
	mustHold(t, name, pin, got)
	mustHold(t, name+", exchanged", pin, exchanged(got))
	mustRead(t, name, bytesOf(got), asked)
}

// mustNotFind is of lists that come to none: nothing is told beside false.
func mustNotFind(t *testing.T, name string, pin api.Digest, l, m []api.Signed) {
	t.Helper()
	if got, ok := Find(pin, l, m); ok || !isZero(got) {
		t.Errorf("%s: %v, %d roots ahead, %v, %v", name, ok, len(got.Trunk), got.A.Root, got.B.Root)
	}
}

// The chapter's examples, and the sixth one of the whole.
func TestExamples(t *testing.T) {
	pin := chain.Pin(api.Digest{9})
	mustNotRead(t, "nothing", pin, nil)
	e := double(api.Digest{9}, 2)
	for i, s := range e.Trunk {
		e.Trunk[i].Sig = nil
		mustNotHold(t, "without a signature ahead", pin, e)
		e.Trunk[i] = s
	}
	mustHold(t, "as it was", pin, e)
	e.A.Sig, e.B.Sig = nil, nil
	mustNotHold(t, "without signatures", pin, e)
	mustNotHold(t, "without anything", pin, api.Evidence{})
	e = double(api.Digest{9}, 0)
	if got := Accept(pin, Bytes(e)); got != api.OK {
		t.Errorf("two roots of epoch 1: %v", got)
	}
}

// knownBytes is what another program worked out: of evidence with so many roots ahead its bytes' number and digest.
func knownBytes(seed api.Digest) map[int]string {
	if seed == rising() {
		return map[int]string{
			0:  "32975 8a41c5bc6ffd258930b001b578cbee64d148db7b8d0c3c187de5daa132cdf344",
			1:  "49462 d74b072bcd82fa9c6a278e51d3b4212c6e9e01482963b3c9cb8d349169da81a9",
			5:  "115410 6f35abe7cef7e9a0962bf313ace563805d981db1f98609f5170701b00e3728c0",
			63: "1071656 47bb4c1125faf10e86a5b4b3b7ddd199cf311a90f78536ec852c579618ccf34e",
		}
	}
	return map[int]string{
		0:  "32975 e0c4cc23fa3c9b1cf42df985688c3a2a6f65b667d3402167d1373241e4967bd4",
		1:  "49462 1521ff4ad9b04fc8fc97d069e77fa01a002ae3e45b88689ff4c493ffdecf8ff0",
		5:  "115410 e635bf924eb4d1d5346091b9a4010fc7d771cc88579fe2e2a1e6bc7cf9255182",
		63: "1071656 fda889f9b1d84a09caecf7bfca7b971a8d5cf7b6fade410d840c43ac368db19d",
	}
}

// 12.1, 12.2, 12.3: evidence is written as those bytes that another program wrote, read as what it was, and holds.
func TestKnownBytes(t *testing.T) {
	for _, seed := range []api.Digest{{9}, rising()} {
		for n, known := range knownBytes(seed) {
			e := double(seed, n)
			b := Bytes(e)
			digest := sha256.Sum256(b)
			if got := fmt.Sprint(len(b), " ", hex.EncodeToString(digest[:])); got != known {
				t.Errorf("%d roots ahead: %s, want %s", n, got, known)
			}
			mustRead(t, fmt.Sprintf("%d roots ahead", n), b, e)
			mustHold(t, fmt.Sprintf("%d roots ahead", n), chain.Pin(seed), e)
		}
	}
}

// 12.1: two roots of any epoch hold, in either order, from the first one to the last.
func TestCheck(t *testing.T) {
	seed := chance(1)
	pin := chain.Pin(seed)
	for n := range 64 {
		if 3 < n && n < 61 && n%13 > 0 {
			continue
		}
		e := double(seed, n)
		name := fmt.Sprintf("%d roots ahead", n)
		mustHold(t, name, pin, e)
		mustHold(t, name+", exchanged", pin, exchanged(e))
	}
	mustHold(t, "a list without elements ahead", pin, api.Evidence{Trunk: []api.Signed{}, A: double(seed, 0).A, B: double(seed, 0).B})
}

// 12.1: past the last epoch nothing holds: neither two roots of epoch 65, nor two of epoch 64 behind as many.
func TestCheckPastTheEnd(t *testing.T) {
	seed := chance(1)
	pin := chain.Pin(seed)
	past, last := double(seed, 64), double(seed, 63)
	late := api.Evidence{Trunk: past.Trunk, A: last.A, B: last.B}
	longer := api.Evidence{Trunk: append(slices.Clone(past.Trunk), past.A), A: past.A, B: past.B}
	for i, e := range []api.Evidence{past, late, longer, exchanged(past)} {
		if got := Check(pin, e); got != api.ErrBad {
			t.Errorf("%d: Check: %v", i, got)
		}
		mustNotRead(t, strconv.Itoa(i), pin, bytesOf(e))
	}
	mustHold(t, "the last epoch", pin, last)
}

// 12.1: it does not matter in which fields two roots are unlike, nor who names which next key.
func TestCheckOfAnyUnlikeRoots(t *testing.T) {
	seed := rising()
	l, heads := rootsOf(seed, begin(seed), trees(2)...)
	root := sealOf(seed, heads[2], chance(3)).Root
	roots := []api.Root{root, {Epoch: 3, Prev: root.Prev}}
	for at := range 32 {
		tree, next := root, root
		tree.Tree[at] ^= 1 << (at % 8)
		next.Next[at] ^= 1 << (at % 8)
		roots = append(roots, tree, next)
	}
	for i, other := range roots[1:] {
		e := api.Evidence{Trunk: l, A: by(seed, 3, root), B: by(seed, 3, other)}
		mustHold(t, fmt.Sprintf("unlike root %d", i), chain.Pin(seed), e)
	}
}

// spoils is what may be wrong of a root that the seed chance(1) signed.
func spoils(s api.Signed) map[string]api.Signed {
	seed, r := chance(1), s.Root
	early, late, prev, tree, next := r, r, r, r, r
	early.Epoch--
	late.Epoch++
	prev.Prev = chance(77)
	tree.Tree = chance(78)
	next.Next = chance(79)
	bent := bytes.Clone(s.Sig)
	bent[len(bent)-1] ^= 1
	return map[string]api.Signed{
		"nothing":               {},
		"an epoch too early":    by(seed, r.Epoch, early),
		"an epoch too late":     by(seed, r.Epoch, late),
		"behind another root":   by(seed, r.Epoch, prev),
		"another tree":          {Root: tree, Sig: s.Sig},
		"another next key":      {Root: next, Sig: s.Sig},
		"no signature":          {Root: r},
		"a byte too few":        {Root: r, Sig: s.Sig[:16383]},
		"a byte too many":       {Root: r, Sig: append(bytes.Clone(s.Sig), 0)},
		"a bit of it bent":      {Root: r, Sig: bent},
		"the key ahead's":       by(seed, r.Epoch-1, r),
		"the next key's":        by(seed, r.Epoch+1, r),
		"another seed's":        by(chance(2), r.Epoch, r),
		"a signature of nought": {Root: r, Sig: lamport.Sign(seed, r.Epoch, nil)},
	}
}

// 12.1: a first, a middle or a last root ahead that can't be followed, and it does not hold; nor if A or B can't.
func TestCheckOfARootThatCannotBeFollowed(t *testing.T) {
	seed := chance(1)
	e := double(seed, 5)
	for at, s := range all(e) {
		for name, spoiled := range spoils(s) {
			name = fmt.Sprintf("root %d, %s", at, name)
			mustNotHold(t, name, chain.Pin(seed), of(with(all(e), at, spoiled)))
		}
	}
	mustHold(t, "as it was", chain.Pin(seed), e)
}

// 12.1: of all epochs of a long trunk each one must be followed.
func TestCheckOfALongTrunk(t *testing.T) {
	seed := chance(1)
	e := double(seed, 63)
	for at, s := range all(e) {
		if at%9 < 1 || at > 60 {
			mustNotHold(t, fmt.Sprintf("root %d bent", at), chain.Pin(seed), of(with(all(e), at, api.Signed{Root: s.Root, Sig: s.Sig[1:]})))
		}
	}
}

// 12.1: roots ahead that are missing, stand twice or in another order are none that can be followed.
func TestCheckOfAnotherTrunk(t *testing.T) {
	seed := chance(1)
	e := double(seed, 4)
	l := e.Trunk
	other, _ := rootsOf(chance(2), begin(chance(2)), trees(4)...)
	side, _ := rootsOf(seed, begin(seed), chance(50), chance(51), chance(52), chance(53))
	for name, trunk := range map[string][]api.Signed{
		"none":                    nil,
		"without the first":       l[1:],
		"without a middle one":    slices.Concat(l[:2], l[3:]),
		"without the last":        l[:3],
		"the first twice":         slices.Concat(l[:1], l),
		"the last twice":          slices.Concat(l, l[3:]),
		"all twice":               slices.Concat(l, l),
		"two swapped":             {l[0], l[2], l[1], l[3]},
		"A behind them":           slices.Concat(l, []api.Signed{e.A}),
		"B behind them":           slices.Concat(l, []api.Signed{e.B}),
		"another seed's":          other,
		"the last another seed's": slices.Concat(l[:3], other[3:]),
		"another face's":          side,
		"the last another face's": slices.Concat(l[:3], side[3:]),
		"the last one alone":      l[3:],
	} {
		mustNotHold(t, name, chain.Pin(seed), api.Evidence{Trunk: trunk, A: e.A, B: e.B})
	}
	mustHold(t, "its own", chain.Pin(seed), e)
}

// 12.1: two roots of which each can be followed somewhere, but not both from the head behind the trunk, are no evidence.
func TestCheckOfRootsOfUnlikeHeads(t *testing.T) {
	seed := chance(1)
	l, heads := rootsOf(seed, begin(seed), trees(5)...)
	side, _ := rootsOf(seed, heads[2], chance(50), chance(51))
	for name, e := range map[string]api.Evidence{
		"two epochs, one behind the other": {Trunk: l[:2], A: l[2], B: l[3]},
		"the root ahead":                   {Trunk: l[:2], A: l[2], B: l[1]},
		"two faces, an epoch too late":     {Trunk: l[:3], A: l[3], B: side[1]},
		"two faces, an epoch too early":    {Trunk: l[:3], A: l[3], B: side[0]},
		"another seed's":                   {Trunk: l[:2], A: l[2], B: sealOf(chance(2), heads[2], chance(9))},
		"a root of another next key alone": {Trunk: l[:2], A: l[2], B: by(seed, 4, api.Root{Epoch: 3, Prev: heads[2].Root})},
	} {
		mustNotHold(t, name, chain.Pin(seed), e)
	}
	mustHold(t, "two faces", chain.Pin(seed), api.Evidence{Trunk: l[:2], A: l[2], B: side[0]})
}

// 12.1: one root twice is no evidence, whatever its signatures are.
func TestCheckOfTheSameRoot(t *testing.T) {
	seed := chance(1)
	for _, n := range []int{1, 4, 63} {
		e := double(seed, n)
		for i, s := range []api.Signed{e.A, e.B} {
			name := fmt.Sprintf("%d roots ahead, root %d", n, i)
			twice := api.Evidence{Trunk: e.Trunk, A: s, B: s}
			mustNotHold(t, name, chain.Pin(seed), twice)
			for what, sig := range map[string][]byte{
				"none":       nil,
				"the other":  exchanged(e).A.Sig,
				"noughts":    make([]byte, 16384),
				"key ahead":  lamport.Sign(seed, uint64(n), tags.RootBytes(s.Root)),
				"two bytes":  []byte("no"),
				"one longer": append(bytes.Clone(s.Sig), 0),
			} {
				twice.B.Sig = sig
				mustNotHold(t, name+", its signature "+what, chain.Pin(seed), twice)
			}
		}
	}
}

// 12.1: against another pin it does not hold.
func TestCheckOfAnotherPin(t *testing.T) {
	seed := chance(1)
	pin := chain.Pin(seed)
	pins := []api.Digest{{}, seed, chain.Pin(chance(2)), lamport.Public(seed, 0), lamport.Public(seed, 2)}
	for at := range 32 {
		other := pin
		other[at] ^= 1 << (at % 8)
		pins = append(pins, other)
	}
	for _, n := range []int{0, 1, 3} {
		e := double(seed, n)
		for i, other := range append(pins, lamport.Public(seed, uint64(n)+2), e.A.Root.Next, e.A.Root.Prev) {
			mustNotHold(t, fmt.Sprintf("%d roots ahead, pin %d", n, i), other, e)
		}
		mustHold(t, "its own", pin, e)
	}
	// A trunk that is left away does not lead to where it would.
	e := double(seed, 1)
	mustNotHold(t, "from epoch 2 on", lamport.Public(seed, 2), api.Evidence{A: e.A, B: e.B})
}

// oddRoots is signed roots that nobody signed, with numbers and signatures of many lengths.
func oddRoots(n int) (l []api.Signed) {
	epochs := []uint64{0, 1, 127, 128, 1<<14 - 1, 1 << 14, 1 << 32, 1 << 63, math.MaxUint64}
	sizes := []int{0, 1, 2, 30, 31, 32, 127, 128, 300}
	for i := range n {
		r := api.Root{Epoch: epochs[i%len(epochs)], Prev: chance(i), Tree: chance(3 * i), Next: chance(5 * i)}
		l = append(l, api.Signed{Root: r, Sig: bytes.Repeat([]byte{byte(i)}, sizes[i/2%len(sizes)])})
	}
	return l
}

// 12.2: whatever the roots are, there stand how many, and each one's bytes: those ahead in their order, A and B.
func TestBytes(t *testing.T) {
	l := oddRoots(300)
	for _, n := range []int{2, 3, 4, 10, 64, 65, 66, 127, 128, 129, 130, 300} {
		e := of(l[:n])
		b := Bytes(e)
		if !bytes.Equal(b, bytesOf(e)) {
			t.Errorf("%d roots: other bytes", n)
		}
		if bytes.Equal(b, Bytes(exchanged(e))) {
			t.Errorf("%d roots: A and B exchanged are the same bytes", n)
		}
		turned := api.Evidence{Trunk: slices.Clone(e.Trunk), A: e.A, B: e.B}
		slices.Reverse(turned.Trunk)
		if n > 3 && bytes.Equal(b, Bytes(turned)) {
			t.Errorf("%d roots: those ahead, turned round, are the same bytes", n)
		}
	}
	zero := texts(append(make([]byte, 97), 0), append(make([]byte, 97), 0))
	for i, e := range []api.Evidence{{}, {Trunk: []api.Signed{}}, {Trunk: l[:0]}} {
		if !bytes.Equal(Bytes(e), zero) {
			t.Errorf("no roots ahead, %d: %x", i, Bytes(e))
		}
	}
	for _, n := range []int{0, 1, 7} {
		if e := double(rising(), n); !bytes.Equal(Bytes(e), bytesOf(e)) {
			t.Errorf("a seed's, %d roots ahead: other bytes", n)
		}
	}
}

// 12.3: 2 to 65 texts may be evidence, fewer and more are none.
func TestReadOfHowMany(t *testing.T) {
	pin := chain.Pin(rising())
	l := oddRoots(4097)
	for n := range 140 {
		name := fmt.Sprintf("%d texts", n)
		b := texts(rootTexts(l[:n])...)
		if n < 2 || n > 65 {
			mustNotRead(t, name, pin, b)
			continue
		}
		mustRead(t, name, b, of(l[:n]))
		if got := Accept(pin, b); got != api.ErrBad {
			t.Errorf("%s: Accept: %v", name, got)
		}
	}
	for _, n := range []int{256, 258, 1000, 4095, 4096, 4097} {
		mustNotRead(t, fmt.Sprintf("%d texts", n), pin, texts(rootTexts(l[:n])...))
	}
	signed := all(double(rising(), 64))
	mustNotRead(t, "66 texts that a seed signed", pin, texts(rootTexts(signed)...))
	mustRead(t, "65 of them", texts(rootTexts(signed[1:])...), of(signed[1:]))
}

// 12.3: bytes that are no texts are no evidence.
func TestReadOfNoTexts(t *testing.T) {
	pin := chain.Pin(rising())
	b := bytesOf(of(oddRoots(3)))
	for name, b := range map[string][]byte{
		"none":                       nil,
		"without elements":           {},
		"0 texts":                    {0},
		"0 texts and one byte":       {0, 0},
		"2 texts, which are absent":  {2},
		"a number that does not end": bytes.Repeat([]byte{0x82}, 20),
		"a number too great":         slices.Concat(bytes.Repeat([]byte{0xff}, 9), []byte{2}),
		"how many in another form":   slices.Concat([]byte{0x83, 0}, b[1:]),
		"one fewer is told":          slices.Concat([]byte{2}, b[1:]),
		"one more is told":           slices.Concat([]byte{4}, b[1:]),
		"without how many":           b[1:],
		"a letter":                   []byte("R"),
		"a signed root alone":        rootText(oddRoots(1)[0]),
		"texts within a text":        texts(b),
		"noughts":                    make([]byte, 200),
	} {
		mustNotRead(t, name, pin, b)
	}
	mustRead(t, "as it was", b, of(oddRoots(3)))
}

// 12.3: bytes that are cut short anywhere, or have any byte behind them, are no evidence.
func TestReadOfCutBytes(t *testing.T) {
	pin := chain.Pin(rising())
	for _, n := range []int{2, 3, 9} {
		b := bytesOf(of(oddRoots(n)))
		for cut := range b {
			mustNotRead(t, fmt.Sprintf("%d roots, %d bytes", n, cut), pin, b[:cut])
		}
		for more := range 256 {
			mustNotRead(t, fmt.Sprintf("%d roots, and byte %d", n, more), pin, append(bytes.Clone(b), byte(more)))
		}
		mustNotRead(t, "twice", pin, append(bytes.Clone(b), b...))
	}
	e := double(rising(), 1)
	b := bytesOf(e)
	for _, cut := range []int{0, 1, 2, 16000, 16488, len(b) - 16487, len(b) - 16385, len(b) - 1} {
		mustNotRead(t, fmt.Sprintf("a seed's, %d bytes", cut), pin, b[:cut])
	}
	mustNotRead(t, "a seed's, and one more", pin, append(bytes.Clone(b), 0))
	mustHold(t, "a seed's", pin, e)
}

// 12.3: if the first, a middle or the last text is no signed root, there is no evidence, whatever the others are.
func TestReadOfTextsThatAreNoRoots(t *testing.T) {
	pin := chain.Pin(rising())
	for _, n := range []int{0, 1, 5} {
		right := rootTexts(all(double(rising(), n)))
		for at, text := range right {
			for name, other := range map[string][]byte{
				"empty":                    {},
				"a byte":                   {0},
				"a byte too short":         text[:len(text)-1],
				"without its first byte":   text[1:],
				"a byte too long":          append(bytes.Clone(text), 0),
				"without a signature":      text[:97],
				"an epoch of another form": slices.Concat([]byte{text[0] | 0x80, 0}, text[1:]),
				"two roots":                slices.Concat(text, text),
				"how long of another form": slices.Concat(text[:97], []byte{0x80, 0}),
				"a binding":                []byte("\x03ann\x01k\x01"),
			} {
				name = fmt.Sprintf("text %d of %d is no root: %s", at, n+2, name)
				l := slices.Clone(right)
				l[at] = other
				mustNotRead(t, name, pin, texts(l...))
			}
		}
	}
}

// 12.3, 4.2: a text of as many bytes as may be is read; of one more it is not.
func TestReadOfLongTexts(t *testing.T) {
	pin := chain.Pin(rising())
	const around = 1 + 3*32 + 3 // the epoch, three digests, how long the signature is
	for at := range 3 {
		l := oddRoots(3)
		l[at] = api.Signed{Root: api.Root{Epoch: 7}, Sig: make([]byte, 1<<20-around)}
		if got := len(rootText(l[at])); got != 1<<20 {
			t.Fatalf("a text of %d bytes", got)
		}
		mustRead(t, fmt.Sprintf("text %d", at), bytesOf(of(l)), of(l))
		l[at].Sig = make([]byte, 1<<20-around+1)
		mustNotRead(t, fmt.Sprintf("text %d, a byte more", at), pin, bytesOf(of(l)))
	}
}

// 12.3, 12.5: whichever byte is another one, what is read is another evidence, which is written as those bytes, or none is read; and it does not hold.
func TestReadOfBentBytes(t *testing.T) {
	seed := rising()
	pin := chain.Pin(seed)
	e := double(seed, 1)
	b := bytesOf(e)
	for at := 0; at < len(b); {
		b[at] ^= 1 << (at % 8)
		got, err := Read(b)
		switch {
		case err == api.OK && (sameEvidence(got, e) || !bytes.Equal(Bytes(got), b) || Accept(pin, b) != api.ErrBad):
			t.Errorf("byte %d: it is read as what it is not", at)
		case err != api.OK && (err != api.ErrCodec || !isZero(got) || Accept(pin, b) != api.ErrCodec):
			t.Errorf("byte %d: %v", at, err)
		}
		b[at] ^= 1 << (at % 8)
		at++
		if at%16487 > 120 { // all ahead of a signature, but not all of it
			at += 333
		}
	}
	mustHold(t, "as it was", pin, e)
}

// 12.3: Accept tells Read's error of bytes that are none, Check's of evidence that does not hold, and OK of such that does.
func TestAccept(t *testing.T) {
	seed := chance(1)
	pin := chain.Pin(seed)
	for _, n := range []int{0, 1, 3, 63} {
		e := double(seed, n)
		b := Bytes(e)
		twice := Bytes(api.Evidence{Trunk: e.Trunk, A: e.A, B: e.A})
		for i, c := range []struct {
			pin   api.Digest
			b     []byte
			asked api.Errno
		}{
			{pin, b, api.OK},
			{pin, Bytes(exchanged(e)), api.OK},
			{chance(3), b, api.ErrBad},
			{pin, twice, api.ErrBad},
			{pin, b[:len(b)-1], api.ErrCodec},
			{chance(3), b[:len(b)-1], api.ErrCodec},
			{pin, twice[:len(twice)-1], api.ErrCodec},
			{pin, append(bytes.Clone(b), 0), api.ErrCodec},
		} {
			if got := Accept(c.pin, c.b); got != c.asked {
				t.Errorf("%d roots ahead, %d: %v, want %v", n, i, got, c.asked)
			}
		}
	}
	for _, b := range [][]byte{nil, {}, {0}, {1}, {2}, {1, 0}, {2, 0, 0}} {
		mustNotRead(t, fmt.Sprintf("%x", b), pin, b)
	}
}

// bothFaces is two lists of a seed's roots, of n and of m, that part at a place.
func bothFaces(seed api.Digest, at, n, m int) (a, b []api.Signed) {
	trunk, heads := rootsOf(seed, begin(seed), trees(at)...)
	left, _ := rootsOf(seed, heads[at], trees(n)[at:]...)
	right, _ := rootsOf(seed, heads[at], trees(1000 + m)[1000+at:]...)
	return slices.Concat(trunk, left), slices.Concat(trunk, right)
}

// 12.4, 12.5: of lists that part at the first, a middle or the last place evidence is found; and which list is l says whose roots are A.
func TestFind(t *testing.T) {
	seed := chance(1)
	pin := chain.Pin(seed)
	for _, c := range []struct{ at, n, m int }{
		{0, 1, 1}, {0, 3, 3}, {0, 1, 4}, {0, 4, 1}, {1, 2, 2}, {2, 5, 5}, {4, 5, 5}, {3, 4, 6}, {3, 6, 4},
		{0, 64, 64}, {31, 64, 64}, {62, 64, 63}, {63, 64, 64}, {63, 65, 64}, {0, 70, 66},
	} {
		l, m := bothFaces(seed, c.at, c.n, c.m)
		name := fmt.Sprint(c)
		mustFind(t, name, pin, l, m, api.Evidence{Trunk: l[:c.at], A: l[c.at], B: m[c.at]})
		mustFind(t, name+", exchanged", pin, m, l, api.Evidence{Trunk: l[:c.at], A: m[c.at], B: l[c.at]})
	}
}

// 12.4, R2: of lists that part nowhere nothing is found.
func TestFindOfOneFace(t *testing.T) {
	seed := chance(1)
	pin := chain.Pin(seed)
	l, _ := rootsOf(seed, begin(seed), trees(64)...)
	for _, n := range []int{0, 1, 2, 5, 63, 64} {
		for _, m := range []int{0, 1, 2, 5, 63, 64} {
			mustNotFind(t, fmt.Sprintf("%d and %d of the same roots", n, m), pin, l[:n], copied(l[:m]))
		}
		mustNotFind(t, fmt.Sprintf("%d roots and nil", n), pin, l[:n], nil)
		mustNotFind(t, fmt.Sprintf("nil and %d roots", n), pin, nil, l[:n])
	}
	mustNotFind(t, "nil twice", pin, nil, nil)
	mustNotFind(t, "zeroes", pin, make([]api.Signed, 3), make([]api.Signed, 2))
	other, _ := rootsOf(seed, begin(seed), chance(200))
	mustNotFind(t, "a root that lies behind the length", pin, l[:0], other)
	mustNotFind(t, "a root that lies behind the length, exchanged", pin, other, l[:0])
}

// 12.4: of lists that part more than once the first place counts, though they come together again behind it.
func TestFindTheFirstPlace(t *testing.T) {
	seed := chance(1)
	pin := chain.Pin(seed)
	l, m := bothFaces(seed, 2, 6, 6)
	asked := api.Evidence{Trunk: l[:2], A: l[2], B: m[2]}
	mustFind(t, "all behind it unlike", pin, l, m, asked)
	mustFind(t, "together again", pin, l, slices.Concat(m[:3], l[3:]), asked)
	mustFind(t, "apart once more", pin, l, slices.Concat(m[:3], l[3:4], m[4:]), asked)
	other, _ := bothFaces(chance(2), 0, 6, 6)
	mustFind(t, "another seed's behind it", pin, slices.Concat(l[:3], other[3:]), m, asked)
	mustFind(t, "nothing behind it", pin, slices.Concat(l[:3], make([]api.Signed, 3)), m, asked)
	// At the first place they are no evidence: it does not matter that there would be one behind it.
	mustNotFind(t, "another seed's at the first place", pin, l, with(m, 0, other[0]))
	for name, spoiled := range spoils(l[1]) {
		if spoiled.Root != l[1].Root {
			mustNotFind(t, "ahead of it: "+name, pin, l, with(m, 1, spoiled))
			mustNotFind(t, "ahead of it, in the first list: "+name, pin, with(l, 1, spoiled), m)
		}
	}
}

// 12.4, R2: if the first list can't be followed up to the place, or one of both at it, nothing is found; it does not matter how the second one is signed ahead of it, nor what stands behind it.
func TestFindOfRootsThatCannotBeFollowed(t *testing.T) {
	seed := chance(1)
	pin := chain.Pin(seed)
	const at = 3
	l, m := bothFaces(seed, at, 5, 5)
	asked := api.Evidence{Trunk: l[:at], A: l[at], B: m[at]}
	for i := range l {
		for name, spoiled := range spoils(l[i]) {
			name = fmt.Sprintf("root %d of the first list, %s", i, name)
			switch {
			case i > at:
				mustFind(t, name, pin, with(l, i, spoiled), m, asked)
			default:
				mustNotFind(t, name, pin, with(l, i, spoiled), m)
			}
		}
		for name, spoiled := range spoils(m[i]) {
			name = fmt.Sprintf("root %d of the second list, %s", i, name)
			switch {
			case i > at || i < at && spoiled.Root == m[i].Root:
				mustFind(t, name, pin, l, with(m, i, spoiled), asked)
			default:
				mustNotFind(t, name, pin, l, with(m, i, spoiled))
			}
		}
	}
	mustFind(t, "as they were", pin, l, m, asked)
}

// 12.4: roots that are the same but for their signatures are no place where the lists part.
func TestFindOfUnlikeSignatures(t *testing.T) {
	seed := chance(1)
	l, heads := rootsOf(seed, begin(seed), trees(3)...)
	for at, s := range l {
		other := with(l, at, api.Signed{Root: s.Root, Sig: lamport.Sign(seed, 9, nil)})
		mustNotFind(t, fmt.Sprintf("root %d", at), chain.Pin(seed), l, other)
		mustNotFind(t, fmt.Sprintf("root %d, exchanged", at), chain.Pin(seed), other, l)
		more := append(slices.Clone(other), sealOf(seed, heads[3], chance(60)))
		longer := append(slices.Clone(l), sealOf(seed, heads[3], chance(61)))
		mustFind(t, fmt.Sprintf("root %d, and apart behind it", at), chain.Pin(seed), longer, more, api.Evidence{Trunk: l, A: longer[3], B: more[3]})
		mustNotFind(t, fmt.Sprintf("root %d, and apart behind it, exchanged", at), chain.Pin(seed), more, longer)
	}
}

// 12.4: against another pin, and past the last epoch, nothing is found.
func TestFindOfAnotherPin(t *testing.T) {
	seed := chance(1)
	l, m := bothFaces(seed, 1, 3, 3)
	for i, pin := range []api.Digest{{}, seed, chain.Pin(chance(2)), lamport.Public(seed, 2), lamport.Public(seed, 3)} {
		mustNotFind(t, fmt.Sprintf("pin %d", i), pin, l, m)
		mustNotFind(t, fmt.Sprintf("pin %d, exchanged", i), pin, m, l)
	}
	mustNotFind(t, "without the first root", chain.Pin(seed), l[1:], m[1:])
	other, _ := rootsOf(chance(2), begin(chance(2)), trees(3)...)
	mustNotFind(t, "two seeds'", chain.Pin(seed), l, other)
	mustNotFind(t, "two seeds', exchanged", chain.Pin(seed), other, l)
	for _, at := range []int{64, 65} {
		l, m = bothFaces(seed, at, at+1, at+2)
		mustNotFind(t, fmt.Sprintf("epoch %d", at+1), chain.Pin(seed), l, m)
	}
}

// 12.5: two lists that hand over from one seed's keys to others' and part somewhere come to evidence, too.
func TestFindOverSeeds(t *testing.T) {
	const at, many = 2, 5
	var lists [2][]api.Signed
	for side := range lists {
		h, key := begin(chance(0)), chance(0)
		for i := range many {
			next := chance(i + 1)
			if i >= at {
				next = chance(100*side + i + 1)
			}
			s := by(key, 1, api.Root{Epoch: uint64(i) + 1, Prev: h.Root, Tree: chance(7), Next: chain.Pin(next)})
			lists[side] = append(lists[side], s)
			h, key = headOf(s.Root), next
		}
		if _, n, err := chain.Walk(begin(chance(0)), lists[side]); n != many || err != api.OK {
			t.Fatalf("list %d: %d, %v", side, n, err)
		}
	}
	l, m := lists[0], lists[1]
	mustFind(t, "five seeds", chain.Pin(chance(0)), l, m, api.Evidence{Trunk: l[:at], A: l[at], B: m[at]})
}

// 12.5: evidence is read as what was written, whether or not it holds.
func TestReadAsWritten(t *testing.T) {
	l := oddRoots(200)
	for _, n := range []int{2, 3, 4, 33, 64, 65} {
		for from := 0; from+n <= len(l); from += 19 {
			mustRead(t, fmt.Sprintf("%d roots from %d on", n, from), Bytes(of(l[from:from+n])), of(l[from:from+n]))
		}
	}
	mustRead(t, "without anything", Bytes(api.Evidence{}), api.Evidence{})
	for _, n := range []int{0, 1, 2, 30, 63} {
		e := double(chance(4), n)
		mustRead(t, fmt.Sprintf("a seed's, %d roots ahead", n), Bytes(e), e)
	}
}

// 12.6: of the roots of a seed that signed one root alone of each epoch no two are evidence, whichever stand ahead; nor are they with another one's.
func TestTheHonestAreSafe(t *testing.T) {
	seed := chance(1)
	pin := chain.Pin(seed)
	l, _ := rootsOf(seed, begin(seed), trees(4)...)
	other, _ := rootsOf(chance(2), begin(chance(2)), trees(4)...)
	for ahead := range len(l) + 1 {
		for i, a := range l {
			for k, b := range l {
				name := fmt.Sprintf("%d ahead, roots %d and %d", ahead, i, k)
				mustNotHold(t, name, pin, api.Evidence{Trunk: l[:ahead], A: a, B: b})
				mustNotHold(t, name+" with the other's signature", pin, api.Evidence{Trunk: l[:ahead], A: a, B: api.Signed{Root: b.Root, Sig: a.Sig}})
				mustNotHold(t, name+" of another seed", pin, api.Evidence{Trunk: l[:ahead], A: a, B: other[k]})
			}
		}
	}
	for n := range len(l) + 1 {
		mustNotFind(t, fmt.Sprintf("the first %d", n), pin, l, l[:n])
		mustNotFind(t, fmt.Sprintf("but %d", n), pin, l, l[n:])
	}
}

// 12.6: of all 64 epochs, too.
func TestTheHonestAreSafeInAllEpochs(t *testing.T) {
	seed := chance(1)
	l, _ := rootsOf(seed, begin(seed), trees(64)...)
	for ahead := 0; ahead < 64; ahead += 7 {
		e := api.Evidence{Trunk: l[:ahead], A: l[ahead], B: l[(ahead+1)%64]}
		mustNotHold(t, fmt.Sprintf("%d ahead", ahead), chain.Pin(seed), e)
	}
}

// forged is a signature of a root made of what those of others tell: of each bit a part, if one of them tells it.
func forged(r api.Root, told ...api.Signed) api.Signed {
	sig := make([]byte, 16384)
	bits := sha256.Sum256(tags.RootBytes(r))
	for _, s := range told {
		have := sha256.Sum256(tags.RootBytes(s.Root))
		for bit := range 256 {
			part, want := sig[64*bit:64*bit+64], bits[bit/8]>>(7-bit%8)&1
			if have[bit/8]>>(7-bit%8)&1 == want {
				copy(part, s.Sig[64*bit:64*bit+64])
			} else if bytes.Equal(part, make([]byte, 64)) { // the digest of the part that is missing stands in its place
				opened := sha256.Sum256(s.Sig[64*bit : 64*bit+32])
				copy(part, s.Sig[64*bit+32:64*bit+64])
				copy(part[32:], opened[:])
			}
		}
	}
	return api.Signed{Root: r, Sig: sig}
}

// 12.6: what one root of each epoch tells is not enough to sign another one: a forger has no evidence against the honest.
func TestForgersHaveNoEvidence(t *testing.T) {
	seed := chance(1)
	l, heads := rootsOf(seed, begin(seed), trees(4)...)
	for at := range l {
		for i := range 20 {
			r := l[at].Root
			r.Tree = chance(500 + i)
			name := fmt.Sprintf("epoch %d, forged root %d", at+1, i)
			mustNotHold(t, name, chain.Pin(seed), api.Evidence{Trunk: l[:at], A: l[at], B: forged(r, l[at])})
			mustNotHold(t, name+", of all roots", chain.Pin(seed), api.Evidence{Trunk: l[:at], A: l[at], B: forged(r, l...)})
		}
		if got := forged(l[at].Root, l[at]); !same(got, l[at]) {
			t.Errorf("epoch %d: its own root is not forged", at+1)
		}
	}
	// Who signs many roots of an epoch tells nearly all parts: there a forger gets by, and there is evidence already.
	var told []api.Signed
	for i := range 40 {
		told = append(told, sealOf(seed, heads[2], chance(700+i)))
	}
	r := told[0].Root
	r.Tree = chance(800)
	mustHold(t, "of forty roots", chain.Pin(seed), api.Evidence{Trunk: l[:2], A: told[0], B: forged(r, told...)})
}

// untold finds in evidence against a seed that signed those roots alone a text whose digest is that of a part that none of them told.
func untold(seed api.Digest, signed []api.Signed, e api.Evidence) bool {
	for i, s := range all(e) {
		epoch := min(i, len(e.Trunk))
		if s.Root == signed[epoch].Root {
			continue
		}
		key := uint64(epoch) + 1
		opened, err := lamport.Opened(tags.RootBytes(s.Root), s.Sig)
		if err != api.OK || !bytes.Equal(opened, lamport.Text(seed, key)) {
			return false
		}
		has, had := sha256.Sum256(tags.RootBytes(s.Root)), sha256.Sum256(tags.RootBytes(signed[epoch].Root))
		for bit := range 256 {
			side := int(has[bit/8] >> (7 - bit%8) & 1)
			part := tags.KeyOf(seed, key, bit, side)
			if side != int(had[bit/8]>>(7-bit%8)&1) {
				return sha256.Sum256(s.Sig[64*bit:64*bit+32]) == sha256.Sum256(part[:])
			}
		}
	}
	return false
}

// 12.6, P4: evidence against an honest seed, as who stole it would make it, tells a part that the seed did not tell: in A, in B, or in a root ahead.
func TestEvidenceAgainstTheHonestTellsAPart(t *testing.T) {
	seed := chance(1)
	pin := chain.Pin(seed)
	l, heads := rootsOf(seed, begin(seed), trees(5)...)
	for at := range l {
		stolen, _ := rootsOf(seed, heads[at], chance(900), chance(901), chance(902))
		another := sealOf(seed, heads[at], chance(903))
		for name, e := range map[string]api.Evidence{
			"B is not the seed's":       {Trunk: l[:at], A: l[at], B: stolen[0]},
			"A is not the seed's":       {Trunk: l[:at], A: stolen[0], B: l[at]},
			"neither is the seed's":     {Trunk: l[:at], A: another, B: stolen[0]},
			"the trunk is not, at last": {Trunk: slices.Concat(l[:at], stolen[:1]), A: stolen[1], B: sealOf(seed, headOf(stolen[0].Root), chance(904))},
			"the trunk is not":          {Trunk: slices.Concat(l[:at], stolen[:2]), A: stolen[2], B: sealOf(seed, headOf(stolen[1].Root), chance(905))},
		} {
			name = fmt.Sprintf("epoch %d: %s", at+1, name)
			if len(e.Trunk) >= len(l) {
				continue
			}
			mustHold(t, name, pin, e)
			if !untold(seed, l, e) {
				t.Errorf("%s: it tells no part that was not told", name)
			}
		}
		if untold(seed, l, api.Evidence{Trunk: l[:at], A: l[at], B: l[at]}) {
			t.Errorf("epoch %d: the seed's own root tells a part that it did not tell", at+1)
		}
	}
}

// roomy is roots in memory that has more of them behind the list's length, each signature with bytes behind its length.
func roomy(l []api.Signed) (list, whole []api.Signed) {
	for _, s := range l {
		sig := append(bytes.Clone(s.Sig), "behind it"...)
		whole = append(whole, api.Signed{Root: s.Root, Sig: sig[:len(s.Sig)]})
	}
	whole = append(whole, api.Signed{Root: api.Root{Epoch: 77}, Sig: []byte("none")}, api.Signed{})
	return whole[:len(l)], whole
}

// R3: what is handed in stays as it was, and what lies behind its length is neither read nor written.
func TestHandedInStays(t *testing.T) {
	seed := chance(1)
	pin := chain.Pin(seed)
	left, right := bothFaces(seed, 2, 4, 3)
	l, wholeL := roomy(left)
	m, wholeM := roomy(right)
	wasL, wasM := copied(wholeL), copied(wholeM)
	mustFind(t, "both", pin, l, m, api.Evidence{Trunk: left[:2], A: left[2], B: right[2]})
	mustFind(t, "up to the place", pin, l[:3], m[:3], api.Evidence{Trunk: left[:2], A: left[2], B: right[2]})
	mustNotFind(t, "up to the place, which lies there", pin, l[:2], m)
	mustNotFind(t, "up to the place, which lies there, exchanged", pin, m, l[:2])
	mustNotFind(t, "another pin", chance(9), l, m)
	mustHold(t, "as they are", pin, api.Evidence{Trunk: l[:2], A: l[2], B: m[2]})
	mustNotHold(t, "a root ahead that lies there", pin, api.Evidence{Trunk: l[:1], A: l[2], B: m[2]})
	mustNotHold(t, "a byte that lies there", pin, api.Evidence{Trunk: l[:2], A: l[2], B: api.Signed{Root: m[2].Root, Sig: m[2].Sig[:16383]}})
	if e := (api.Evidence{Trunk: l[:2], A: l[2], B: m[2]}); !bytes.Equal(Bytes(e), bytesOf(e)) {
		t.Error("other bytes")
	}
	for i, s := range slices.Concat(wholeL, wholeM) {
		if !same(s, slices.Concat(wasL, wasM)[i]) {
			t.Errorf("root %d is another one", i)
		}
		if len(s.Sig) == 16384 && string(s.Sig[16384:16393]) != "behind it" {
			t.Errorf("root %d: what lies behind its signature is another thing", i)
		}
	}
	b := append(bytesOf(of(left)), "behind it"...)
	was := bytes.Clone(b)
	b = b[:len(b)-len("behind it")]
	mustRead(t, "bytes with others behind them", b, of(left))
	mustNotRead(t, "a byte of them too few", pin, b[:len(b)-1])
	if !bytes.Equal(b[:len(was)], was) {
		t.Error("the bytes are others")
	}
}

// spoil writes over all memory of evidence, behind its lists' lengths, too.
func spoil(e api.Evidence) {
	for _, s := range slices.Concat(e.Trunk[:cap(e.Trunk)], []api.Signed{e.A, e.B}) {
		for i := range s.Sig[:cap(s.Sig)] {
			s.Sig[:cap(s.Sig)][i] ^= 0x55
		}
	}
	clear(e.Trunk[:cap(e.Trunk)])
}

// R3: what is told is new memory, behind which nothing of what was handed in lies.
func TestNewMemory(t *testing.T) {
	seed := chance(1)
	pin := chain.Pin(seed)
	left, right := bothFaces(seed, 2, 4, 4)
	l, m := copied(left), copied(right)
	asked := api.Evidence{Trunk: left[:2], A: left[2], B: right[2]}
	first, _ := Find(pin, l, m)
	second, _ := Find(pin, l, m)
	for i, s := range first.Trunk[:cap(first.Trunk)] {
		if i >= len(first.Trunk) && !same(s, api.Signed{}) {
			t.Errorf("behind the roots ahead lies root %d", i)
		}
	}
	spoil(first)
	b := Bytes(second)
	other := Bytes(second)
	read, _ := Read(b)
	again, _ := Read(b)
	spoil(read)
	clear(b[:cap(b)])
	if !bytes.Equal(other, bytesOf(asked)) || !sameEvidence(second, asked) || !sameEvidence(again, asked) {
		t.Error("what was told is another thing, as what was told beside it was written over")
	}
	spoil(api.Evidence{Trunk: l, A: m[2], B: m[3]})
	if !sameEvidence(second, asked) {
		t.Error("what was found is another thing, as the lists were written over")
	}
	mustFind(t, "once more", pin, left, right, asked)
}

// R3: no two lists of one answer share memory.
func TestNoSharedMemory(t *testing.T) {
	s := sealOf(rising(), begin(rising()), chance(1))
	one := api.Evidence{Trunk: []api.Signed{s, s, s}, A: s, B: s}
	for at := range 5 {
		got, err := Read(Bytes(one))
		if err != api.OK {
			t.Fatal(err)
		}
		clear(all(got)[at].Sig[:cap(all(got)[at].Sig)])
		for i, has := range all(got) {
			if i != at && !same(has, s) {
				t.Errorf("root %d is another one, as root %d was written over", i, at)
			}
		}
	}
}

// P7: the same is told again, whatever was asked for between; and of an error nothing stays.
func TestAlike(t *testing.T) {
	seed := rising()
	pin := chain.Pin(seed)
	l, m := bothFaces(seed, 1, 3, 3)
	asked := api.Evidence{Trunk: l[:1], A: l[1], B: m[1]}
	b := bytesOf(asked)
	for range 3 {
		mustFind(t, "both", pin, l, m, asked)
		mustNotFind(t, "another pin", chance(9), l, m)
		mustNotHold(t, "another pin", chance(9), asked)
		mustNotFind(t, "the same", pin, l, l)
		mustNotRead(t, "cut", pin, b[:len(b)-1])
		mustRead(t, "whole", b, asked)
		mustHold(t, "as it was", pin, asked)
	}
}

// P1: no call panics, whatever it is given.
func TestNoPanic(t *testing.T) {
	odd := oddRoots(70)
	for n := range 70 {
		for _, e := range []api.Evidence{{Trunk: odd[:n]}, {Trunk: odd[:n], A: odd[n]}, {Trunk: odd[:n], B: odd[n]}, {Trunk: make([]api.Signed, n), A: odd[n]}} {
			if got := Check(api.Digest{}, e); got != api.ErrBad {
				t.Errorf("%d roots ahead: %v", n, got)
			}
			if !bytes.Equal(Bytes(e), bytesOf(e)) {
				t.Errorf("%d roots ahead: other bytes", n)
			}
		}
		mustNotFind(t, fmt.Sprintf("%d and others", n), api.Digest{}, odd[:n], odd[n:])
		mustNotFind(t, fmt.Sprintf("%d and zeroes", n), api.Digest{}, odd[:n], make([]api.Signed, n))
	}
	for size := range 300 {
		for _, fill := range []byte{0, 1, 2, 65, 97, 98, 0x7f, 0x80, 0xff} {
			b := bytes.Repeat([]byte{fill}, size)
			if got, err := Read(b); err == api.OK && !bytes.Equal(Bytes(got), b) || err != api.OK && !isZero(got) {
				t.Errorf("%d bytes %d: %v", size, fill, err)
			}
		}
	}
}
