package chain

import (
	"bytes"
	"crypto/sha256"
	"encoding/binary"
	"encoding/hex"
	"fmt"
	"math"
	"slices"
	"strconv"
	"testing"

	"blazon/api"
	"blazon/lamport"
	"blazon/tags"
)

// chance is a digest that is like chance, but the same one each time.
func chance(i int) api.Digest {
	return sha256.Sum256([]byte(strconv.Itoa(i)))
}

// rising is 32 bytes, each one greater than the one ahead.
func rising() (d api.Digest) {
	for i := range d {
		d[i] = byte(i)
	}
	return d
}

// seeds is some of several sorts.
func seeds() []api.Digest {
	return []api.Digest{{}, {9}, {31: 1}, rising(), chance(1), api.Digest(bytes.Repeat([]byte{0xff}, 32))}
}

// going is epochs behind which there is one more; done is those behind which there is none.
func going() []uint64 { return []uint64{0, 1, 2, 31, 32, 61, 62, 63} }
func done() []uint64 {
	return []uint64{64, 65, 66, 127, 128, 255, 256, 1 << 31, 1 << 32, 1<<32 + 1, 1 << 63, 1<<63 + 5, math.MaxUint64 - 1, math.MaxUint64}
}

// textOf is what is hashed of a root, as 3.2 says it, by the library.
func textOf(r api.Root) []byte {
	b := binary.BigEndian.AppendUint64([]byte("R"), r.Epoch)
	return slices.Concat(b, r.Prev[:], r.Tree[:], r.Next[:])
}

// headOf is the head behind a root, as 'Words' says it.
func headOf(r api.Root) api.Head {
	return api.Head{Epoch: r.Epoch, Root: sha256.Sum256(textOf(r)), Key: r.Next}
}

// by is a root with its signature by a key.
func by(seed api.Digest, key uint64, r api.Root) api.Signed {
	return api.Signed{Root: r, Sig: lamport.Sign(seed, key, textOf(r))}
}

// sealOf is 11.2, word by word, of a head that is not at the last epoch.
func sealOf(seed api.Digest, h api.Head, tree api.Digest) api.Signed {
	epoch := h.Epoch + 1
	return by(seed, epoch, api.Root{Epoch: epoch, Prev: h.Root, Tree: tree, Next: lamport.Public(seed, epoch+1)})
}

// rootsOf is a seed's roots from a head on, one of each tree, word by word; and the heads: where they begin, and behind each.
func rootsOf(seed api.Digest, h api.Head, trees ...api.Digest) (l []api.Signed, heads []api.Head) {
	heads = append(heads, h)
	for _, tree := range trees {
		s := sealOf(seed, h, tree)
		h = headOf(s.Root)
		l, heads = append(l, s), append(heads, h)
	}
	return l, heads
}

// begin is where a seed's roots begin, as 11.1 says it.
func begin(seed api.Digest) api.Head {
	return api.Head{Epoch: 0, Root: api.Digest{}, Key: lamport.Public(seed, 1)}
}

// trees is n digests, all unlike.
func trees(n int) (l []api.Digest) {
	for i := range n {
		l = append(l, chance(i+1))
	}
	return l
}

// same tells whether two signed roots are.
func same(a, b api.Signed) bool {
	return a.Root == b.Root && bytes.Equal(a.Sig, b.Sig)
}

// copied is signed roots in other memory.
func copied(l []api.Signed) (out []api.Signed) {
	for _, s := range l {
		out = append(out, api.Signed{Root: s.Root, Sig: bytes.Clone(s.Sig)})
	}
	return out
}

// mustSeal is of what Seal must tell without an error.
func mustSeal(t *testing.T, name string, seed api.Digest, h api.Head, tree api.Digest) api.Signed {
	t.Helper()
	s, e := Seal(seed, h, tree)
	if e != api.OK {
		t.Fatalf("%s: %v", name, e)
	}
	return s
}

// mustFollow is of a root that must be followed, to that head.
func mustFollow(t *testing.T, name string, h api.Head, s api.Signed, asked api.Head) {
	t.Helper()
	if got, e := Follow(h, s); e != api.OK || got != asked {
		t.Errorf("%s: %v, %v, want %v", name, got, e, asked)
	}
}

// mustRefuse is of a root that can't be followed: nothing is told beside the error.
func mustRefuse(t *testing.T, name string, h api.Head, s api.Signed, asked api.Errno) {
	t.Helper()
	if got, e := Follow(h, s); e != asked || got != (api.Head{}) {
		t.Errorf("%s: %v, %v, want %v", name, got, e, asked)
	}
}

// mustWalk is of roots of which Walk must tell that.
func mustWalk(t *testing.T, name string, h api.Head, l []api.Signed, asked api.Head, many int, err api.Errno) {
	t.Helper()
	if got, n, e := Walk(h, l); got != asked || n != many || e != err {
		t.Errorf("%s: %v, %d, %v; want %v, %d, %v", name, got, n, e, asked, many, err)
	}
}

// 11.3: the chapter's examples.
func TestExamples(t *testing.T) {
	seed := api.Digest{9}
	h := Start(Pin(seed))
	mustRefuse(t, "epoch 2", h, by(seed, 1, api.Root{Epoch: 2}), api.ErrEpoch)
	mustRefuse(t, "epoch 2, without a signature", h, api.Signed{Root: api.Root{Epoch: 2}}, api.ErrEpoch)
	mustRefuse(t, "epoch 1, without a signature", h, api.Signed{Root: api.Root{Epoch: 1}}, api.ErrBad)
	mustFollow(t, "epoch 1", h, by(seed, 1, api.Root{Epoch: 1}), headOf(api.Root{Epoch: 1}))
}

// knownRoot is what another program worked out of an epoch: its root's digest, the key that it names, the digest of its signature.
type knownRoot struct {
	epoch           uint64
	root, next, sig string
}

// knownRoots is such epochs of a seed whose trees are chance(1), chance(2) and so on, and its pin.
func knownRoots(seed api.Digest) (pin string, l []knownRoot) {
	if seed == rising() {
		return "2871e8a8ba3238d3db31bb693a3758bbccb4f394452bdc5a540c6b3c902a27df", []knownRoot{
			{1, "98c0a4d34a9c90f0d3dc15cfc9e47b1ac884fd532374ef8ab1af309f6311836a", "bd8e0a8780466b21dcd1674ff41f6291c19440146d57a623b7201161c22a9f0b", "1db9d3a6c5b49e4b2c4ba3e63dc59d784030c0a2d6b4bb762f4b90adfebc0ead"},
			{2, "3a5c50847f4e66a9743374af1313fb89beffbb33c397196197cd5fd3d71070dd", "82c68a990d3651c4fc1c6ccc4ebcb4216812a10aa9102b6eb9524d77c2a26de0", "36565a43799552ed46505e5405fc6a2c20789a82221c74e80a36db762fc2ecd5"},
			{64, "fd0435e85c6c0151fd4e09c47b036cf2422c502569d5dd9f6c40b3a8a40bb39a", "b14771f01168c4aa16718f53d278a5f57c86141d300cff81e3eb2f5ec3403009", "1d52ae411a9281445a5a4a9cd1af012ed4fe1c283793cac42b15c7b5ed5f3f33"},
		}
	}
	return "64cd17d68320952c06e8334178be4e1cce3b77829d91733cb9c33fadd59511c1", []knownRoot{
		{1, "165755246361d2d8f2728ff40a841dd328a4261be2a8cb258a9c194d2904d880", "3af308aca4bd9eaaa953b8b840f74cf2cac64e84692d328e8246feebfe8f3299", "39cb6fa7d57f84036fa6e05c7f3fba6fd38c48fd3bad747a4678c553408c7667"},
		{2, "5a919391b72b643f3e18026ad356f69aea0f82403cd5aa804d2b3e2e9f67999a", "d6c62cae56e5c360e0d8d3baecab962071dd9e3bea68eee7a3712e69063064f0", "34fcc2c9ebbc0ccea19fa2d8bccf35a2fcf5e59d80966d36a9dbd23992307e77"},
		{64, "7ba0edbb1acfa34086336d817576800fd752b00e83e49d38de2c00467b456324", "68a8d2a2a6f14ee0e27e17ebc0259efb26e84f3c56c1934e51f8a4a9764811a8", "f8bcd49e623262b4d0b739b56b1c2c21547e8dbca75be598294750d89dc02b83"},
	}
}

// 11.1, 11.2, 11.3, 11.5: a seed's epochs, sealed and followed from Pin on to the last one, are those that another program worked out.
func TestKnownDigests(t *testing.T) {
	for _, seed := range []api.Digest{{9}, rising()} {
		pin, known := knownRoots(seed)
		if got := Pin(seed); hex.EncodeToString(got[:]) != pin {
			t.Errorf("the pin of %x is %x, want %s", seed, got, pin)
		}
		h := Start(Pin(seed))
		for _, tree := range trees(64) {
			s := mustSeal(t, "known", seed, h, tree)
			next, e := Follow(h, s)
			if e != api.OK {
				t.Fatalf("epoch %d: %v", s.Root.Epoch, e)
			}
			h = next
			sig := sha256.Sum256(s.Sig)
			got := knownRoot{h.Epoch, hex.EncodeToString(h.Root[:]), hex.EncodeToString(h.Key[:]), hex.EncodeToString(sig[:])}
			if at := slices.IndexFunc(known, func(k knownRoot) bool { return k.epoch == h.Epoch }); at >= 0 && got != known[at] {
				t.Errorf("%x: %v, want %v", seed, got, known[at])
			}
		}
		if h.Epoch != 64 {
			t.Errorf("%x: ends at epoch %d", seed, h.Epoch)
		}
	}
}

// 11.1: a pin is the digest of a seed's key 1, and of no other one.
func TestPin(t *testing.T) {
	pins := map[api.Digest]api.Digest{}
	for _, seed := range seeds() {
		pin := Pin(seed)
		if pin != lamport.Public(seed, 1) || pin == lamport.Public(seed, 0) || pin == lamport.Public(seed, 2) {
			t.Errorf("the pin of %x is %x", seed, pin)
		}
		if other, ok := pins[pin]; ok {
			t.Errorf("one pin: %x, %x", seed, other)
		}
		pins[pin] = seed
	}
}

// 11.1: Start is epoch 0, root zero, and the pin as key, whatever the pin is.
func TestStart(t *testing.T) {
	for _, pin := range append(seeds(), Pin(api.Digest{9})) {
		h := Start(pin)
		if h.Epoch != 0 || h.Root != (api.Digest{}) || h.Key != pin {
			t.Errorf("of %x: %v", pin, h)
		}
	}
}

// 11.2: each field of the root, and its signature, at the first epochs, at the last ones, and between; whichever root the head has.
func TestSeal(t *testing.T) {
	for i, seed := range seeds() {
		for k, epoch := range going() {
			name := fmt.Sprintf("seed %d, behind epoch %d", i, epoch)
			h := api.Head{Epoch: epoch, Root: chance(i), Key: lamport.Public(seed, epoch+1)}
			if k%2 == 0 {
				h.Root = api.Digest{}
			}
			tree := chance(100 + k)
			s := mustSeal(t, name, seed, h, tree)
			if s.Root.Epoch != epoch+1 || s.Root.Prev != h.Root || s.Root.Tree != tree || s.Root.Next != lamport.Public(seed, epoch+2) {
				t.Errorf("%s: %v", name, s.Root)
			}
			if !same(s, sealOf(seed, h, tree)) || len(s.Sig) != 16384 {
				t.Errorf("%s: another signature, of %d bytes", name, len(s.Sig))
			}
			if e := lamport.Check(lamport.Public(seed, epoch+1), tags.RootBytes(s.Root), s.Sig); e != api.OK {
				t.Errorf("%s: not signed by the epoch's key: %v", name, e)
			}
		}
	}
}

// 11.2: any tree may be sealed: the digest of an empty one, noughts, the root ahead.
func TestSealOfAnyTree(t *testing.T) {
	seed := chance(1)
	h := api.Head{Epoch: 4, Root: chance(2), Key: lamport.Public(seed, 5)}
	for _, tree := range []api.Digest{{}, {1}, {31: 1}, tags.Of(tags.EmptyBytes()), h.Root, h.Key, seed} {
		s := mustSeal(t, fmt.Sprintf("tree %x", tree), seed, h, tree)
		if !same(s, sealOf(seed, h, tree)) || s.Root.Tree != tree {
			t.Errorf("tree %x: %v", tree, s.Root)
		}
	}
}

// 11.2: a head's key is not looked at: a root is sealed though nobody could follow it.
func TestSealByAnyHead(t *testing.T) {
	seed := rising()
	for _, key := range []api.Digest{{}, lamport.Public(seed, 3), lamport.Public(seed, 2), chance(5)} {
		h := api.Head{Epoch: 2, Root: chance(3), Key: key}
		s := mustSeal(t, "by another key", seed, h, chance(4))
		if !same(s, sealOf(seed, h, chance(4))) {
			t.Errorf("key %x: %v", key, s.Root)
		}
		if key == lamport.Public(seed, 3) {
			mustFollow(t, "by its own key", h, s, headOf(s.Root))
			continue
		}
		mustRefuse(t, "by another key", h, s, api.ErrBad)
	}
}

// 11.2, R2: behind the last epoch there is ErrSpent, and nothing beside it; ahead of it there is not.
func TestSealSpent(t *testing.T) {
	for _, seed := range seeds() {
		for _, epoch := range done() {
			for _, h := range []api.Head{{Epoch: epoch}, {Epoch: epoch, Root: chance(1), Key: lamport.Public(seed, epoch+1)}} {
				if s, e := Seal(seed, h, chance(2)); e != api.ErrSpent || s.Root != (api.Root{}) || len(s.Sig) > 0 {
					t.Errorf("epoch %d: %v, %d bytes, %v", epoch, s.Root, len(s.Sig), e)
				}
			}
		}
	}
	for _, epoch := range []uint64{62, 63} {
		if _, e := Seal(rising(), api.Head{Epoch: epoch}, chance(2)); e != api.OK {
			t.Errorf("epoch %d: %v", epoch, e)
		}
	}
}

// 11.3: a root that is right leads to its own epoch, digest and key; whichever key the head names signs it, and whichever one it names signs the next.
func TestFollow(t *testing.T) {
	for i, seed := range seeds() {
		for k, epoch := range going() {
			key := []uint64{epoch + 1, 0, 7, math.MaxUint64}[k%4]
			h := api.Head{Epoch: epoch, Root: chance(k), Key: lamport.Public(seed, key)}
			for _, r := range []api.Root{
				{Epoch: epoch + 1, Prev: h.Root},
				{Epoch: epoch + 1, Prev: h.Root, Tree: chance(i), Next: lamport.Public(seed, epoch+2)},
				{Epoch: epoch + 1, Prev: h.Root, Tree: h.Root, Next: h.Key},
			} {
				mustFollow(t, fmt.Sprintf("seed %d, behind epoch %d", i, epoch), h, by(seed, key, r), headOf(r))
			}
		}
	}
}

// 11.3: whatever signature leads to the key that a head names is taken: nobody need know a seed.
func TestFollowWithoutSeed(t *testing.T) {
	s := api.Signed{Root: api.Root{Epoch: 1, Tree: chance(1), Next: chance(2)}, Sig: make([]byte, api.SigBytes)}
	text, e := lamport.Opened(textOf(s.Root), s.Sig)
	if e != api.OK {
		t.Fatal(e)
	}
	mustFollow(t, "noughts as a signature", Start(tags.Of(text)), s, headOf(s.Root))
	mustRefuse(t, "noughts by another key", Start(chance(1)), s, api.ErrBad)
}

// 11.3, R6: an epoch that is not one more is ErrEpoch, though all else is right, and though nothing is.
func TestFollowOfAnotherEpoch(t *testing.T) {
	seed := rising()
	epochs := append(going(), done()...)
	for _, have := range epochs {
		h := api.Head{Epoch: have, Root: chance(1), Key: lamport.Public(seed, 1)}
		for _, epoch := range append([]uint64{have - 2, have - 1, have, have + 1, have + 2, have + 3, have + 256, have + 1<<32, have + 1<<63}, epochs...) {
			name := fmt.Sprintf("behind epoch %d, epoch %d", have, epoch)
			r := api.Root{Epoch: epoch, Prev: h.Root, Tree: chance(2), Next: chance(3)}
			if have < 64 && epoch == have+1 {
				mustFollow(t, name, h, by(seed, 1, r), headOf(r))
				mustRefuse(t, name+", without a signature", h, api.Signed{Root: r}, api.ErrBad)
				continue
			}
			mustRefuse(t, name, h, by(seed, 1, r), api.ErrEpoch)
			mustRefuse(t, name+", without a signature", h, api.Signed{Root: r}, api.ErrEpoch)
			r.Prev = chance(4)
			mustRefuse(t, name+", of another one ahead", h, api.Signed{Root: r, Sig: []byte("none")}, api.ErrEpoch)
		}
	}
}

// 11.3: behind the last epoch nothing is followed, though the epoch be one more, or 0 behind the greatest number.
func TestFollowPastTheEnd(t *testing.T) {
	seed := chance(1)
	l, heads := rootsOf(seed, begin(seed), trees(64)...)
	last := heads[64]
	mustFollow(t, "the last one", heads[63], l[63], last)
	mustRefuse(t, "one past the last", last, sealOf(seed, last, chance(1)), api.ErrEpoch)
	for _, epoch := range done() {
		h := api.Head{Epoch: epoch, Root: last.Root, Key: last.Key}
		r := api.Root{Epoch: epoch + 1, Prev: h.Root, Tree: chance(1), Next: chance(2)}
		mustRefuse(t, fmt.Sprintf("behind epoch %d", epoch), h, by(seed, 65, r), api.ErrEpoch)
	}
}

// flipped is a digest with one bit of one byte another one.
func flipped(d api.Digest, at int) api.Digest {
	d[at] ^= 1 << (at % 8)
	return d
}

// 11.3: a root whose Prev is any other one is ErrBad, though it be signed.
func TestFollowOfAnotherPrev(t *testing.T) {
	seed := rising()
	for _, h := range []api.Head{begin(seed), {Epoch: 5, Root: chance(5), Key: lamport.Public(seed, 6)}} {
		r := sealOf(seed, h, chance(1)).Root
		prevs := []api.Digest{chance(9), h.Key, r.Tree, r.Next, headOf(r).Root}
		for at := range 32 {
			prevs = append(prevs, flipped(h.Root, at))
		}
		for _, prev := range prevs {
			r.Prev = prev
			mustRefuse(t, fmt.Sprintf("Prev %x", prev), h, by(seed, r.Epoch, r), api.ErrBad)
		}
		r.Prev = h.Root
		mustFollow(t, "the root ahead", h, by(seed, r.Epoch, r), headOf(r))
	}
	h := api.Head{Epoch: 0, Root: chance(5), Key: Pin(seed)}
	mustRefuse(t, "of Start, behind another root of epoch 0", h, sealOf(seed, begin(seed), chance(1)), api.ErrBad)
}

// 11.3: a signature that is none of the root by the head's key is ErrBad.
func TestFollowOfAnotherSignature(t *testing.T) {
	seed := chance(3)
	l, heads := rootsOf(seed, begin(seed), trees(3)...)
	h, s := heads[1], l[1]
	text, key := textOf(s.Root), s.Root.Epoch
	digest := sha256.Sum256(text)
	for name, sig := range map[string][]byte{
		"missing":                   nil,
		"without bytes":             {},
		"one byte":                  s.Sig[:1],
		"half of it":                s.Sig[:8192],
		"a byte too short":          s.Sig[:16383],
		"a bit's bytes too short":   s.Sig[:16320],
		"without its first byte":    s.Sig[1:],
		"a byte too long":           append(bytes.Clone(s.Sig), 0),
		"twice":                     append(bytes.Clone(s.Sig), s.Sig...),
		"noughts":                   make([]byte, 16384),
		"the key ahead's":           lamport.Sign(seed, key-1, text),
		"the next key's":            lamport.Sign(seed, key+1, text),
		"another seed's":            lamport.Sign(chance(4), key, text),
		"the root ahead's":          l[0].Sig,
		"the next root's":           l[2].Sig,
		"of the root's digest":      lamport.Sign(seed, key, digest[:]),
		"of the root without the R": lamport.Sign(seed, key, text[1:]),
		"of nothing":                lamport.Sign(seed, key, nil),
		"of the tree":               lamport.Sign(seed, key, s.Root.Tree[:]),
		"the public text's begin":   lamport.Text(seed, key)[:16384],
	} {
		mustRefuse(t, name, h, api.Signed{Root: s.Root, Sig: sig}, api.ErrBad)
	}
	mustFollow(t, "its own", h, s, heads[2])
}

// 11.3: a signature of which any byte is another one is ErrBad: one of each half of each bit.
func TestFollowOfASpoiledSignature(t *testing.T) {
	seed := api.Digest{9}
	h := begin(seed)
	s := sealOf(seed, h, chance(1))
	for half := range 512 {
		at := 32*half + half%32
		s.Sig[at] ^= 1 << (half % 8)
		mustRefuse(t, "byte "+strconv.Itoa(at), h, s, api.ErrBad)
		s.Sig[at] ^= 1 << (half % 8)
	}
	mustFollow(t, "as it was", h, s, headOf(s.Root))
}

// 11.3: a root of which anything is another thing than what was signed is ErrBad; of the epoch it is ErrEpoch.
func TestFollowOfASpoiledRoot(t *testing.T) {
	seed := api.Digest{9}
	_, heads := rootsOf(seed, begin(seed), trees(2)...)
	h := heads[2]
	s := sealOf(seed, h, chance(3))
	for at := range 32 {
		for name, change := range map[string]func(r *api.Root){
			"Prev":                   func(r *api.Root) { r.Prev = flipped(r.Prev, at) },
			"Tree":                   func(r *api.Root) { r.Tree = flipped(r.Tree, at) },
			"Next":                   func(r *api.Root) { r.Next = flipped(r.Next, at) },
			"Tree and Next, swapped": func(r *api.Root) { r.Tree, r.Next = r.Next, r.Tree },
			"none but Epoch":         func(r *api.Root) { *r = api.Root{Epoch: r.Epoch} },
		} {
			other := s
			change(&other.Root)
			mustRefuse(t, fmt.Sprintf("%s, byte %d", name, at), h, other, api.ErrBad)
		}
	}
	for bit := range 64 {
		other := s
		other.Root.Epoch ^= 1 << bit
		mustRefuse(t, fmt.Sprintf("Epoch, bit %d", bit), h, other, api.ErrEpoch)
	}
	mustFollow(t, "as it was", h, s, headOf(s.Root))
}

// 11.3: a head of which the key or the root is any other one does not take it.
func TestFollowByAnotherHead(t *testing.T) {
	seed := rising()
	_, heads := rootsOf(seed, begin(seed), trees(2)...)
	h := heads[2]
	s := sealOf(seed, h, chance(3))
	for at := range 32 {
		for _, other := range []api.Head{
			{Epoch: h.Epoch, Root: h.Root, Key: flipped(h.Key, at)},
			{Epoch: h.Epoch, Root: flipped(h.Root, at), Key: h.Key},
		} {
			mustRefuse(t, "byte "+strconv.Itoa(at), other, s, api.ErrBad)
		}
	}
	for name, other := range map[string]api.Head{
		"without a key":         {Epoch: h.Epoch, Root: h.Root},
		"without a root":        {Epoch: h.Epoch, Key: h.Key},
		"root and key, swapped": {Epoch: h.Epoch, Root: h.Key, Key: h.Root},
		"the key behind":        {Epoch: h.Epoch, Root: h.Root, Key: s.Root.Next},
		"another pin's":         {Epoch: h.Epoch, Root: h.Root, Key: Pin(seed)},
	} {
		mustRefuse(t, name, other, s, api.ErrBad)
	}
	mustFollow(t, "by its own", h, s, headOf(s.Root))
}

// 11.3, R6: what is wrong of a head and a root, in all ways of it: the error that is named first is told.
func TestWhichErrorIsFirst(t *testing.T) {
	seed := chance(2)
	for wrong := range 32 {
		has := func(bit int) bool { return wrong>>bit&1 == 1 }
		h := api.Head{Epoch: 9, Root: chance(1), Key: lamport.Public(seed, 1)}
		if has(0) {
			h.Epoch = 64
		}
		r := api.Root{Epoch: h.Epoch + 1, Prev: h.Root}
		if has(1) {
			r.Epoch++
		}
		if has(2) {
			r.Prev = chance(3)
		}
		s := by(seed, 1, r)
		if has(3) {
			s.Sig = s.Sig[:100]
		}
		if has(4) {
			h.Key = chance(4)
		}
		name := fmt.Sprintf("wrong: %05b", wrong)
		switch {
		case has(0) || has(1):
			mustRefuse(t, name, h, s, api.ErrEpoch)
		case has(2) || has(3) || has(4):
			mustRefuse(t, name, h, s, api.ErrBad)
		default:
			mustFollow(t, name, h, s, headOf(r))
		}
	}
}

// 11.4: behind no roots there is the head itself, whichever it is, with 0.
func TestWalkOfNone(t *testing.T) {
	for _, epoch := range append(going(), done()...) {
		h := api.Head{Epoch: epoch, Root: chance(1), Key: chance(2)}
		mustWalk(t, "nil", h, nil, h, 0, api.OK)
		mustWalk(t, "no elements", h, []api.Signed{}, h, 0, api.OK)
		mustWalk(t, "none of those that lie there", h, make([]api.Signed, 3)[:0], h, 0, api.OK)
	}
	mustWalk(t, "the head of zeroes", api.Head{}, nil, api.Head{}, 0, api.OK)
}

// 11.4, 11.5: roots lead to the head behind the last one, from each of the heads between to each one.
func TestWalk(t *testing.T) {
	for _, seed := range seeds()[:3] {
		l, heads := rootsOf(seed, begin(seed), trees(7)...)
		for from := range heads {
			for to := from; to < len(heads); to++ {
				mustWalk(t, fmt.Sprintf("from %d to %d", from, to), heads[from], l[from:to], heads[to], to-from, api.OK)
			}
		}
	}
}

// 11.4: roots may hand over from one seed's keys to another's; each is followed by the key that the one ahead names.
func TestWalkOverSeeds(t *testing.T) {
	h := Start(Pin(chance(0)))
	var l []api.Signed
	for i := range 5 {
		r := api.Root{Epoch: uint64(i) + 1, Prev: h.Root, Tree: chance(i), Next: Pin(chance(i + 1))}
		l, h = append(l, by(chance(i), 1, r)), headOf(r)
	}
	mustWalk(t, "five seeds", Start(Pin(chance(0))), l, h, 5, api.OK)
	mustWalk(t, "without the third", Start(Pin(chance(0))), slices.Concat(l[:2], l[3:]), api.Head{}, 2, api.ErrEpoch)
}

// spoiled is a root that can't be followed, and the error that it comes to.
type spoiled struct {
	s   api.Signed
	err api.Errno
}

// spoils is what may be wrong of a list's root at a place.
func spoils(l []api.Signed, at int) map[string]spoiled {
	seed, r := chance(1), l[at].Root
	early, late, prev, tree := r, r, r, r
	early.Epoch--
	late.Epoch++
	prev.Prev = chance(77)
	tree.Tree = chance(78)
	return map[string]spoiled{
		"nothing":            {api.Signed{}, api.ErrEpoch},
		"an epoch too early": {by(seed, r.Epoch, early), api.ErrEpoch},
		"an epoch too late":  {by(seed, r.Epoch, late), api.ErrEpoch},
		"another Prev":       {by(seed, r.Epoch, prev), api.ErrBad},
		"another tree":       {api.Signed{Root: tree, Sig: l[at].Sig}, api.ErrBad},
		"no signature":       {api.Signed{Root: r}, api.ErrBad},
		"another key's":      {by(seed, r.Epoch+1, r), api.ErrBad},
	}
}

// 11.4, R2: at the first root that can't be followed there is its error, how many were followed ahead of it, and no head; whatever stands behind it.
func TestWalkUpToAnError(t *testing.T) {
	seed := chance(1)
	right, heads := rootsOf(seed, begin(seed), trees(5)...)
	for at := range right {
		for name, c := range spoils(right, at) {
			l := slices.Clone(right)
			l[at] = c.s
			name = fmt.Sprintf("root %d, %s", at, name)
			mustWalk(t, name, heads[0], l, api.Head{}, at, c.err)
			mustWalk(t, name+", the last one", heads[0], l[:at+1], api.Head{}, at, c.err)
			mustWalk(t, name+", from itself on", heads[at], l[at:], api.Head{}, 0, c.err)
			mustWalk(t, name+", and all ahead of it", heads[0], l[:at], heads[at], at, api.OK)
			if at+1 < len(l) {
				l[at+1] = api.Signed{Root: api.Root{Epoch: 99}}
				mustWalk(t, name+", and another one behind", heads[0], l, api.Head{}, at, c.err)
			}
		}
	}
}

// 11.4: roots that stand twice, in another order, or that begin or go on elsewhere can't be followed.
func TestWalkOfAnotherOrder(t *testing.T) {
	seed := chance(1)
	l, heads := rootsOf(seed, begin(seed), trees(4)...)
	turned := slices.Clone(l)
	slices.Reverse(turned)
	mustWalk(t, "turned round", heads[0], turned, api.Head{}, 0, api.ErrEpoch)
	mustWalk(t, "two swapped", heads[0], []api.Signed{l[0], l[2], l[1], l[3]}, api.Head{}, 1, api.ErrEpoch)
	mustWalk(t, "one twice", heads[0], []api.Signed{l[0], l[1], l[1], l[2]}, api.Head{}, 2, api.ErrEpoch)
	mustWalk(t, "all twice", heads[0], slices.Concat(l, l), api.Head{}, 4, api.ErrEpoch)
	mustWalk(t, "without the first", heads[0], l[1:], api.Head{}, 0, api.ErrEpoch)
	mustWalk(t, "from the second head", heads[1], l, api.Head{}, 0, api.ErrEpoch)
	mustWalk(t, "from another pin", Start(Pin(chance(2))), l, api.Head{}, 0, api.ErrBad)
	other, _ := rootsOf(chance(2), begin(chance(2)), trees(4)...)
	mustWalk(t, "another seed's from the third on", heads[0], slices.Concat(l[:2], other[2:]), api.Head{}, 2, api.ErrBad)
}

// 11.5: what Seal seals, from Pin on, can be followed to the last of 64 epochs, at once and in any pieces; there Seal tells ErrSpent, and one root more can't be followed.
func TestAllEpochs(t *testing.T) {
	for _, seed := range seeds()[2:5] {
		start := Start(Pin(seed))
		heads, l := []api.Head{start}, []api.Signed(nil)
		for i, tree := range trees(64) {
			s := mustSeal(t, fmt.Sprintf("epoch %d", i+1), seed, heads[i], tree)
			h, e := Follow(heads[i], s)
			if e != api.OK || h != headOf(s.Root) || h.Epoch != uint64(i+1) {
				t.Fatalf("epoch %d: %v, %v", i+1, h, e)
			}
			l, heads = append(l, s), append(heads, h)
		}
		mustWalk(t, "all at once", start, l, heads[64], 64, api.OK)
		for _, cut := range []int{0, 1, 2, 31, 63, 64} {
			mustWalk(t, fmt.Sprintf("up to %d", cut), start, l[:cut], heads[cut], cut, api.OK)
			mustWalk(t, fmt.Sprintf("from %d on", cut), heads[cut], l[cut:], heads[64], 64-cut, api.OK)
		}
		for size := 1; size <= 64; size *= 3 {
			mustWalkInPieces(t, start, l, size, heads[64])
		}
		if _, e := Seal(seed, heads[64], chance(1)); e != api.ErrSpent {
			t.Errorf("one more is sealed: %v", e)
		}
		mustWalk(t, "one more", start, append(l, sealOf(seed, heads[64], chance(1))), api.Head{}, 64, api.ErrEpoch)
	}
}

// mustWalkInPieces is of roots that must lead to that head, so many at a time.
func mustWalkInPieces(t *testing.T, h api.Head, l []api.Signed, size int, asked api.Head) {
	t.Helper()
	for piece := range slices.Chunk(l, size) {
		next, n, e := Walk(h, piece)
		if e != api.OK || n != len(piece) {
			t.Fatalf("pieces of %d: %d, %v", size, n, e)
		}
		h = next
	}
	if h != asked {
		t.Errorf("pieces of %d lead to %v, want %v", size, h, asked)
	}
}

// parted is the roots of a seed, of which from a place on one has another tree, or names another seed's key.
func parted(seed api.Digest, n, at int, next bool) (l []api.Signed, end api.Head) {
	all := trees(n)
	l, heads := rootsOf(seed, begin(seed), all[:at]...)
	r := sealOf(seed, heads[at], all[at]).Root
	if next {
		r.Next = lamport.Public(chance(1000), r.Epoch+1)
		l = append(l, by(seed, r.Epoch, r))
		seed = chance(1000)
	} else {
		r.Tree = chance(2000)
		l = append(l, by(seed, r.Epoch, r))
	}
	rest, heads := rootsOf(seed, headOf(r), all[at+1:]...)
	return append(l, rest...), heads[len(rest)]
}

// 11.5: of two lists of as many roots that lead from one head, of which any one is unlike, the heads at the end are unlike; the roots of one do not go on behind the other's.
func TestUnlikeRootsLeadElsewhere(t *testing.T) {
	const many = 6
	seed := chance(1)
	straight, heads := rootsOf(seed, begin(seed), trees(many)...)
	ends := map[api.Digest]string{heads[many].Root: "straight on"}
	for at := range many {
		for _, next := range []bool{false, true} {
			name := fmt.Sprintf("parted at %d, key %v", at, next)
			l, end := parted(seed, many, at, next)
			mustWalk(t, name, heads[0], l, end, many, api.OK)
			got, _, _ := Walk(heads[0], l)
			if other, ok := ends[got.Root]; ok {
				t.Errorf("%s: ends where another list does: %s", name, other)
			}
			ends[got.Root] = name
			if at+1 < many {
				mustWalk(t, name+", and back", heads[0], slices.Concat(l[:at+1], straight[at+1:]), api.Head{}, at+1, api.ErrBad)
				mustWalk(t, name+", behind the straight ones", heads[0], slices.Concat(straight[:at+1], l[at+1:]), api.Head{}, at+1, api.ErrBad)
			}
		}
	}
	if len(ends) != 2*many+1 {
		t.Errorf("%d ends", len(ends))
	}
}

// 11.5: lists that lead from one head to one digest have the same roots, whoever made them.
func TestOneEndOneList(t *testing.T) {
	seed := rising()
	l, heads := rootsOf(seed, begin(seed), trees(4)...)
	h := Start(Pin(seed))
	for i, tree := range trees(4) {
		s := mustSeal(t, "again", seed, h, tree)
		if !same(s, l[i]) {
			t.Errorf("root %d is another one", i)
		}
		h, _ = Follow(h, s)
	}
	if h != heads[4] {
		t.Errorf("the same roots lead to %v, want %v", h, heads[4])
	}
}

// roomy is roots in memory that has more of them behind the list's length, each signature with bytes behind its length.
func roomy(l []api.Signed) (list, all []api.Signed) {
	for _, s := range l {
		sig := append(bytes.Clone(s.Sig), "behind it"...)
		all = append(all, api.Signed{Root: s.Root, Sig: sig[:len(s.Sig)]})
	}
	all = append(all, api.Signed{Root: api.Root{Epoch: 77}, Sig: []byte("none")}, api.Signed{})
	return all[:len(l)], all
}

// R3: what is handed in stays as it was, and what lies behind its length is neither read nor written.
func TestHandedInStays(t *testing.T) {
	seed := chance(1)
	right, heads := rootsOf(seed, begin(seed), trees(3)...)
	list, all := roomy(right)
	was := copied(all)
	mustWalk(t, "right", heads[0], list, heads[3], 3, api.OK)
	mustWalk(t, "two of them", heads[0], list[:2], heads[2], 2, api.OK)
	mustWalk(t, "from another pin", begin(chance(2)), list, api.Head{}, 0, api.ErrBad)
	mustFollow(t, "the first one", heads[0], list[0], heads[1])
	mustRefuse(t, "the second one first", heads[0], list[1], api.ErrEpoch)
	short := api.Signed{Root: list[0].Root, Sig: list[0].Sig[:16383]}
	mustRefuse(t, "a byte too short, which lies there", heads[0], short, api.ErrBad)
	for i, s := range all {
		if !same(s, was[i]) {
			t.Errorf("root %d is another one", i)
		}
		if i < 3 && string(s.Sig[16384:16393]) != "behind it" {
			t.Errorf("root %d: what lies behind its signature is another thing", i)
		}
	}
}

// R3: a signature is new memory each time.
func TestNewMemory(t *testing.T) {
	seed, h := chance(1), begin(chance(1))
	first, second := mustSeal(t, "first", seed, h, chance(2)), mustSeal(t, "second", seed, h, chance(2))
	next := mustSeal(t, "next", seed, headOf(first.Root), chance(3))
	_ = append(first.Sig, "behind it"...)
	clear(first.Sig[:cap(first.Sig)])
	third := mustSeal(t, "third", seed, h, chance(2))
	for i, s := range []api.Signed{second, third} {
		if !same(s, sealOf(seed, h, chance(2))) {
			t.Errorf("%d: another one, as what was told ahead was written over", i)
		}
	}
	if !same(next, sealOf(seed, headOf(second.Root), chance(3))) {
		t.Error("the next one is another one")
	}
}

// P7: the same is told again, whatever was asked for between; and of an error nothing stays.
func TestAlike(t *testing.T) {
	seed := rising()
	l, heads := rootsOf(seed, begin(seed), trees(3)...)
	for range 3 {
		mustWalk(t, "all", heads[0], l, heads[3], 3, api.OK)
		mustWalk(t, "from another pin", begin(chance(7)), l, api.Head{}, 0, api.ErrBad)
		for i := range l {
			mustFollow(t, "root "+strconv.Itoa(i), heads[i], l[i], heads[i+1])
			mustRefuse(t, "root "+strconv.Itoa(i)+", once more", heads[i+1], l[i], api.ErrEpoch)
			if s := mustSeal(t, "again", seed, heads[i], chance(i+1)); !same(s, l[i]) {
				t.Errorf("root %d is another one", i)
			}
		}
		if _, e := Seal(seed, api.Head{Epoch: 64}, chance(1)); e != api.ErrSpent || Pin(seed) != heads[0].Key || Start(Pin(seed)) != heads[0] {
			t.Errorf("the second time: %v", e)
		}
	}
}
