package pages_test

// Nobody knows a page that leads back to itself, as whole digests go. So that it is tried, too, that reading one ends, TestByWeakDigests runs the tests TestWeak.. by a tags.Of that tells 8 bits of a digest alone: of those pages are found that do.

import (
	"bytes"
	"crypto/sha256"
	"encoding/json"
	"math/rand/v2"
	"os"
	"os/exec"
	"path/filepath"
	"strconv"
	"strings"
	"testing"

	"blazon/api"
	"blazon/tags"
)

// weakly is the name of what says, in the environment, that the tests run by weak digests.
const weakly = "TESTS_RUN_BY_WEAK_DIGESTS"

// weakOf is what stands in the place of tags.Of; wholeOf is then what was there.
const weakOf = `package tags

import "blazon/api"

func Of(b []byte) api.Digest { return api.Digest{wholeOf(b)[0]} }
`

// weak is what that must be.
func weak(b []byte) api.Digest {
	return api.Digest{sha256.Sum256(b)[0]}
}

// onlyWeak goes on if the digests are weak; if they should be, they must.
func onlyWeak(t *testing.T) {
	t.Helper()
	if os.Getenv(weakly) == "" {
		t.Skip("run by TestByWeakDigests")
	}
	for i := range 50 {
		if b := chance(i); tags.Of(b[:]) != weak(b[:]) {
			t.Fatal("the digests are not weak")
		}
	}
}

// TestByWeakDigests runs the tests TestWeak.. by weak digests.
func TestByWeakDigests(t *testing.T) {
	if os.Getenv(weakly) != "" {
		t.Skip("this is such a run")
	}
	run := exec.Command("go", "test", "-count=1", "-vet=off", "-v", "-timeout=120s", "-run=^TestWeak", "-overlay="+overlay(t), ".")
	run.Env = append(os.Environ(), weakly+"=1")
	out, err := run.CombinedOutput()
	if err != nil || !bytes.Contains(out, []byte("--- PASS: TestWeakCircles")) || bytes.Contains(out, []byte("--- SKIP")) {
		t.Errorf("%v\n%s", err, out)
	}
}

// overlay is a file that says what is built in the place of package tags.
func overlay(t *testing.T) string {
	folder, err := filepath.Abs("../tags")
	if err != nil {
		t.Fatal(err)
	}
	there := t.TempDir()
	write := func(name, text string) string {
		name = filepath.Join(there, name)
		if err := os.WriteFile(name, []byte(text), 0o600); err != nil {
			t.Fatal(err)
		}
		return name
	}
	place := filepath.Join(folder, "tags.go")
	text, err := os.ReadFile(place)
	whole := strings.Replace(string(text), "\nfunc Of(", "\nfunc wholeOf(", 1)
	whole = strings.Replace(whole, " Of(tagged(", " wholeOf(tagged(", -1)
	if err != nil || !strings.Contains(whole, "func wholeOf(") {
		t.Fatalf("%s has no Of: %v", place, err)
	}
	list, err := json.Marshal(map[string]map[string]string{"Replace": {
		place:                              write("whole.go", whole),
		filepath.Join(folder, "weakly.go"): write("weakly.go", weakOf),
	}})
	if err != nil {
		t.Fatal(err)
	}
	return write("overlay.json", string(list))
}

// leading is a page of that weak digest which begins with a link to another one; what follows makes it so.
func leading(from, to byte) []byte {
	b := link(api.Digest{to})
	for i := 0; weak(b)[0] != from; i++ {
		b = append(link(api.Digest{to}), strconv.Itoa(i)...)
	}
	return b
}

// alone is links alone that lead round: of those to each weak digest some do.
func alone() (l [][]byte) {
	at := byte(0)
	for range 256 {
		at = weak(link(api.Digest{at}))[0]
	}
	for b := link(api.Digest{at}); len(l) == 0 || !bytes.Equal(b, l[0]); b = link(weak(b)) {
		l = append(l, b)
	}
	return l
}

// 17.3, P1: pages that lead round, bit by bit or at once: reading ends, with ErrBad. Where one lacks, it is told.
func TestWeakCircles(t *testing.T) {
	onlyWeak(t)
	for n := 1; n <= 256; n *= 2 {
		var l [][]byte
		for i := range n {
			l = append(l, leading(byte(i), byte((i+1)%n)))
		}
		for _, d := range []api.Digest{{0}, {byte(n / 2)}, {byte(n - 1)}} {
			mustBe(t, "a circle", d, l, nil, api.ErrBad)
			mustBe(t, "a circle, of which one lacks", d, l[1:], nil, api.ErrNone)
		}
		into := both([]byte{0}, l[0][:33])
		if int(hashOf(into)[0]) >= n {
			mustBe(t, "a circle below one bit", hashOf(into), append(l, into), nil, api.ErrBad)
		}
	}
	l := alone()
	mustBe(t, "links alone", hashOf(l[0]), l, nil, api.ErrBad)
	mustBe(t, "links alone, of which one lacks", hashOf(l[0]), l[:len(l)-1], nil, api.ErrNone)
}

// 17.3, P1: pages that lead round over bits, with leaves, what lacks and what is bad beside the way.
func TestWeakMixed(t *testing.T) {
	onlyWeak(t)
	dice := rand.New(rand.NewPCG(17, 6))
	told := map[api.Errno]int{}
	for range 4000 {
		l := unlike(dice)
		told[mustBeByWords(t, "like chance", hashOf(l[dice.IntN(len(l))]), l)]++
	}
	if told[api.ErrBad] < 100 || told[api.ErrNone] < 100 {
		t.Errorf("%v: too few of some", told)
	}
}

// unlike is pages like chance, of unlike digests: of those of one digest any may be read.
func unlike(dice *rand.Rand) (l [][]byte) {
	taken := map[api.Digest]int{}
	for range 1 + dice.IntN(600) {
		b := knot(dice, 0)
		if d := hashOf(b); taken[d] == 0 {
			taken[d] = 1
			l = append(l, b)
		}
	}
	return l
}

// knot is a piece of links, and now and then of something else.
func knot(dice *rand.Rand, deep int) []byte {
	switch kind := dice.IntN(12); {
	case kind < 5 && deep < 3:
		return both(knot(dice, deep+1), knot(dice, deep+1))
	case kind == 5:
		return []byte{0}
	case kind == 6:
		return one(leaf{chance(dice.IntN(8)), chance(1)})
	}
	return link(api.Digest{byte(dice.IntN(256))})
}
