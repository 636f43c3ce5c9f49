package server_test

import (
	"fmt"
	"math/rand/v2"
	"slices"
	"testing"

	"blazon/api"
)

// 21.8: on disks of each small size each call is answered by the words, or told that the disk is full, with nothing changed; and the server goes on.
func TestRoom(t *testing.T) {
	var full, epochs [40]int
	t.Run("sizes", func(t *testing.T) {
		for sectors := 8; sectors < len(full); sectors++ {
			t.Run(fmt.Sprint(sectors), func(t *testing.T) {
				t.Parallel()
				l := begin(t, sectors)
				full[sectors] = l.goOn(rand.New(rand.NewPCG(218, uint64(sectors))), 60)
				epochs[sectors] = len(l.w.epochs)
				mustBeWhole(t, "gone on", l.s, l.w)
				l.open()
				mustBeWhole(t, "opened", l.s, l.w)
			})
		}
	})
	if slices.Max(full[:]) == 0 || slices.Max(epochs[:]) < 5 {
		t.Errorf("full %v times, %v epochs: the test is no good", full, epochs)
	}
}

// goOn does so many deeds like chance, opens the server anew now and then, and tells how often the disk was full.
func (l *life) goOn(chance *rand.Rand, deeds int) int {
	l.t.Helper()
	full := 0
	for i := range deeds {
		if l.doIfRoom(l.any(chance)) {
			full++
		}
		if chance.IntN(12) == 0 {
			l.open()
		}
		if i%10 == 9 {
			mustBeAtRest(l.t, "behind deed "+fmt.Sprint(i), l.s, l.w)
		}
	}
	return full
}

// 21.8: a full disk, asked for the same again and again: nothing is changed, what waits goes on waiting, and what needs less is done.
func TestFull(t *testing.T) {
	for _, sectors := range []int{8, 9, 16, 24} {
		l := begin(t, sectors)
		for i := 0; ; i++ {
			if i == 64 {
				t.Fatalf("%d sectors are never full", sectors)
			}
			l.must(submit(t, register(nth(i), "a key of some length, so that the disk is full soon")), api.OK)
			if l.doIfRoom(seal()) {
				break
			}
		}
		for range 3 {
			if !l.doIfRoom(seal()) {
				t.Fatalf("%d sectors: full, and not full", sectors)
			}
			mustBeWhole(t, "full", l.s, l.w)
			l.must(submit(t, register(nth(90+len(l.w.dir.Queue)), "k")), api.OK)
			l.must(submit(t, register(nth(90), "Key")), l.w.errTwice(nth(90)))
		}
		n := uint64(len(l.w.epochs))
		for to := range n + 2 {
			l.doIfRoom(prune(to))
			mustBeAtRest(t, "full, Prune", l.s, l.w)
		}
		l.open()
		mustBeWhole(t, "full, opened", l.s, l.w)
		for range 4 {
			l.doIfRoom(seal())
			mustBeAtRest(t, "full, Seal of none", l.s, l.w)
		}
		l.open()
		mustBeWhole(t, "full, opened again", l.s, l.w)
	}
}
