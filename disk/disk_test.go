package disk

import (
	"bytes"
	"crypto/sha256"
	"fmt"
	"math"
	"math/rand/v2"
	"slices"
	"testing"

	"blazon/api"
)

// full is a sector all of whose bytes are that one.
func full(v byte) []byte {
	return bytes.Repeat([]byte{v}, 64)
}

// torn is a sector of so many bytes of each kind, one behind the other: torn(3, 1, 61, 0) is three bytes 1, and noughts.
func torn(pieces ...int) (b []byte) {
	for i := 0; i < len(pieces); i += 2 {
		b = append(b, bytes.Repeat([]byte{byte(pieces[i+1])}, pieces[i])...)
	}
	return b
}

// mixed is n bytes that are like chance, but the same ones each time.
func mixed(seed, n int) (b []byte) {
	for i := 0; len(b) < n; i++ {
		d := sha256.Sum256(fmt.Appendf(nil, "%d %d", seed, i))
		b = append(b, d[:]...)
	}
	return b[:n]
}

// mustNew is a disk of noughts.
func mustNew(t *testing.T, n int) *Disk {
	t.Helper()
	d, e := New(n)
	if e != api.OK || d == nil {
		t.Fatalf("New(%d): %v, %v", n, d, e)
	}
	return d
}

// mustLoad is a disk of bytes.
func mustLoad(t *testing.T, b []byte) *Disk {
	t.Helper()
	d, e := Load(b)
	if e != api.OK || d == nil {
		t.Fatalf("Load of %d bytes: %v, %v", len(b), d, e)
	}
	return d
}

// mustRead is of a sector that must be read as that.
func mustRead(t *testing.T, d *Disk, i int, want []byte) {
	t.Helper()
	if got, e := d.Read(i); e != api.OK || !bytes.Equal(got, want) {
		t.Errorf("Read(%d): %v, %v, want %v", i, got, e, want)
	}
}

// mustNotRead is of a sector that is refused: no bytes are told beside the error.
func mustNotRead(t *testing.T, d *Disk, i int, want api.Errno) {
	t.Helper()
	if got, e := d.Read(i); e != want || len(got) != 0 {
		t.Errorf("Read(%d): %v, %v, want %v", i, got, e, want)
	}
}

// mustWrite is of a write that must be answered so.
func mustWrite(t *testing.T, d *Disk, i int, b []byte, want api.Errno) {
	t.Helper()
	if e := d.Write(i, b); e != want {
		t.Errorf("Write(%d, %d bytes): %v, want %v", i, len(b), e, want)
	}
}

// mustSync is of a Sync that must be answered so.
func mustSync(t *testing.T, d *Disk, want api.Errno) {
	t.Helper()
	if e := d.Sync(); e != want {
		t.Errorf("Sync: %v, want %v", e, want)
	}
}

// mustPend is of so many writes that must wait.
func mustPend(t *testing.T, d *Disk, want int) {
	t.Helper()
	if got := d.Pending(); got != want {
		t.Errorf("Pending: %d, want %d", got, want)
	}
}

// mustDump is of sectors that must be dumped, one behind the other.
func mustDump(t *testing.T, d *Disk, want ...[]byte) {
	t.Helper()
	if got := d.Dump(); !bytes.Equal(got, slices.Concat(want...)) {
		t.Errorf("Dump: %v, want %v", got, want)
	}
}

// mustHave is of a disk whose power must be there: so many writes wait, and those sectors are read and dumped.
func mustHave(t *testing.T, d *Disk, pending int, want ...[]byte) {
	t.Helper()
	for i, b := range want {
		mustRead(t, d, i, b)
	}
	mustRest(t, d, pending, want...)
}

// mustBeDown is of a disk whose power must have gone: nothing is read, written or synced, what is there is dumped still.
func mustBeDown(t *testing.T, d *Disk, pending int, want ...[]byte) {
	t.Helper()
	for i := -1; i <= len(want); i++ {
		mustNotRead(t, d, i, api.ErrDown)
		mustWrite(t, d, i, full(99), api.ErrDown)
	}
	mustSync(t, d, api.ErrDown)
	mustRest(t, d, pending, want...)
}

// mustRest is what is told whether or not the power is there.
func mustRest(t *testing.T, d *Disk, pending int, want ...[]byte) {
	t.Helper()
	if got := d.Size(); got != len(want) {
		t.Errorf("Size: %d, want %d", got, len(want))
	}
	mustPend(t, d, pending)
	mustDump(t, d, want...)
}

// mustHaveNoFuse is of a disk at whose next changes the power must not go; what it has is another thing behind it.
func mustHaveNoFuse(t *testing.T, d *Disk) {
	t.Helper()
	for range 70 {
		mustWrite(t, d, 0, full(98), api.OK)
		mustSync(t, d, api.OK)
	}
}

// downAt is a disk of one sector of noughts at whose next Write the power has gone.
func downAt(t *testing.T, b []byte) *Disk {
	t.Helper()
	d := mustNew(t, 1)
	d.Fuse(0)
	mustWrite(t, d, 0, b, api.ErrDown)
	return d
}

// The chapter's example.
func TestExample(t *testing.T) {
	d := mustNew(t, 1)
	mustWrite(t, d, 0, full(1), api.OK)
	d.Crash([]int{3})
	mustHave(t, d, 0, torn(3, 1, 61, 0))
}

// 13.1: a new disk has so many sectors, all noughts.
func TestNew(t *testing.T) {
	for _, n := range []int{1, 2, 3, 63, 64, 65, 8192, 16383, 16384} {
		d := mustNew(t, n)
		if d.Size() != n || d.Pending() != 0 || !bytes.Equal(d.Dump(), make([]byte, 64*n)) {
			t.Errorf("New(%d): %d sectors, %d writes wait", n, d.Size(), d.Pending())
		}
		mustRead(t, d, 0, full(0))
		mustRead(t, d, n-1, full(0))
		mustNotRead(t, d, n, api.ErrRange)
	}
}

// 13.1: a number that no disk has is refused.
func TestNewRefused(t *testing.T) {
	for _, n := range []int{0, -1, -2, -64, -16384, math.MinInt32, math.MinInt, 16385, 16386, 1 << 15, 1 << 20, math.MaxInt32, 1 << 32, 1<<32 + 1, math.MaxInt} {
		if d, e := New(n); d != nil || e != api.ErrRange {
			t.Errorf("New(%d): %v, %v", n, d, e)
		}
	}
}

// 13.1: a disk that is loaded has the bytes as its sectors.
func TestLoad(t *testing.T) {
	for _, n := range []int{1, 2, 3, 64, 16383, 16384} {
		b := mixed(n, 64*n)
		d := mustLoad(t, b)
		if d.Size() != n || d.Pending() != 0 || !bytes.Equal(d.Dump(), b) {
			t.Errorf("Load of %d sectors: %d sectors, %d writes wait", n, d.Size(), d.Pending())
		}
		for _, i := range []int{0, n / 2, n - 1} {
			mustRead(t, d, i, b[64*i:64*i+64])
		}
		mustNotRead(t, d, n, api.ErrRange)
	}
}

// 13.1: what was loaded is safe, and there is no fuse.
func TestLoadedIsSafe(t *testing.T) {
	b := mixed(1, 3*64)
	d := mustLoad(t, b)
	d.Crash(nil)
	mustHave(t, d, 0, b[:64], b[64:128], b[128:])
	mustHaveNoFuse(t, mustLoad(t, b))
	mustHaveNoFuse(t, mustNew(t, 1))
}

// 13.1: bytes that are not whole sectors are refused so, however many they are; then those that are no disk's.
func TestLoadRefused(t *testing.T) {
	most := 64 * 16384
	for _, c := range []struct {
		size int
		want api.Errno
	}{
		{0, api.ErrRange}, {1, api.ErrArg}, {2, api.ErrArg}, {32, api.ErrArg}, {63, api.ErrArg}, {65, api.ErrArg}, {127, api.ErrArg}, {129, api.ErrArg},
		{most - 1, api.ErrArg}, {most + 1, api.ErrArg}, {most + 63, api.ErrArg}, {most + 64, api.ErrRange}, {most + 65, api.ErrArg}, {2 * most, api.ErrRange},
	} {
		if d, e := Load(make([]byte, c.size)); d != nil || e != c.want {
			t.Errorf("Load of %d bytes: %v, %v, want %v", c.size, d, e, c.want)
		}
	}
	if d, e := Load(nil); d != nil || e != api.ErrRange {
		t.Errorf("Load of nil: %v, %v", d, e)
	}
}

// 13.1, R3: a disk that is loaded shares no memory with the bytes, which stay as they were.
func TestLoadSharesNothing(t *testing.T) {
	was := mixed(2, 3*64)
	b := bytes.Clone(was)
	d, other := mustLoad(t, b), mustLoad(t, b)
	mustWrite(t, d, 1, full(7), api.OK)
	mustSync(t, d, api.OK)
	mustWrite(t, d, 2, full(8), api.OK)
	d.Crash([]int{64})
	if !bytes.Equal(b, was) {
		t.Error("the bytes are others")
	}
	clear(b)
	mustHave(t, d, 0, was[:64], full(7), full(8))
	mustHave(t, other, 0, was[:64], was[64:128], was[128:])
}

// 13.2: Size and Pending, behind each call.
func TestSizeAndPending(t *testing.T) {
	d := mustNew(t, 3)
	look := func(pending int) {
		t.Helper()
		if d.Size() != 3 || d.Pending() != pending {
			t.Errorf("%d sectors, %d writes wait, want %d", d.Size(), d.Pending(), pending)
		}
	}
	look(0)
	mustWrite(t, d, 0, full(1), api.OK)
	look(1)
	mustWrite(t, d, 2, full(1), api.OK)
	look(2)
	mustWrite(t, d, 2, full(1), api.OK) // the same once more
	look(3)
	mustWrite(t, d, 3, full(1), api.ErrRange)
	mustWrite(t, d, 0, full(1)[1:], api.ErrArg)
	mustRead(t, d, 2, full(1))
	d.Dump()
	d.Fuse(5)
	look(3)
	mustSync(t, d, api.OK)
	look(0)
	mustWrite(t, d, 1, full(2), api.OK)
	mustWrite(t, d, 1, full(3), api.OK)
	look(2)
	d.Crash([]int{64})
	look(0)
	mustWrite(t, d, 1, full(2), api.OK)
	d.Fuse(0)
	mustSync(t, d, api.ErrDown)
	look(1)
	d.Crash(nil)
	look(0)
	d.Fuse(1)
	mustWrite(t, d, 1, full(4), api.OK)
	mustWrite(t, d, 0, full(4), api.ErrDown)
	look(2)
	mustWrite(t, d, 0, full(4), api.ErrDown)
	mustSync(t, d, api.ErrDown)
	look(2)
	d.Crash(nil)
	look(0)
}

// 13.2: many writes may wait, of one sector, too.
func TestManyWait(t *testing.T) {
	d := mustNew(t, 2)
	for n := range 2000 {
		mustPend(t, d, n)
		mustWrite(t, d, n%2, full(byte(n)), api.OK)
	}
	mustHave(t, d, 2000, full(1998%256), full(1999%256))
	keep := make([]int, 2000)
	keep[1000], keep[1500], keep[1701] = 60, 30, 10
	d.Crash(keep)
	mustHave(t, d, 0, torn(30, 1500%256, 30, 1000%256, 4, 0), torn(10, 1701%256, 54, 0))
}

// 13.2: Read of the first and the last sector, and of those that are not there.
func TestRead(t *testing.T) {
	for _, n := range []int{1, 2, 5, 16384} {
		b := mixed(n, 64*n)
		d := mustLoad(t, b)
		mustRead(t, d, 0, b[:64])
		mustRead(t, d, n-1, b[64*n-64:])
		for _, i := range noSectors(n) {
			mustNotRead(t, d, i, api.ErrRange)
		}
	}
}

// noSectors is numbers of which a disk of n sectors has none.
func noSectors(n int) []int {
	return []int{-1, -2, -n, -n - 1, -64, math.MinInt32, math.MinInt, n, n + 1, 2*n + 1, 64 * n, 16384, 1 << 32, math.MaxInt32, math.MaxInt}
}

// 13.2: of a sector the last write that waits is read, or what is safe.
func TestReadWhatWaits(t *testing.T) {
	d := mustLoad(t, slices.Concat(full(1), full(2), full(3)))
	mustHave(t, d, 0, full(1), full(2), full(3))
	mustWrite(t, d, 1, full(4), api.OK)
	mustHave(t, d, 1, full(1), full(4), full(3))
	mustWrite(t, d, 1, full(5), api.OK)
	mustWrite(t, d, 2, full(6), api.OK)
	mustHave(t, d, 3, full(1), full(5), full(6))
	mustWrite(t, d, 1, full(4), api.OK) // as one ahead was
	mustHave(t, d, 4, full(1), full(4), full(6))
	mustWrite(t, d, 1, full(2), api.OK) // as it is safe
	mustHave(t, d, 5, full(1), full(2), full(6))
	mustWrite(t, d, 2, full(0), api.OK) // noughts are a write, too
	mustHave(t, d, 6, full(1), full(2), full(0))
	mustSync(t, d, api.OK)
	mustHave(t, d, 0, full(1), full(2), full(0))
	mustWrite(t, d, 0, full(7), api.OK)
	mustHave(t, d, 1, full(7), full(2), full(0))
}

// 13.2: while the power has gone nothing is read, and ErrDown stands ahead of ErrRange.
func TestReadWhileDown(t *testing.T) {
	d := mustNew(t, 3)
	mustWrite(t, d, 0, full(1), api.OK)
	mustSync(t, d, api.OK)
	d.Fuse(0)
	mustWrite(t, d, 1, full(2), api.ErrDown)
	for i := range 3 {
		mustNotRead(t, d, i, api.ErrDown)
	}
	for _, i := range noSectors(3) {
		mustNotRead(t, d, i, api.ErrDown)
	}
	d.Crash(nil)
	mustHave(t, d, 0, full(1), full(0), full(0))
	mustNotRead(t, d, 3, api.ErrRange)
}

// 13.2, 13.5, R3: what is told shares no memory with the disk, nor with what else is told: of what is safe, and of what waits.
func TestToldIsNewMemory(t *testing.T) {
	d := mustNew(t, 2)
	look := func(pending int, want ...[]byte) {
		t.Helper()
		for i := range want {
			first, _ := d.Read(i)
			second, _ := d.Read(i)
			dump, other := d.Dump(), d.Dump()
			clear(first[:cap(first)])
			clear(dump[:cap(dump)])
			if !bytes.Equal(second, want[i]) || !bytes.Equal(other, slices.Concat(want...)) {
				t.Error("what was told is another thing, as what was told beside it was written over")
			}
			mustHave(t, d, pending, want...)
		}
	}
	mustWrite(t, d, 0, full(1), api.OK)
	look(1, full(1), full(0))
	mustSync(t, d, api.OK)
	look(0, full(1), full(0))
	mustWrite(t, d, 1, full(3), api.OK)
	mustWrite(t, d, 1, full(4), api.OK)
	look(2, full(1), full(4))
	d.Crash([]int{64, 60})
	look(0, full(1), torn(60, 4, 4, 3))
	d = mustLoad(t, slices.Concat(full(5), full(6)))
	look(0, full(5), full(6))
}

// 13.5, R3: while the power has gone, too.
func TestDumpIsNewMemoryWhileDown(t *testing.T) {
	d := downAt(t, full(1))
	dump := d.Dump()
	clear(dump[:cap(dump)])
	mustBeDown(t, d, 1, full(1))
	d.Crash([]int{64})
	mustHave(t, d, 0, full(1))
}

// R3: what was told stays as it was, whatever is done to the disk behind it.
func TestToldStays(t *testing.T) {
	d := mustLoad(t, slices.Concat(full(1), full(2)))
	mustWrite(t, d, 1, full(3), api.OK)
	dump := d.Dump()
	safe, _ := d.Read(0)
	waits, _ := d.Read(1)
	mustWrite(t, d, 0, full(9), api.OK)
	mustSync(t, d, api.OK)
	mustWrite(t, d, 1, full(9), api.OK)
	d.Crash([]int{64})
	mustHave(t, d, 0, full(9), full(9))
	if !bytes.Equal(dump, slices.Concat(full(1), full(3))) || !bytes.Equal(safe, full(1)) || !bytes.Equal(waits, full(3)) {
		t.Error("what was told is another thing, as more was written")
	}
}

// 13.2, 13.5: a sector's bytes are 64, a dump's those of all, and nothing of the disk lies behind them.
func TestNothingBehind(t *testing.T) {
	d := mustLoad(t, bytes.Repeat([]byte{5}, 3*64))
	mustWrite(t, d, 1, full(5), api.OK)
	given := [][]byte{d.Dump()}
	for i := range 3 {
		b, _ := d.Read(i)
		given = append(given, b)
	}
	for i, b := range given {
		if size := len(b); size != 64 && i > 0 || size != 192 && i == 0 {
			t.Errorf("%d: %d bytes", i, size)
		}
		if slices.Contains(b[len(b):cap(b)], 5) {
			t.Errorf("%d: bytes of the disk lie behind", i)
		}
	}
}

// 13.3: a write of any sector waits, and is of that sector alone.
func TestWrite(t *testing.T) {
	for _, n := range []int{1, 2, 5, 16384} {
		b := mixed(n, 64*n)
		for _, at := range []int{0, n / 2, n - 1} {
			d := mustLoad(t, b)
			put := mixed(77, 64)
			mustWrite(t, d, at, put, api.OK)
			mustPend(t, d, 1)
			mustRead(t, d, at, put)
			if want := slices.Concat(b[:64*at], put, b[64*at+64:]); !bytes.Equal(d.Dump(), want) {
				t.Errorf("%d sectors, sector %d: another dump", n, at)
			}
			d.Crash(nil) // it waited
			if !bytes.Equal(d.Dump(), b) {
				t.Errorf("%d sectors, sector %d: it is there behind a crash", n, at)
			}
		}
	}
}

// 13.3: what refuses a write, the first that stands in the way being told; nothing stays of it.
func TestWriteRefused(t *testing.T) {
	for _, n := range []int{1, 3, 16384} {
		was := mixed(n, 64*n)
		d := mustLoad(t, was)
		for _, size := range []int{0, 1, 32, 63, 64, 65, 127, 128, 192, 4096} {
			b := bytes.Repeat([]byte{9}, size)
			for _, i := range noSectors(n) {
				mustWrite(t, d, i, b, api.ErrRange)
			}
			if size == 64 {
				continue
			}
			mustWrite(t, d, 0, b, api.ErrArg)
			mustWrite(t, d, n-1, b, api.ErrArg)
		}
		mustWrite(t, d, 0, nil, api.ErrArg)
		mustPend(t, d, 0)
		if !bytes.Equal(d.Dump(), was) {
			t.Errorf("%d sectors: another dump", n)
		}
		mustSync(t, d, api.OK)
		if !bytes.Equal(d.Dump(), was) {
			t.Errorf("%d sectors: another dump behind Sync", n)
		}
	}
}

// 13.3: while the power has gone ErrDown is told, whatever else stands in the way.
func TestWriteWhileDown(t *testing.T) {
	d := downAt(t, full(1))
	for _, size := range []int{0, 63, 64, 65} {
		for _, i := range append(noSectors(1), 0) {
			mustWrite(t, d, i, bytes.Repeat([]byte{9}, size), api.ErrDown)
		}
	}
	mustBeDown(t, d, 1, full(1))
	d.Crash([]int{64, 64, 64, 64})
	mustHave(t, d, 0, full(1))
}

// 13.3, R3: what is written is copied, and stays as it was; what lies behind its length is not looked at.
func TestWriteKeepsNothing(t *testing.T) {
	d := mustNew(t, 3)
	whole := mixed(5, 200)
	was := bytes.Clone(whole)
	mustWrite(t, d, 0, whole[:63], api.ErrArg)
	mustWrite(t, d, 0, whole[:0], api.ErrArg)
	mustWrite(t, d, 0, whole[:64], api.OK)
	mustWrite(t, d, 1, whole[64:128], api.OK)
	if mustSync(t, d, api.OK); !bytes.Equal(whole, was) {
		t.Error("what was handed in is another thing")
	}
	mustWrite(t, d, 2, whole[128:192], api.OK)
	mustWrite(t, d, 0, whole[100:164], api.OK)
	clear(whole)
	mustHave(t, d, 2, was[100:164], was[64:128], was[128:192])
	d.Crash([]int{64, 32})
	mustHave(t, d, 0, slices.Concat(was[100:132], was[32:64]), was[64:128], was[128:192])
	if !bytes.Equal(whole, make([]byte, 200)) {
		t.Error("what was handed in is written over")
	}
	if b, e := Load(was[:63]); b != nil || e != api.ErrArg {
		t.Errorf("Load of bytes with one more behind them: %v, %v", b, e)
	}
	d = mustLoad(t, was[:64])
	mustHave(t, d, 0, was[:64])
}

// 13.3: what was synced is safe; of several writes of one sector the last one is.
func TestSync(t *testing.T) {
	d := mustNew(t, 3)
	mustSync(t, d, api.OK) // nothing waits
	mustHave(t, d, 0, full(0), full(0), full(0))
	mustWrite(t, d, 2, full(1), api.OK)
	mustWrite(t, d, 0, full(2), api.OK)
	mustWrite(t, d, 2, full(3), api.OK)
	mustWrite(t, d, 0, full(4), api.OK)
	mustWrite(t, d, 2, full(5), api.OK)
	mustHave(t, d, 5, full(4), full(0), full(5))
	mustSync(t, d, api.OK)
	mustHave(t, d, 0, full(4), full(0), full(5))
	d.Crash(nil)
	mustHave(t, d, 0, full(4), full(0), full(5))
	mustSync(t, d, api.OK)
	mustSync(t, d, api.OK)
	mustHave(t, d, 0, full(4), full(0), full(5))
	mustWrite(t, d, 2, full(0), api.OK)
	mustSync(t, d, api.OK)
	d.Crash([]int{0, 0, 0})
	mustHave(t, d, 0, full(4), full(0), full(0))
}

// 13.3: what waits at a Sync is not put there once more behind a later one.
func TestSyncIsDoneOnce(t *testing.T) {
	d := mustNew(t, 1)
	mustWrite(t, d, 0, full(1), api.OK)
	mustSync(t, d, api.OK)
	mustWrite(t, d, 0, full(2), api.OK)
	d.Crash([]int{10})
	mustHave(t, d, 0, torn(10, 2, 54, 1))
	mustSync(t, d, api.OK)
	mustHave(t, d, 0, torn(10, 2, 54, 1))
	d.Crash([]int{64, 64})
	mustHave(t, d, 0, torn(10, 2, 54, 1))
}

// 13.3: each sector of the greatest disk is written, synced and read.
func TestAllSectors(t *testing.T) {
	d := mustNew(t, 16384)
	want := mixed(6, 64*16384)
	for i := range 16384 {
		mustWrite(t, d, i, want[64*i:64*i+64], api.OK)
	}
	mustPend(t, d, 16384)
	if !bytes.Equal(d.Dump(), want) {
		t.Error("another dump")
	}
	mustSync(t, d, api.OK)
	d.Crash(nil)
	for i := range 16384 {
		mustRead(t, d, i, want[64*i:64*i+64])
	}
}

// changes is a Write of sector 0 or a Sync each: W or S.
func changes(t *testing.T, d *Disk, row string, want api.Errno) {
	t.Helper()
	for _, c := range row {
		if c == 'W' {
			mustWrite(t, d, 0, full(1), want)
			continue
		}
		mustSync(t, d, want)
	}
}

// 13.4: the power goes at the n-th change, whether it and those ahead of it are Writes or Syncs.
func TestFuse(t *testing.T) {
	for n := range 7 {
		for bits := range 1 << (n + 1) {
			row := make([]byte, n+1)
			for i := range row {
				row[i] = "WS"[bits>>i&1]
			}
			d := mustNew(t, 1)
			d.Fuse(n)
			changes(t, d, string(row[:n]), api.OK)
			mustRead(t, d, 0, d.Dump()) // the power is there still
			changes(t, d, string(row[n:]), api.ErrDown)
			mustNotRead(t, d, 0, api.ErrDown)
			changes(t, d, "WSWS", api.ErrDown)
			if t.Failed() {
				t.Fatalf("Fuse(%d), %s", n, row)
			}
		}
	}
}

// 13.4: by a number below 0, and without a fuse, the power goes at no change; a great number is counted, too.
func TestNoFuse(t *testing.T) {
	mustHaveNoFuse(t, mustNew(t, 1))
	for _, n := range []int{-1, -2, -64, math.MinInt32, math.MinInt, math.MaxInt32, 1 << 32, math.MaxInt} {
		d := mustNew(t, 1)
		d.Fuse(n)
		mustHaveNoFuse(t, d)
	}
	d := mustNew(t, 1)
	d.Fuse(1000)
	for range 500 {
		changes(t, d, "WS", api.OK)
	}
	changes(t, d, "W", api.ErrDown)
}

// 13.4: calls that are refused, and those that change nothing, are not counted.
func TestRefusedIsNotCounted(t *testing.T) {
	for n := range 3 {
		d := mustNew(t, 2)
		d.Fuse(n)
		idle := func() {
			t.Helper()
			for range 5 {
				mustWrite(t, d, -1, full(9), api.ErrRange)
				mustWrite(t, d, 2, full(9), api.ErrRange)
				mustWrite(t, d, 0, full(9)[1:], api.ErrArg)
				mustWrite(t, d, 1, nil, api.ErrArg)
				mustWrite(t, d, 1, make([]byte, 65), api.ErrArg)
				mustNotRead(t, d, 2, api.ErrRange)
				mustRead(t, d, 1, full(0))
				d.Size()
				d.Pending()
				d.Dump()
			}
		}
		idle()
		for i := range n {
			changes(t, d, "WS"[i%2:i%2+1], api.OK)
			idle()
		}
		changes(t, d, "W", api.ErrDown)
	}
}

// 13.4: a later Fuse takes an earlier one's place, whichever is greater.
func TestLaterFuse(t *testing.T) {
	d := mustNew(t, 1)
	d.Fuse(0)
	d.Fuse(2)
	changes(t, d, "WS", api.OK)
	d.Fuse(2)
	changes(t, d, "S", api.OK)
	d.Fuse(2)
	changes(t, d, "WW", api.OK)
	d.Fuse(-1)
	mustHaveNoFuse(t, d)
	d.Fuse(-5)
	d.Fuse(1)
	changes(t, d, "S", api.OK)
	d.Fuse(100)
	d.Fuse(1)
	changes(t, d, "S", api.OK)
	changes(t, d, "W", api.ErrDown)
}

// 13.4: while the power has gone nothing is counted, and a Fuse brings it not back, nor stays behind Crash.
func TestFuseWhileDown(t *testing.T) {
	for _, n := range []int{-1, 0, 1, 2, 3, 100} {
		d := downAt(t, full(1))
		d.Fuse(n)
		mustBeDown(t, d, 1, full(1))
		d.Fuse(n)
		mustBeDown(t, d, 1, full(1))
		d.Crash(nil)
		mustHave(t, d, 0, full(0))
		mustHaveNoFuse(t, d)
	}
}

// 13.4: what a Write leaves at which the power goes: it waits, and is kept as a crash says.
func TestWriteAtFuse(t *testing.T) {
	for _, c := range []struct {
		keep []int
		want []byte
	}{
		{nil, full(1)}, {[]int{64}, full(2)}, {[]int{64, 0}, full(2)}, {[]int{64, 5}, torn(5, 3, 59, 2)}, {[]int{0, 5}, torn(5, 3, 59, 1)}, {[]int{0, 64}, full(3)}, {[]int{9, 64, 64}, full(3)},
	} {
		d := mustLoad(t, full(1))
		mustWrite(t, d, 0, full(2), api.OK)
		d.Fuse(0)
		mustWrite(t, d, 0, full(3), api.ErrDown)
		mustBeDown(t, d, 2, full(3))
		d.Crash(c.keep)
		mustHave(t, d, 0, c.want)
		mustHaveNoFuse(t, d)
	}
}

// 13.4: what a Sync leaves at which the power goes: nothing is safe by it, all waits as it did.
func TestSyncAtFuse(t *testing.T) {
	for _, c := range []struct {
		keep  []int
		first []byte
		last  []byte
	}{
		{nil, full(0), full(0)}, {[]int{64}, full(1), full(0)}, {[]int{64, 7}, full(1), torn(7, 2, 57, 0)}, {[]int{0, 64, 3}, torn(3, 3, 61, 0), full(2)}, {[]int{64, 64, 64}, full(3), full(2)},
	} {
		d := mustNew(t, 2)
		d.Fuse(3)
		mustWrite(t, d, 0, full(1), api.OK)
		mustWrite(t, d, 1, full(2), api.OK)
		mustWrite(t, d, 0, full(3), api.OK)
		mustSync(t, d, api.ErrDown)
		mustBeDown(t, d, 3, full(3), full(2))
		d.Crash(c.keep)
		mustHave(t, d, 0, c.first, c.last)
		mustHaveNoFuse(t, d)
	}
}

// 13.4: a Sync at which the power goes has made nothing safe that waited, but what was safe is so still.
func TestSyncAtFuseKeepsWhatIsSafe(t *testing.T) {
	d := mustNew(t, 2)
	mustWrite(t, d, 0, full(1), api.OK)
	mustSync(t, d, api.OK)
	mustWrite(t, d, 1, full(2), api.OK)
	d.Fuse(0)
	mustSync(t, d, api.ErrDown)
	d.Crash(nil)
	mustHave(t, d, 0, full(1), full(0))
	d.Fuse(0)
	mustSync(t, d, api.ErrDown) // nothing waits
	mustBeDown(t, d, 0, full(1), full(0))
	d.Crash([]int{64})
	mustHave(t, d, 0, full(1), full(0))
}

// 13.4: of one write each number of bytes is kept, 64 at most, none below 0, none without a number; the power being there or not.
func TestCrashKeeps(t *testing.T) {
	for _, down := range []bool{false, true} {
		look := func(keep []int, kept int) {
			t.Helper()
			old, put := mixed(8, 64), mixed(9, 64)
			d := mustLoad(t, old)
			if d.Fuse(-1); down {
				d.Fuse(0)
			}
			if e := d.Write(0, put); (e == api.ErrDown) != down {
				t.Errorf("Write: %v", e)
			}
			d.Crash(keep)
			mustHave(t, d, 0, slices.Concat(put[:kept], old[kept:]))
			mustHaveNoFuse(t, d)
		}
		for n := range 65 {
			look([]int{n}, n)
			look([]int{n, 64, 1}, n)
		}
		for _, n := range []int{-1, -63, -64, -65, math.MinInt32, math.MinInt} {
			look([]int{n}, 0)
		}
		for _, n := range []int{65, 66, 127, 128, 256, 320, math.MaxInt32, 1 << 32, math.MaxInt} {
			look([]int{n}, 64)
		}
		look(nil, 0)
		look([]int{}, 0)
	}
}

// 13.4: the k-th number is for the k-th write, in the order in which they were written.
func TestCrashOfManyWrites(t *testing.T) {
	for _, c := range []struct {
		keep []int
		want [3][]byte
	}{
		{nil, [3][]byte{full(0), full(0), full(0)}},
		{[]int{1}, [3][]byte{full(0), full(0), torn(1, 1, 63, 0)}},
		{[]int{1, 2}, [3][]byte{torn(2, 2, 62, 0), full(0), torn(1, 1, 63, 0)}},
		{[]int{0, 2, 63}, [3][]byte{torn(2, 2, 62, 0), torn(63, 3, 1, 0), full(0)}},
		{[]int{1, 2, 63, 64}, [3][]byte{torn(2, 2, 62, 0), torn(63, 3, 1, 0), full(4)}},
		{[]int{-1, 65, -64, 1}, [3][]byte{full(2), full(0), torn(1, 4, 63, 0)}},
		{[]int{64, 64, 64, 64, 64, 64}, [3][]byte{full(2), full(3), full(4)}},
		{[]int{64, 0, 0, 0, 64}, [3][]byte{full(0), full(0), full(1)}},
	} {
		d := mustNew(t, 3)
		mustWrite(t, d, 2, full(1), api.OK)
		mustWrite(t, d, 0, full(2), api.OK)
		mustWrite(t, d, 1, full(3), api.OK)
		mustWrite(t, d, 2, full(4), api.OK)
		d.Crash(c.keep)
		mustHave(t, d, 0, c.want[:]...)
		if t.Failed() {
			t.Fatalf("Crash(%v)", c.keep)
		}
	}
}

// 13.4: several writes of one sector are torn each by itself, one over the other.
func TestCrashTearsOneSector(t *testing.T) {
	for _, c := range []struct {
		keep []int
		want []byte
	}{
		{[]int{30, 20, 10}, torn(10, 3, 10, 2, 10, 1, 34, 9)},
		{[]int{10, 20, 30}, torn(30, 3, 34, 9)},
		{[]int{20, 10, 30}, torn(30, 3, 34, 9)},
		{[]int{20, 30, 10}, torn(10, 3, 20, 2, 34, 9)},
		{[]int{64, 0, 1}, torn(1, 3, 63, 1)},
		{[]int{0, 64, 0}, full(2)},
		{[]int{65, 63, -1}, torn(63, 2, 1, 1)},
		{[]int{1, 63}, torn(63, 2, 1, 9)},
		{[]int{0, 0, 64}, full(3)},
		{[]int{64, 64, 63}, torn(63, 3, 1, 2)},
	} {
		d := mustLoad(t, full(9))
		for v := range 3 {
			mustWrite(t, d, 0, full(byte(v+1)), api.OK)
		}
		d.Crash(c.keep)
		mustHave(t, d, 0, c.want)
		if t.Failed() {
			t.Fatalf("Crash(%v)", c.keep)
		}
	}
}

// 13.4: a fuse that has not gone off is gone behind Crash; what was kept is safe, what was not is nowhere.
func TestBehindCrash(t *testing.T) {
	d := mustNew(t, 2)
	d.Fuse(3)
	mustWrite(t, d, 0, full(1), api.OK)
	mustWrite(t, d, 1, full(2), api.OK)
	d.Crash([]int{64, 1})
	want := [][]byte{full(1), torn(1, 2, 63, 0)}
	mustHave(t, d, 0, want...)
	for range 3 {
		d.Crash([]int{64, 64, 64}) // nothing waits
		mustHave(t, d, 0, want...)
		mustSync(t, d, api.OK)
		mustHave(t, d, 0, want...)
	}
	mustHaveNoFuse(t, d)
	d.Fuse(0)
	changes(t, d, "S", api.ErrDown)
	d.Crash(nil)
	d.Fuse(1) // and one may be laid again
	changes(t, d, "W", api.OK)
	changes(t, d, "W", api.ErrDown)
}

// 13.4, R3: the numbers stay as they were, and those behind the list's length are not read.
func TestCrashKeepsNothing(t *testing.T) {
	keep := []int{70, -3, 5, 64, 64}
	was := slices.Clone(keep)
	d := mustNew(t, 4)
	for i := range 4 {
		mustWrite(t, d, i, full(byte(i+1)), api.OK)
	}
	d.Crash(keep[:3])
	mustHave(t, d, 0, full(1), full(0), torn(5, 3, 59, 0), full(0))
	if !slices.Equal(keep, was) {
		t.Errorf("the numbers are others: %v", keep)
	}
	clear(keep)
	mustHave(t, d, 0, full(1), full(0), torn(5, 3, 59, 0), full(0))
}

// 13.5: Dump of a new disk, with writes that wait, behind Sync, while the power has gone, behind Crash.
func TestDump(t *testing.T) {
	d := mustNew(t, 3)
	mustDump(t, d, full(0), full(0), full(0))
	mustWrite(t, d, 1, full(1), api.OK)
	mustDump(t, d, full(0), full(1), full(0))
	mustSync(t, d, api.OK)
	mustDump(t, d, full(0), full(1), full(0))
	mustWrite(t, d, 2, full(2), api.OK)
	mustWrite(t, d, 1, full(3), api.OK)
	mustWrite(t, d, 2, full(4), api.OK)
	mustDump(t, d, full(0), full(3), full(4))
	d.Fuse(0)
	mustWrite(t, d, 0, full(5), api.ErrDown)
	mustDump(t, d, full(5), full(3), full(4))
	mustWrite(t, d, 1, full(6), api.ErrDown)
	mustSync(t, d, api.ErrDown)
	mustDump(t, d, full(5), full(3), full(4))
	mustDump(t, d, full(5), full(3), full(4)) // Dump itself has changed nothing
	mustPend(t, d, 4)
	d.Crash(nil)
	mustDump(t, d, full(0), full(1), full(0))
}

// 13.5: a disk that is loaded with what another one dumps is read as that one.
func TestDumpIsLoaded(t *testing.T) {
	d := mustLoad(t, mixed(3, 5*64))
	mustWrite(t, d, 4, full(1), api.OK)
	mustSync(t, d, api.OK)
	mustWrite(t, d, 0, full(2), api.OK)
	other := mustLoad(t, d.Dump())
	for i := range 5 {
		b, _ := d.Read(i)
		mustRead(t, other, i, b)
	}
	mustPend(t, other, 0)
	other.Crash(nil)
	mustRead(t, other, 0, full(2))
}

// script is writes and syncs, wherever of which the power may go; it answers what Dump told behind the last Sync that was answered, and each write since.
func script(d *Disk) (sure []byte, since []write) {
	sure = d.Dump()
	for step := range 12 {
		if step%4 == 3 {
			if d.Sync() != api.OK {
				return sure, since
			}
			sure, since = d.Dump(), nil
			continue
		}
		at, data := step*step%3, mixed(step, 64)
		e := d.Write(at, data)
		since = append(since, write{at: at, data: sector(data)})
		if e != api.OK {
			return sure, since
		}
	}
	return sure, since
}

// mustBeSure is 13.6 of a disk behind Crash: each byte is one that was safe or that was written there since.
func mustBeSure(t *testing.T, name string, d *Disk, sure []byte, since []write) {
	t.Helper()
	got := d.Dump()
	if len(got) != len(sure) {
		t.Fatalf("%s: %d bytes, want %d", name, len(got), len(sure))
	}
	for i, b := range got {
		ok := b == sure[i]
		for _, w := range since {
			ok = ok || w.at == i/64 && w.data[i%64] == b
		}
		if !ok {
			t.Errorf("%s: byte %d is %d, which was neither safe nor written there", name, i, b)
		}
	}
}

// 13.6: wherever the power goes, and whatever is kept.
func TestSyncedStays(t *testing.T) {
	numbers := []int{-1, 0, 1, 31, 63, 64, 65}
	for fuse := -1; fuse < 13; fuse++ {
		for row := range 7 * 7 * 7 {
			keep := []int{numbers[row%7], numbers[row/7%7], numbers[row/49]}
			for n := range 4 {
				d := mustLoad(t, mixed(99, 4*64))
				d.Fuse(fuse)
				sure, since := script(d)
				d.Crash(keep[:n])
				name := fmt.Sprintf("Fuse(%d), Crash(%v)", fuse, keep[:n])
				mustBeSure(t, name, d, sure, since)
				mustRead(t, d, 3, mixed(99, 4*64)[192:]) // never written
				if d.Pending() != 0 || d.Sync() != api.OK {
					t.Fatalf("%s: it does not go on", name)
				}
			}
		}
	}
}

// byWords is a disk by the chapter's words alone, as slow and plain as can be: the bytes that are safe, and the writes that wait.
type byWords struct {
	safe    []byte
	sectors []int
	data    [][]byte
	gone    bool
	fuse    []int // none, or how many changes there are ahead of it
}

// read is 13.2 and 13.5: the last one that waits, or what is safe.
func (w *byWords) read(i int) []byte {
	b := w.safe[64*i : 64*i+64]
	for k, at := range w.sectors {
		if at == i {
			b = w.data[k]
		}
	}
	return b
}

// counted is 13.4 of a change: whether the power goes at it.
func (w *byWords) counted() bool {
	if len(w.fuse) == 1 {
		w.gone = w.fuse[0] == 0
		w.fuse[0]--
	}
	return w.gone
}

// write is 13.3.
func (w *byWords) write(i int, b []byte) api.Errno {
	if w.gone {
		return api.ErrDown
	}
	if i < 0 || 64*i >= len(w.safe) {
		return api.ErrRange
	}
	if len(b) != 64 {
		return api.ErrArg
	}
	w.sectors, w.data = append(w.sectors, i), append(w.data, bytes.Clone(b))
	if w.counted() {
		return api.ErrDown
	}
	return api.OK
}

// sync is 13.3.
func (w *byWords) sync() api.Errno {
	if w.gone || w.counted() {
		return api.ErrDown
	}
	w.keep(func(int) int { return 64 })
	return api.OK
}

// crash is 13.4.
func (w *byWords) crash(keep []int) {
	w.keep(func(k int) int {
		if k >= len(keep) || keep[k] < 0 {
			return 0
		}
		return min(keep[k], 64)
	})
	w.gone, w.fuse = false, nil
}

// keep puts so many bytes of each write that waits over what is safe, byte by byte.
func (w *byWords) keep(count func(k int) int) {
	for k, at := range w.sectors {
		for i := range count(k) {
			w.safe[64*at+i] = w.data[k][i]
		}
	}
	w.sectors, w.data = nil, nil
}

// twin is a disk, and what the chapter's words tell of it.
type twin struct {
	d     *Disk
	w     byWords
	count int // of what was written, so that no two writes are alike
}

// newTwin is one of so many sectors, of bytes that are like chance.
func newTwin(t *testing.T, n int) *twin {
	b := mixed(n, 64*n)
	return &twin{d: mustLoad(t, b), w: byWords{safe: bytes.Clone(b)}}
}

// write writes to both, and tells whether they answer alike.
func (p *twin) write(i, size int) bool {
	p.count++
	b := bytes.Repeat([]byte{byte(p.count), byte(p.count >> 8), byte(i)}, size/3+1)[:size]
	return p.d.Write(i, b) == p.w.write(i, b)
}

// sync syncs both.
func (p *twin) sync() bool { return p.d.Sync() == p.w.sync() }

// fuse lays one in both.
func (p *twin) fuse(n int) bool {
	p.d.Fuse(n)
	if p.w.fuse = nil; n >= 0 {
		p.w.fuse = []int{n}
	}
	return true
}

// crash has the power of both go and come.
func (p *twin) crash(keep ...int) bool {
	p.d.Crash(keep)
	p.w.crash(keep)
	return true
}

// alike tells whether all that is told of both is the same.
func (p *twin) alike() bool {
	n := len(p.w.safe) / 64
	if p.d.Size() != n || p.d.Pending() != len(p.w.sectors) {
		return false
	}
	dump := p.d.Dump()
	for i := range n {
		b, e := p.d.Read(i)
		if want := p.w.read(i); !bytes.Equal(dump[64*i:64*i+64], want) || p.w.gone != (e == api.ErrDown) || !p.w.gone && (e != api.OK || !bytes.Equal(b, want)) || p.w.gone && len(b) != 0 {
			return false
		}
	}
	return len(dump) == 64*n
}

// steps is what may be done to a twin, in the rows that are tried.
func steps() []func(p *twin) bool {
	return []func(p *twin) bool{
		func(p *twin) bool { return p.write(0, 64) },
		func(p *twin) bool { return p.write(1, 64) },
		func(p *twin) bool { return p.write(2, 63) },
		func(p *twin) bool { return p.write(0, 65) },
		func(p *twin) bool { return p.sync() },
		func(p *twin) bool { return p.fuse(0) },
		func(p *twin) bool { return p.fuse(1) },
		func(p *twin) bool { return p.fuse(2) },
		func(p *twin) bool { return p.fuse(-1) },
		func(p *twin) bool { return p.crash() },
		func(p *twin) bool { return p.crash(40) },
		func(p *twin) bool { return p.crash(65, 1, 63) },
	}
}

// 13.1 to 13.5: all rows of five steps, held against the chapter's words.
func TestAllRows(t *testing.T) {
	all := steps()
	const many = 5
	rows := 1
	for range many {
		rows *= len(all)
	}
	for row := range rows {
		p := newTwin(t, 2)
		for at, rest := 0, row; at < many; at, rest = at+1, rest/len(all) {
			if !all[rest%len(all)](p) {
				t.Fatalf("row %d: step %d is answered otherwise", row, at)
			}
		}
		if !p.alike() {
			t.Fatalf("row %d: another thing is told", row)
		}
	}
}

// 13.1 to 13.6: long rows that are like chance, held against the chapter's words at each step.
func TestLongRows(t *testing.T) {
	for seed := range 60 {
		chance := rand.New(rand.NewPCG(uint64(seed), 13))
		p := newTwin(t, 1+seed%9)
		sure, since := p.d.Dump(), []write(nil)
		for at := range 400 {
			name := fmt.Sprintf("seed %d, step %d", seed, at)
			ok, waited := true, p.d.Pending()
			switch n := chance.IntN(20); {
			case n < 12:
				i := chance.IntN(p.d.Size()+2) - 1
				if ok = p.write(i, 64-chance.IntN(12)/11); p.d.Pending() > waited {
					since = append(since, write{at: i, data: sector(p.w.data[waited])})
				}
			case n < 16:
				if ok = p.sync(); !p.w.gone {
					sure, since = p.d.Dump(), nil
				}
			case n < 18:
				ok = p.fuse(chance.IntN(12) - 2)
			default:
				ok = p.crash(manyNumbers(chance, waited)...)
				mustBeSure(t, name, p.d, sure, since)
				sure, since = p.d.Dump(), nil
			}
			if !ok || !p.alike() {
				t.Fatalf("%s: another thing is told", name)
			}
		}
	}
}

// manyNumbers is numbers for a crash, of some more or some fewer writes than there are.
func manyNumbers(chance *rand.Rand, writes int) (keep []int) {
	for range chance.IntN(writes + 3) {
		keep = append(keep, chance.IntN(72)-4)
	}
	return keep
}

// P7: the same calls on two disks are answered alike, whatever is done to others between.
func TestAlike(t *testing.T) {
	row := func(between func()) (answers [][]byte) {
		d := mustLoad(t, mixed(4, 3*64))
		note := func(e api.Errno) {
			between()
			b, f := d.Read(1)
			answers = append(answers, b, d.Dump(), fmt.Appendf(nil, "%v %v %d %d", e, f, d.Size(), d.Pending()))
		}
		d.Fuse(6)
		for i := range 9 {
			note(d.Write(i%4, mixed(i, 64)))
		}
		note(d.Sync())
		d.Crash([]int{3, 64, 0, 17})
		note(d.Sync())
		note(d.Write(0, full(1)))
		d.Crash(nil)
		note(api.OK)
		return answers
	}
	first := row(func() {})
	other := mustNew(t, 3)
	for range 3 {
		again := row(func() {
			other.Write(1, full(9))
			other.Sync()
			other.Fuse(1)
			other.Crash([]int{64})
		})
		if !slices.EqualFunc(first, again, bytes.Equal) {
			t.Error("another thing is told")
		}
	}
}

// P1: no call panics, whatever it is given; a Disk that no call has made has no sectors.
func TestNoPanic(t *testing.T) {
	numbers := []int{math.MinInt, -65, -1, 0, 1, 63, 64, 65, 16384, math.MaxInt}
	for _, d := range []*Disk{{}, mustNew(t, 1), mustNew(t, 65), downAt(t, full(1))} {
		for _, n := range numbers {
			for _, b := range [][]byte{nil, {}, full(1), full(1)[1:], make([]byte, 65)} {
				d.Write(n, b)
			}
			d.Read(n)
			d.Fuse(n)
			d.Sync()
			d.Dump()
			d.Crash([]int{n, n})
			d.Crash(nil)
		}
	}
	var none Disk
	mustNotRead(t, &none, 0, api.ErrRange)
	mustWrite(t, &none, 0, full(1), api.ErrRange)
	mustSync(t, &none, api.OK)
	mustRest(t, &none, 0)
}
