package disk_test

import (
	"math"
	"math/rand"
	"slices"
	"testing"

	"mortmain/api"
	"mortmain/disk"
)

// made returns a disk of n sectors.
func made(t *testing.T, n int) *disk.Disk {
	t.Helper()
	d, code := disk.New(n)
	if code != api.OK || d == nil {
		t.Fatalf("New(%d) = %v, %d", n, d, code)
	}
	return d
}

// filled returns a sector whose bytes are all b, so that no part of it can be lost unnoticed.
func filled(b byte) api.Sector {
	var s api.Sector
	for i := range s {
		s[i] = b
	}
	return s
}

// write writes a sector full of b, which must succeed.
func write(t *testing.T, d *disk.Disk, at int, b byte) {
	t.Helper()
	if code := d.Write(at, filled(b)); code != api.OK {
		t.Fatalf("Write(%d, %d) = %d", at, b, code)
	}
}

// flush flushes, which must succeed.
func flush(t *testing.T, d *disk.Disk) {
	t.Helper()
	if code := d.Flush(); code != api.OK {
		t.Fatalf("Flush() = %d", code)
	}
}

// wantRead checks that the sectors from 0 on are full of those bytes.
func wantRead(t *testing.T, d *disk.Disk, want ...byte) {
	t.Helper()
	for at, b := range want {
		if s, code := d.Read(at); code != api.OK || s != filled(b) {
			t.Errorf("Read(%d) = %v, %d, want all %d", at, s, code, b)
		}
	}
}

// wantImage checks that the durable sectors are full of those bytes, and that there are no others.
func wantImage(t *testing.T, d *disk.Disk, want ...byte) {
	t.Helper()
	image := d.Image()
	if len(image) != len(want) {
		t.Fatalf("Image has %d sectors, want %d", len(image), len(want))
	}
	for at, b := range want {
		if image[at] != filled(b) {
			t.Errorf("sector %d of the image is %v, want all %d", at, image[at], b)
		}
	}
}

// wantPending checks the volatile writes, which Waits counts.
func wantPending(t *testing.T, d *disk.Disk, want ...int) {
	t.Helper()
	if got := d.Pending(); !slices.Equal(got, want) || d.Waits() != len(want) {
		t.Errorf("Pending() = %v, Waits() = %d, want %v", got, d.Waits(), want)
	}
}

// wantSteps checks how many writes and flushes were performed.
func wantSteps(t *testing.T, d *disk.Disk, want int) {
	t.Helper()
	if got := d.Steps(); got != want {
		t.Errorf("Steps() = %d, want %d", got, want)
	}
}

// wantDown checks whether the power has failed.
func wantDown(t *testing.T, d *disk.Disk, want bool) {
	t.Helper()
	if got := d.Down(); got != want {
		t.Errorf("Down() = %t, want %t", got, want)
	}
}

// missing returns numbers of sectors that a disk of n sectors does not have.
func missing(n int) []int {
	return []int{-1, -2, -n, math.MinInt, n, n + 1, 2 * n, disk.MaxSectors, 1 << 32, math.MaxInt}
}

// keeps returns every choice of n writes to keep.
func keeps(n int) [][]bool {
	l := make([][]bool, 1<<n)
	for choice := range l {
		l[choice] = make([]bool, n)
		for i := range n {
			l[choice][i] = choice>>i&1 == 1
		}
	}
	return l
}

// Promise 6.1.

func TestMaxSectors(t *testing.T) {
	if disk.MaxSectors != 4096 {
		t.Errorf("MaxSectors = %d", disk.MaxSectors)
	}
}

func TestNew(t *testing.T) {
	for _, n := range []int{1, 2, 3, 255, 256, 257, 4095, 4096} {
		d := made(t, n)
		if d.Size() != n {
			t.Errorf("New(%d).Size() = %d", n, d.Size())
		}
		wantSteps(t, d, 0)
		wantPending(t, d)
		wantDown(t, d, false)
		wantRead(t, d, make([]byte, n)...)
		wantImage(t, d, make([]byte, n)...)
	}
}

func TestNewRejects(t *testing.T) {
	for _, n := range []int{0, -1, -4096, math.MinInt, 4097, 8192, 1 << 32, 1<<32 + 1, math.MaxInt} {
		if d, code := disk.New(n); d != nil || code != api.ErrRange {
			t.Errorf("New(%d) = %v, %d, want ErrRange", n, d, code)
		}
	}
}

func TestDisksAreIndependent(t *testing.T) {
	a, b := made(t, 2), made(t, 2)
	write(t, a, 0, 1)
	flush(t, a)
	write(t, a, 1, 2)
	a.Fuse(0)
	if code := a.Flush(); code != api.ErrDown {
		t.Errorf("Flush() at the fuse = %d", code)
	}
	wantSteps(t, b, 0)
	wantPending(t, b)
	wantDown(t, b, false)
	wantRead(t, b, 0, 0)
	wantImage(t, b, 0, 0)
	flush(t, b)
}

func TestSizeStays(t *testing.T) {
	d := made(t, 3)
	write(t, d, 2, 1)
	flush(t, d)
	write(t, d, 0, 1)
	d.Fuse(0)
	d.Flush()
	if d.Size() != 3 {
		t.Errorf("Size() = %d without power", d.Size())
	}
	d.Crash(nil)
	if d.Size() != 3 {
		t.Errorf("Size() = %d after a crash", d.Size())
	}
}

func TestStepsCountsWritesAndFlushes(t *testing.T) {
	d := made(t, 2)
	flush(t, d) // one without a volatile write is performed as well
	wantSteps(t, d, 1)
	write(t, d, 0, 1)
	write(t, d, 0, 1)
	write(t, d, 1, 0)
	wantSteps(t, d, 4)
	flush(t, d)
	flush(t, d)
	wantSteps(t, d, 6)
}

func TestStepsDoesNotCountTheRest(t *testing.T) {
	d := made(t, 2)
	write(t, d, 0, 1)
	d.Read(0)
	d.Read(5)
	d.Write(5, filled(1))
	d.Write(-1, filled(1))
	d.Fuse(3)
	d.Fuse(-1)
	d.Size()
	d.Waits()
	d.Pending()
	d.Down()
	d.Image()
	d.Twin()
	wantSteps(t, d, 1)
	d.Crash([]bool{true})
	wantSteps(t, d, 1)
	flush(t, d)
	wantSteps(t, d, 2)
}

func TestStepsDoesNotCountFailures(t *testing.T) {
	d := made(t, 2)
	write(t, d, 0, 1)
	d.Fuse(0)
	d.Write(1, filled(1))
	wantSteps(t, d, 1)
	d.Write(1, filled(1))
	d.Flush()
	wantSteps(t, d, 1)
}

func TestPendingIsInOrderOfWrites(t *testing.T) {
	d := made(t, 4)
	want := []int{}
	for _, at := range []int{3, 0, 3, 3, 1, 0, 2} {
		write(t, d, at, 1)
		want = append(want, at)
		wantPending(t, d, want...)
	}
	flush(t, d)
	wantPending(t, d)
	write(t, d, 2, 1)
	wantPending(t, d, 2)
}

func TestPendingHasWritesWithoutEffect(t *testing.T) {
	d := made(t, 2)
	write(t, d, 1, 0)
	write(t, d, 1, 0)
	wantPending(t, d, 1, 1)
}

func TestPendingIsNewMemory(t *testing.T) {
	d := made(t, 4)
	write(t, d, 1, 1)
	write(t, d, 2, 2)
	l := d.Pending()
	l[0], l[1] = 3, 3
	_ = append(l, 3)
	wantPending(t, d, 1, 2)
	old := d.Pending()
	write(t, d, 3, 3)
	flush(t, d)
	write(t, d, 0, 0)
	if !slices.Equal(old, []int{1, 2}) {
		t.Errorf("what Pending returned has become %v", old)
	}
	wantImage(t, d, 0, 1, 2, 3)
}

// Promise 6.2.

func TestReadOfVolatileWrite(t *testing.T) {
	d := made(t, 3)
	write(t, d, 1, 7)
	wantRead(t, d, 0, 7, 0)
	wantImage(t, d, 0, 0, 0)
	write(t, d, 1, 8)
	wantRead(t, d, 0, 8, 0)
	write(t, d, 1, 0)
	wantRead(t, d, 0, 0, 0)
}

func TestReadOfDurableWrite(t *testing.T) {
	d := made(t, 3)
	write(t, d, 1, 7)
	flush(t, d)
	wantRead(t, d, 0, 7, 0)
	write(t, d, 1, 8)
	write(t, d, 2, 9)
	wantRead(t, d, 0, 8, 9)
	wantImage(t, d, 0, 7, 0)
	// A volatile write of zeros hides durable content too.
	write(t, d, 1, 0)
	wantRead(t, d, 0, 0, 9)
	wantImage(t, d, 0, 7, 0)
}

func TestReadChangesNothing(t *testing.T) {
	d := made(t, 2)
	write(t, d, 0, 1)
	for range 3 {
		wantRead(t, d, 1, 0)
	}
	s, _ := d.Read(0)
	s[0] = 9
	wantRead(t, d, 1, 0)
	wantPending(t, d, 0)
	wantImage(t, d, 0, 0)
}

func TestReadAndWriteOfEachSector(t *testing.T) {
	d := made(t, disk.MaxSectors)
	want := make([]byte, disk.MaxSectors)
	for at := range want {
		want[at] = byte(at%251) + 1
		write(t, d, at, want[at])
	}
	wantRead(t, d, want...)
	if d.Waits() != disk.MaxSectors {
		t.Errorf("Waits() = %d", d.Waits())
	}
	wantImage(t, d, make([]byte, disk.MaxSectors)...)
	flush(t, d)
	wantRead(t, d, want...)
	wantImage(t, d, want...)
}

func TestWriteOfDifferentBytes(t *testing.T) {
	var s api.Sector
	for i := range s {
		s[i] = byte(i)
	}
	d := made(t, 1)
	if code := d.Write(0, s); code != api.OK {
		t.Fatal(code)
	}
	if got, code := d.Read(0); code != api.OK || got != s {
		t.Errorf("Read(0) = %v, %d", got, code)
	}
	flush(t, d)
	if got, code := d.Read(0); code != api.OK || got != s || d.Image()[0] != s {
		t.Errorf("Read(0) = %v, %d after the flush", got, code)
	}
}

func TestReadRejects(t *testing.T) {
	for _, n := range []int{1, 3, disk.MaxSectors} {
		d := made(t, n)
		write(t, d, n-1, 1)
		for _, at := range missing(n) {
			if s, code := d.Read(at); code != api.ErrRange || s != filled(0) {
				t.Errorf("Read(%d) of %d sectors = %v, %d, want ErrRange", at, n, s, code)
			}
		}
	}
}

func TestWriteRejects(t *testing.T) {
	for _, n := range []int{1, 3, disk.MaxSectors} {
		d := made(t, n)
		write(t, d, n-1, 1)
		want := d.Image()
		for _, at := range missing(n) {
			if code := d.Write(at, filled(9)); code != api.ErrRange {
				t.Errorf("Write(%d) of %d sectors = %d, want ErrRange", at, n, code)
			}
		}
		wantSteps(t, d, 1)
		wantPending(t, d, n-1)
		wantDown(t, d, false)
		d.Crash(nil)
		if !slices.Equal(d.Image(), want) {
			t.Errorf("a write behind %d sectors changed one", n)
		}
	}
}

func TestFlushMakesDurableInOrder(t *testing.T) {
	d := made(t, 3)
	write(t, d, 0, 1)
	write(t, d, 1, 2)
	write(t, d, 0, 3)
	write(t, d, 1, 4)
	write(t, d, 0, 5)
	flush(t, d)
	wantPending(t, d)
	wantImage(t, d, 5, 4, 0)
	wantRead(t, d, 5, 4, 0)
}

func TestFlushOfNothing(t *testing.T) {
	d := made(t, 2)
	write(t, d, 0, 1)
	flush(t, d)
	flush(t, d)
	wantPending(t, d)
	wantImage(t, d, 1, 0)
}

func TestWithoutPower(t *testing.T) {
	d := made(t, 3)
	write(t, d, 0, 1)
	flush(t, d)
	write(t, d, 0, 2)
	write(t, d, 1, 3)
	d.Fuse(0)
	if code := d.Flush(); code != api.ErrDown {
		t.Errorf("Flush() at the fuse = %d", code)
	}
	for range 3 {
		for at := range 3 {
			if s, code := d.Read(at); code != api.ErrDown || s != filled(0) {
				t.Errorf("Read(%d) without power = %v, %d, want ErrDown", at, s, code)
			}
			if code := d.Write(at, filled(9)); code != api.ErrDown {
				t.Errorf("Write(%d) without power = %d, want ErrDown", at, code)
			}
		}
		if code := d.Flush(); code != api.ErrDown {
			t.Errorf("Flush() without power = %d, want ErrDown", code)
		}
	}
	// What is durable, and what is volatile, stays so until the crash.
	wantDown(t, d, true)
	wantSteps(t, d, 4)
	wantPending(t, d, 0, 1)
	wantImage(t, d, 1, 0, 0)
	if n := d.Crash([]bool{true, true}); n != 2 {
		t.Errorf("Crash kept %d", n)
	}
	wantRead(t, d, 2, 3, 0)
}

func TestRangePrecedesPower(t *testing.T) {
	d := made(t, 3)
	d.Fuse(0)
	d.Flush()
	wantDown(t, d, true)
	for _, at := range missing(3) {
		if s, code := d.Read(at); code != api.ErrRange || s != filled(0) {
			t.Errorf("Read(%d) without power = %v, %d, want ErrRange", at, s, code)
		}
		if code := d.Write(at, filled(1)); code != api.ErrRange {
			t.Errorf("Write(%d) without power = %d, want ErrRange", at, code)
		}
	}
}

// Promise 6.3.

func TestFuseCountsWritesAndFlushes(t *testing.T) {
	for _, isFlush := range keeps(5) {
		for n := range 5 {
			d := made(t, 2)
			d.Fuse(n)
			for i := range 5 {
				code := api.OK
				if isFlush[i] {
					code = d.Flush()
				} else {
					code = d.Write(0, filled(byte(i+1)))
				}
				want := api.OK
				if i >= n {
					want = api.ErrDown
				}
				if code != want || d.Down() != (i >= n) {
					t.Errorf("with a fuse of %d, step %d of %v = %d, down: %t", n, i, isFlush, code, d.Down())
				}
			}
			wantSteps(t, d, n)
		}
	}
}

func TestWriteAtWhichThePowerFails(t *testing.T) {
	d := made(t, 2)
	write(t, d, 0, 1)
	d.Fuse(0)
	if code := d.Write(0, filled(2)); code != api.ErrDown {
		t.Errorf("Write at the fuse = %d", code)
	}
	wantPending(t, d, 0)
	wantSteps(t, d, 1)
	if n := d.Crash([]bool{true, true}); n != 1 {
		t.Errorf("Crash kept %d writes", n)
	}
	wantRead(t, d, 1, 0)
}

func TestFlushAtWhichThePowerFails(t *testing.T) {
	d := made(t, 2)
	write(t, d, 0, 1)
	d.Fuse(0)
	if code := d.Flush(); code != api.ErrDown {
		t.Errorf("Flush at the fuse = %d", code)
	}
	wantPending(t, d, 0)
	wantSteps(t, d, 1)
	wantImage(t, d, 0, 0)
	if n := d.Crash(nil); n != 0 {
		t.Errorf("Crash kept %d writes", n)
	}
	wantRead(t, d, 0, 0)
}

func TestDownOnlyFromTheFailureOn(t *testing.T) {
	d := made(t, 2)
	d.Fuse(0)
	wantDown(t, d, false)
	// Nothing but a write or a flush triggers the failure.
	wantRead(t, d, 0, 0)
	d.Image()
	d.Pending()
	d.Twin()
	for _, at := range missing(2) {
		if code := d.Write(at, filled(1)); code != api.ErrRange {
			t.Errorf("Write(%d) = %d", at, code)
		}
		if _, code := d.Read(at); code != api.ErrRange {
			t.Errorf("Read(%d) = %d", at, code)
		}
	}
	wantDown(t, d, false)
	if code := d.Write(0, filled(1)); code != api.ErrDown {
		t.Errorf("Write(0) = %d", code)
	}
	wantDown(t, d, true)
}

func TestFuseDoesNotCountTheRest(t *testing.T) {
	d := made(t, 2)
	d.Fuse(2)
	for _, at := range missing(2) {
		d.Write(at, filled(1))
		d.Read(at)
	}
	wantRead(t, d, 0, 0)
	d.Image()
	d.Twin()
	write(t, d, 0, 1)
	d.Write(2, filled(1))
	flush(t, d)
	wantDown(t, d, false)
	if code := d.Flush(); code != api.ErrDown {
		t.Errorf("the third step = %d", code)
	}
}

func TestFuseCountsFromItsCall(t *testing.T) {
	d := made(t, 2)
	write(t, d, 0, 1)
	write(t, d, 1, 1)
	flush(t, d)
	d.Fuse(1)
	write(t, d, 0, 2)
	if code := d.Write(0, filled(3)); code != api.ErrDown {
		t.Errorf("the second write = %d", code)
	}
	wantSteps(t, d, 4)
}

func TestFuseReplacesTheLast(t *testing.T) {
	d := made(t, 1)
	d.Fuse(0)
	d.Fuse(2)
	write(t, d, 0, 1)
	d.Fuse(2)
	write(t, d, 0, 2)
	write(t, d, 0, 3)
	if code := d.Write(0, filled(4)); code != api.ErrDown {
		t.Errorf("Write behind a fuse of 2 = %d", code)
	}
	d = made(t, 1)
	d.Fuse(100)
	d.Fuse(0)
	if code := d.Flush(); code != api.ErrDown {
		t.Errorf("Flush behind a fuse of 0 = %d", code)
	}
}

func TestNegativeFuse(t *testing.T) {
	for _, n := range []int{-1, -2, -1000, math.MinInt} {
		for _, before := range []int{-1, 0, 1} {
			d := made(t, 1)
			d.Fuse(before)
			d.Fuse(n)
			for range 10 {
				write(t, d, 0, 1)
				flush(t, d)
			}
			wantDown(t, d, false)
			wantSteps(t, d, 20)
		}
	}
}

func TestLargeFuse(t *testing.T) {
	for _, n := range []int{1 << 31, 1 << 32, math.MaxInt} {
		d := made(t, 1)
		for range 10 {
			write(t, d, 0, 1)
			flush(t, d)
			d.Fuse(n)
		}
		wantDown(t, d, false)
		wantSteps(t, d, 20)
	}
}

func TestNoFuseAtFirst(t *testing.T) {
	d := made(t, 1)
	for range 1000 {
		write(t, d, 0, 1)
		flush(t, d)
	}
	wantDown(t, d, false)
}

func TestFuseDoesNotRestorePower(t *testing.T) {
	for _, n := range []int{-1, math.MinInt, 0, 1, 5, math.MaxInt} {
		d := made(t, 1)
		d.Fuse(0)
		d.Flush()
		d.Fuse(n)
		wantDown(t, d, true)
		if _, code := d.Read(0); code != api.ErrDown {
			t.Errorf("Read(0) after Fuse(%d) = %d", n, code)
		}
		if code := d.Write(0, filled(1)); code != api.ErrDown {
			t.Errorf("Write(0) after Fuse(%d) = %d", n, code)
		}
		if code := d.Flush(); code != api.ErrDown {
			t.Errorf("Flush() after Fuse(%d) = %d", n, code)
		}
		wantDown(t, d, true)
		wantSteps(t, d, 0)
		// Nor does what was scheduled without power outlive the crash.
		d.Crash(nil)
		for range 10 {
			write(t, d, 0, 1)
		}
	}
}

// Promise 6.4.

// The chapter's example.
func TestCrashKeepsNothing(t *testing.T) {
	d := made(t, 2)
	write(t, d, 0, 1)
	flush(t, d)
	write(t, d, 0, 2)
	if n := d.Crash([]bool{false}); n != 0 {
		t.Errorf("Crash kept %d", n)
	}
	wantRead(t, d, 1, 0)
	wantImage(t, d, 1, 0)
	wantPending(t, d)
}

func TestCrashKeepsEveryChoice(t *testing.T) {
	ats := []int{0, 1, 0, 2, 1, 0}
	for _, keep := range keeps(len(ats)) {
		d := made(t, 3)
		want, kept := []byte{0, 0, 0}, 0
		for i, at := range ats {
			write(t, d, at, byte(i+1))
			if keep[i] {
				want[at] = byte(i + 1)
				kept++
			}
		}
		if n := d.Crash(keep); n != kept {
			t.Errorf("Crash(%v) = %d, want %d", keep, n, kept)
		}
		wantRead(t, d, want...)
		wantImage(t, d, want...)
		wantPending(t, d)
	}
}

func TestCrashCountsWritesWithoutEffect(t *testing.T) {
	d := made(t, 1)
	write(t, d, 0, 1)
	write(t, d, 0, 1)
	write(t, d, 0, 0)
	if n := d.Crash([]bool{true, true, true}); n != 3 {
		t.Errorf("Crash kept %d", n)
	}
	wantImage(t, d, 0)
}

func TestCrashWithShortKeep(t *testing.T) {
	all := []bool{true, true, true, true}
	for n := range 4 {
		d := made(t, 4)
		want := make([]byte, 4)
		for at := range 4 {
			write(t, d, at, 1)
			if at < n {
				want[at] = 1
			}
		}
		// What lies behind the end of the slice is not looked at.
		if got := d.Crash(all[:n]); got != n {
			t.Errorf("Crash with %d of 4 = %d", n, got)
		}
		wantRead(t, d, want...)
		wantPending(t, d)
	}
}

func TestCrashWithNilKeep(t *testing.T) {
	d := made(t, 1)
	write(t, d, 0, 1)
	if n := d.Crash(nil); n != 0 {
		t.Errorf("Crash(nil) = %d", n)
	}
	wantRead(t, d, 0)
}

func TestCrashWithLongKeep(t *testing.T) {
	long := make([]bool, 1000)
	for i := range long {
		long[i] = true
	}
	d := made(t, 2)
	if n := d.Crash(long); n != 0 {
		t.Errorf("Crash without writes kept %d", n)
	}
	write(t, d, 0, 1)
	write(t, d, 1, 2)
	if n := d.Crash(long); n != 2 {
		t.Errorf("Crash of two writes kept %d", n)
	}
	wantRead(t, d, 1, 2)
}

func TestCrashLeavesItsArgument(t *testing.T) {
	keep := []bool{false, true, false, true}
	d := made(t, 2)
	write(t, d, 0, 1)
	write(t, d, 1, 2)
	d.Crash(keep[:2])
	if !slices.Equal(keep, []bool{false, true, false, true}) {
		t.Errorf("the argument was changed to %v", keep)
	}
	keep[0], keep[1] = true, false
	wantRead(t, d, 0, 2)
}

func TestCrashStartsANewList(t *testing.T) {
	d := made(t, 3)
	write(t, d, 0, 1)
	write(t, d, 1, 2)
	d.Crash([]bool{false, true})
	write(t, d, 2, 3)
	wantPending(t, d, 2)
	if n := d.Crash([]bool{true}); n != 1 {
		t.Errorf("Crash kept %d", n)
	}
	wantRead(t, d, 0, 2, 3)
	flush(t, d)
	wantImage(t, d, 0, 2, 3)
}

func TestCrashRestoresPower(t *testing.T) {
	d := made(t, 2)
	write(t, d, 0, 1)
	d.Fuse(0)
	d.Flush()
	wantDown(t, d, true)
	d.Crash([]bool{true})
	wantDown(t, d, false)
	wantRead(t, d, 1, 0)
	for range 10 {
		write(t, d, 1, 2)
		flush(t, d)
	}
	wantDown(t, d, false)
	wantImage(t, d, 1, 2)
}

func TestCrashCancelsFuse(t *testing.T) {
	for n := range 4 {
		d := made(t, 1)
		d.Fuse(n)
		d.Crash(nil)
		for range 10 {
			write(t, d, 0, 1)
			flush(t, d)
		}
		wantDown(t, d, false)
	}
}

func TestFuseAfterCrash(t *testing.T) {
	d := made(t, 1)
	d.Fuse(0)
	d.Flush()
	d.Crash(nil)
	d.Fuse(1)
	write(t, d, 0, 1)
	if code := d.Flush(); code != api.ErrDown {
		t.Errorf("Flush() behind the fuse = %d", code)
	}
	wantDown(t, d, true)
}

func TestImageIsNewMemory(t *testing.T) {
	d := made(t, 2)
	write(t, d, 0, 1)
	flush(t, d)
	image := d.Image()
	image[0], image[1] = filled(9), filled(9)
	wantRead(t, d, 1, 0)
	wantImage(t, d, 1, 0)
	old := d.Image()
	write(t, d, 0, 2)
	flush(t, d)
	write(t, d, 1, 3)
	d.Crash([]bool{true})
	if old[0] != filled(1) || old[1] != filled(0) {
		t.Error("what Image returned has changed")
	}
	wantImage(t, d, 2, 3)
}

func TestTwinIsTheSame(t *testing.T) {
	d := made(t, 3)
	write(t, d, 0, 1)
	flush(t, d)
	write(t, d, 1, 2)
	write(t, d, 1, 3)
	write(t, d, 0, 4)
	twin := d.Twin()
	if twin == d || twin.Size() != 3 {
		t.Fatalf("Twin has %d sectors", twin.Size())
	}
	wantSteps(t, twin, 5)
	wantPending(t, twin, 1, 1, 0)
	wantDown(t, twin, false)
	wantRead(t, twin, 4, 3, 0)
	wantImage(t, twin, 1, 0, 0)
	if n := twin.Crash([]bool{true, false, true}); n != 2 {
		t.Errorf("Crash of the twin kept %d", n)
	}
	wantRead(t, twin, 4, 2, 0)
}

func TestTwinHasThePowerState(t *testing.T) {
	d := made(t, 1)
	d.Fuse(1)
	twin := d.Twin()
	write(t, twin, 0, 1)
	if code := twin.Flush(); code != api.ErrDown {
		t.Errorf("Flush() of the twin = %d", code)
	}
	// The fuse of the disk itself did not burn.
	write(t, d, 0, 2)
	wantDown(t, d, false)

	again := twin.Twin()
	wantDown(t, again, true)
	wantPending(t, again, 0)
	if _, code := again.Read(0); code != api.ErrDown {
		t.Errorf("Read(0) of a twin without power = %d", code)
	}
	again.Crash(nil)
	wantDown(t, again, false)
	wantDown(t, twin, true)
	wantPending(t, twin, 0)
}

func TestTwinIsIndependent(t *testing.T) {
	for _, first := range []bool{false, true} {
		d := made(t, 3)
		write(t, d, 0, 1)
		flush(t, d)
		write(t, d, 1, 2)
		stays, goes := d, d.Twin()
		if first {
			stays, goes = goes, stays
		}
		write(t, goes, 0, 5)
		write(t, goes, 1, 6)
		write(t, goes, 2, 7)
		wantPending(t, stays, 1)
		wantRead(t, stays, 1, 2, 0)
		flush(t, goes)
		wantImage(t, stays, 1, 0, 0)
		goes.Fuse(0)
		goes.Flush()
		wantSteps(t, stays, 3)
		wantDown(t, stays, false)
		// Both go on where they parted, each with a list of its own.
		write(t, stays, 2, 8)
		goes.Crash(nil)
		wantPending(t, stays, 1, 2)
		wantRead(t, stays, 1, 2, 8)
		wantRead(t, goes, 5, 6, 7)
		if n := stays.Crash([]bool{true, true}); n != 2 {
			t.Errorf("Crash kept %d", n)
		}
		wantImage(t, stays, 1, 2, 8)
		wantImage(t, goes, 5, 6, 7)
	}
}

func TestTwinsAppendApart(t *testing.T) {
	d := made(t, 4)
	for range 100 {
		write(t, d, 0, 1)
		twin := d.Twin()
		write(t, twin, 1, 2)
		write(t, d, 3, 3)
		s, _ := twin.Read(1)
		last := twin.Pending()[twin.Waits()-1]
		if s != filled(2) || last != 1 {
			t.Fatalf("the twin's last write is of sector %d: %v", last, s)
		}
	}
}

// Promise 6.5.

func TestFlushedWritesSurviveEveryCrash(t *testing.T) {
	ats := []int{1, 0, 1, 3}
	for fuse := range len(ats) + 1 {
		for _, keep := range keeps(len(ats)) {
			d := made(t, 4)
			for at := range 4 {
				write(t, d, at, byte(at+10))
			}
			flush(t, d)
			want := []byte{10, 11, 12, 13}
			d.Fuse(fuse)
			for i, at := range ats {
				if code := d.Write(at, filled(byte(i+1))); code == api.OK && keep[i] {
					want[at] = byte(i + 1)
				}
			}
			d.Crash(keep)
			wantRead(t, d, want...)
			wantImage(t, d, want...)
		}
	}
}

func TestKeptWritesSurviveLaterCrashes(t *testing.T) {
	d := made(t, 2)
	write(t, d, 0, 1)
	d.Crash([]bool{true})
	write(t, d, 0, 2)
	d.Crash(nil)
	wantRead(t, d, 1, 0)
}

// model is a disk as the chapter words it: nothing but lists of writes, searched from their ends.
type model struct {
	size             int
	durable          []api.Change
	volatile         []api.Change
	steps            int
	scheduled, power bool
	left             int
}

func (m *model) perform() bool {
	if !m.power {
		return false
	}
	if m.scheduled && m.left == 0 {
		m.power = false
		return false
	}
	m.left--
	m.steps++
	return true
}

func (m *model) content(at int, volatile bool) api.Sector {
	all := slices.Clone(m.durable)
	if volatile {
		all = append(all, m.volatile...)
	}
	for _, w := range slices.Backward(all) {
		if w.At == at {
			return w.S
		}
	}
	return api.Sector{}
}

func (m *model) read(at int) (api.Sector, api.Code) {
	if at < 0 || at >= m.size {
		return api.Sector{}, api.ErrRange
	}
	if !m.power {
		return api.Sector{}, api.ErrDown
	}
	return m.content(at, true), api.OK
}

func (m *model) write(at int, s api.Sector) api.Code {
	if at < 0 || at >= m.size {
		return api.ErrRange
	}
	if !m.perform() {
		return api.ErrDown
	}
	m.volatile = append(m.volatile, api.Change{At: at, S: s})
	return api.OK
}

func (m *model) flush() api.Code {
	if !m.perform() {
		return api.ErrDown
	}
	m.durable = append(m.durable, m.volatile...)
	m.volatile = nil
	return api.OK
}

func (m *model) crash(keep []bool) int {
	kept := 0
	for i, w := range m.volatile {
		if i < len(keep) && keep[i] {
			m.durable = append(m.durable, w)
			kept++
		}
	}
	m.volatile, m.power, m.scheduled = nil, true, false
	return kept
}

func (m *model) twin() *model {
	twin := *m
	twin.durable, twin.volatile = slices.Clone(m.durable), slices.Clone(m.volatile)
	return &twin
}

// compare checks everything that a disk tells against the model.
func compare(t *testing.T, d *disk.Disk, m *model) {
	t.Helper()
	ats := []int{}
	for _, w := range m.volatile {
		ats = append(ats, w.At)
	}
	wantPending(t, d, ats...)
	wantSteps(t, d, m.steps)
	wantDown(t, d, !m.power)
	image := d.Image()
	if d.Size() != m.size || len(image) != m.size {
		t.Fatalf("%d sectors, %d in the image, want %d", d.Size(), len(image), m.size)
	}
	for at := -1; at <= m.size; at++ {
		s, code := d.Read(at)
		if want, wantCode := m.read(at); s != want || code != wantCode {
			t.Errorf("Read(%d) = %v, %d, want %v, %d", at, s, code, want, wantCode)
		}
	}
	for at, s := range image {
		if want := m.content(at, false); s != want {
			t.Errorf("sector %d of the image = %v, want %v", at, s, want)
		}
	}
}

// act does the same at random to a disk and to the model.
func act(t *testing.T, r *rand.Rand, d *disk.Disk, m *model) {
	t.Helper()
	switch k := r.Intn(20); {
	case k < 12:
		at, s := r.Intn(m.size+2)-1, filled(byte(r.Intn(256)))
		if code, want := d.Write(at, s), m.write(at, s); code != want {
			t.Errorf("Write(%d) = %d, want %d", at, code, want)
		}
	case k < 15:
		if code, want := d.Flush(), m.flush(); code != want {
			t.Errorf("Flush() = %d, want %d", code, want)
		}
	case k < 17:
		n := r.Intn(9) - 2
		d.Fuse(n)
		m.scheduled, m.left = n >= 0, n
	default:
		keep := make([]bool, r.Intn(len(m.volatile)+3))
		for i := range keep {
			keep[i] = r.Intn(2) == 1
		}
		if n, want := d.Crash(keep), m.crash(keep); n != want {
			t.Errorf("Crash(%v) = %d, want %d", keep, n, want)
		}
	}
}

func TestAgainstTheModel(t *testing.T) {
	for seed := range 300 {
		r := rand.New(rand.NewSource(int64(seed)))
		n := 1 + r.Intn(4)
		d, m := made(t, n), &model{size: n, power: true}
		old, oldModel := d, m
		for range 60 {
			if r.Intn(10) == 0 {
				// The one that is left behind must not see what happens to its twin.
				compare(t, old, oldModel)
				old, oldModel = d, m
				d, m = d.Twin(), m.twin()
			}
			act(t, r, d, m)
			compare(t, d, m)
		}
		compare(t, old, oldModel)
		if t.Failed() {
			t.Fatalf("seed %d", seed)
		}
	}
}

// Promise P7: the results depend on the calls alone.
func TestSameCallsSameResults(t *testing.T) {
	run := func() []api.Sector {
		r := rand.New(rand.NewSource(61))
		d := made(t, 64)
		for i := range 2000 {
			write(t, d, r.Intn(64), byte(i))
			switch r.Intn(100) {
			case 0:
				flush(t, d)
			case 1:
				keep := make([]bool, d.Waits())
				for i := range keep {
					keep[i] = r.Intn(2) == 1
				}
				d.Crash(keep)
			}
		}
		return d.Image()
	}
	want := run()
	for range 5 {
		if !slices.Equal(run(), want) {
			t.Fatal("the same calls led to different disks")
		}
	}
}
