package super_test

import (
	"hash/crc32"
	"math"
	"math/rand"
	"testing"

	"mortmain/api"
	"mortmain/disk"
	"mortmain/plan"
	"mortmain/super"
)

var (
	least    = api.Plan{Slots: 1, Texts: 1, Clips: 1, Audits: 1}
	example  = api.Plan{Slots: 10, Texts: 4, Clips: 3, Audits: 5}
	greatest = api.Plan{Slots: 200, Texts: 40, Clips: 40, Audits: 80}
)

const most = 1 << 40

// little returns the lowest bytes of n, the lowest first.
func little(n uint64, size int) []byte {
	b := make([]byte, size)
	for i := range b {
		b[i] = byte(n >> (8 * i))
	}
	return b
}

// seal returns the sealed sector of b as the document describes it.
func seal(b []byte) api.Sector {
	var x api.Sector
	copy(x[:252], b)
	copy(x[252:], little(uint64(crc32.ChecksumIEEE(x[:252])), 4))
	return x
}

// raw returns the sealed sector with those numbers, within the limits or not.
func raw(p api.Plan, mounts uint64) api.Sector {
	b := []byte("MORTMAIN")
	b = append(b, little(uint64(p.Slots), 2)...)
	b = append(b, little(uint64(p.Texts), 2)...)
	b = append(b, little(uint64(p.Clips), 2)...)
	b = append(b, little(uint64(p.Audits), 2)...)
	return seal(append(b, little(mounts, 8)...))
}

// put returns the sector of a superblock, which must succeed.
func put(t *testing.T, p api.Plan, mounts int) api.Sector {
	t.Helper()
	x, code := super.Put(super.Super{Plan: p, Mounts: mounts})
	if code != api.OK {
		t.Fatalf("Put(%v, %d) = %d", p, mounts, code)
	}
	return x
}

// wantBad checks that a sector is not that of a superblock.
func wantBad(t *testing.T, what string, x api.Sector) {
	t.Helper()
	if s, code := super.Get(x); code != api.ErrBad || s != (super.Super{}) {
		t.Errorf("%s: Get = %v, %d, want ErrBad", what, s, code)
	}
}

// wantChoice checks what Choose returns for two sectors.
func wantChoice(t *testing.T, a, b api.Sector, want super.Super, wantAt int, wantCode api.Code) {
	t.Helper()
	if s, at, code := super.Choose(a, b); s != want || at != wantAt || code != wantCode {
		t.Errorf("Choose = %v, %d, %d, want %v, %d, %d", s, at, code, want, wantAt, wantCode)
	}
}

// holding returns a disk with those durable sectors.
func holding(t *testing.T, l ...api.Sector) *disk.Disk {
	t.Helper()
	d, code := disk.New(len(l))
	if code != api.OK {
		t.Fatalf("New(%d) = %d", len(l), code)
	}
	for at, x := range l {
		if code := d.Write(at, x); code != api.OK {
			t.Fatalf("Write(%d) = %d", at, code)
		}
	}
	if code := d.Flush(); code != api.OK {
		t.Fatalf("Flush() = %d", code)
	}
	return d
}

// wantRead checks what Read returns for a disk.
func wantRead(t *testing.T, d *disk.Disk, want super.Super, wantAt int, wantCode api.Code) {
	t.Helper()
	if s, at, code := super.Read(d); s != want || at != wantAt || code != wantCode {
		t.Errorf("Read = %v, %d, %d, want %v, %d, %d", s, at, code, want, wantAt, wantCode)
	}
}

// wantBump checks what Bump returns for a disk.
func wantBump(t *testing.T, d *disk.Disk, want super.Super, wantCode api.Code) {
	t.Helper()
	if s, code := super.Bump(d); s != want || code != wantCode {
		t.Errorf("Bump = %v, %d, want %v, %d", s, code, want, wantCode)
	}
}

// wantImage checks the durable sectors of a disk from 0 on.
func wantImage(t *testing.T, d *disk.Disk, want ...api.Sector) {
	t.Helper()
	image := d.Image()
	for at, x := range want {
		if image[at] != x {
			t.Errorf("sector %d is %v, want %v", at, image[at], x)
		}
	}
}

// filled returns a sector whose bytes are all b.
func filled(b byte) api.Sector {
	var x api.Sector
	for i := range x {
		x[i] = b
	}
	return x
}

// Promise 8.1.

func TestPutWritesTheBytesInOrder(t *testing.T) {
	p := api.Plan{Slots: 200, Texts: 2, Clips: 3, Audits: 4}
	x := put(t, p, 0x0807060504)
	want := []byte("MORTMAIN\xc8\x00\x02\x00\x03\x00\x04\x00\x04\x05\x06\x07\x08\x00\x00\x00")
	for i := range 252 {
		b := byte(0)
		if i < len(want) {
			b = want[i]
		}
		if x[i] != b {
			t.Errorf("byte %d is %d, want %d", i, x[i], b)
		}
	}
	sum := crc32.ChecksumIEEE(x[:252])
	if got := [4]byte(x[252:]); got != [4]byte{byte(sum), byte(sum >> 8), byte(sum >> 16), byte(sum >> 24)} {
		t.Errorf("the checksum is %x, want %x in little-endian order", got, sum)
	}
}

func TestPutAndGet(t *testing.T) {
	for _, p := range []api.Plan{least, example, greatest, {Slots: 200, Texts: 1, Clips: 1, Audits: 80}, {Slots: 1, Texts: 40, Clips: 40, Audits: 1}} {
		for _, mounts := range []int{0, 1, 2, 255, 256, 65535, 65536, 1<<32 - 1, 1 << 32, most - 1, most} {
			x := put(t, p, mounts)
			if x != raw(p, uint64(mounts)) {
				t.Errorf("Put(%v, %d) = %v", p, mounts, x)
			}
			if s, code := super.Get(x); code != api.OK || s != (super.Super{Plan: p, Mounts: mounts}) {
				t.Errorf("Get of Put(%v, %d) = %v, %d", p, mounts, s, code)
			}
		}
	}
}

func TestPutRejectsPlans(t *testing.T) {
	for _, p := range brokenPlans() {
		for _, mounts := range []int{0, 7, -1, most + 1} {
			if x, code := super.Put(super.Super{Plan: p, Mounts: mounts}); code != api.ErrRange || x != (api.Sector{}) {
				t.Errorf("Put(%v, %d) = %v, %d, want ErrRange", p, mounts, x, code)
			}
		}
	}
}

// brokenPlans returns plans with one number beyond its limits, and the zero plan.
func brokenPlans() []api.Plan {
	l := []api.Plan{{}}
	for _, n := range []int{0, -1, math.MinInt, 1<<16 + 1, 1 << 32, math.MaxInt} {
		l = append(l,
			api.Plan{Slots: n, Texts: 1, Clips: 1, Audits: 1},
			api.Plan{Slots: 1, Texts: n, Clips: 1, Audits: 1},
			api.Plan{Slots: 1, Texts: 1, Clips: n, Audits: 1},
			api.Plan{Slots: 1, Texts: 1, Clips: 1, Audits: n})
	}
	return append(l,
		api.Plan{Slots: 201, Texts: 40, Clips: 40, Audits: 80},
		api.Plan{Slots: 200, Texts: 41, Clips: 40, Audits: 80},
		api.Plan{Slots: 200, Texts: 40, Clips: 41, Audits: 80},
		api.Plan{Slots: 200, Texts: 40, Clips: 40, Audits: 81})
}

func TestPutRejectsMounts(t *testing.T) {
	for _, mounts := range []int{-1, -2, math.MinInt, most + 1, 2 * most, math.MaxInt} {
		if x, code := super.Put(super.Super{Plan: example, Mounts: mounts}); code != api.ErrRange || x != (api.Sector{}) {
			t.Errorf("Put(%d mounts) = %v, %d, want ErrRange", mounts, x, code)
		}
	}
}

func TestGetRejectsOtherSectors(t *testing.T) {
	wantBad(t, "zeros", api.Sector{})
	wantBad(t, "ones", filled(255))
	wantBad(t, "one byte", api.Sector{1})
	wantBad(t, "sealed zeros", seal(nil))
	wantBad(t, "the mark alone", seal([]byte("MORTMAIN")))
	var unsealed api.Sector
	x := put(t, example, 3)
	copy(unsealed[:], x[:252])
	wantBad(t, "no checksum", unsealed)
}

func TestGetRejectsOtherMarks(t *testing.T) {
	x := raw(example, 3)
	for i := range 8 {
		for _, b := range []byte{0, 1, ' ', 0x20 ^ x[i], 0x80 ^ x[i]} {
			y := x
			y[i] = b
			wantBad(t, "another mark", seal(y[:252]))
		}
	}
}

func TestGetRejectsNumbersBeyondTheirLimits(t *testing.T) {
	for _, p := range []api.Plan{
		{},
		{Slots: 0, Texts: 1, Clips: 1, Audits: 1}, {Slots: 201, Texts: 1, Clips: 1, Audits: 1}, {Slots: 257, Texts: 1, Clips: 1, Audits: 1}, {Slots: 65535, Texts: 1, Clips: 1, Audits: 1},
		{Slots: 1, Texts: 0, Clips: 1, Audits: 1}, {Slots: 1, Texts: 41, Clips: 1, Audits: 1}, {Slots: 1, Texts: 257, Clips: 1, Audits: 1}, {Slots: 1, Texts: 65535, Clips: 1, Audits: 1},
		{Slots: 1, Texts: 1, Clips: 0, Audits: 1}, {Slots: 1, Texts: 1, Clips: 41, Audits: 1}, {Slots: 1, Texts: 1, Clips: 257, Audits: 1}, {Slots: 1, Texts: 1, Clips: 65535, Audits: 1},
		{Slots: 1, Texts: 1, Clips: 1, Audits: 0}, {Slots: 1, Texts: 1, Clips: 1, Audits: 81}, {Slots: 1, Texts: 1, Clips: 1, Audits: 257}, {Slots: 1, Texts: 1, Clips: 1, Audits: 65535},
	} {
		wantBad(t, "a plan beyond the limits", raw(p, 3))
	}
	for _, mounts := range []uint64{most + 1, 1<<40 | 1<<39, 1 << 41, 1 << 48, 1<<63 - 1, 1 << 63, 1<<63 + 5, math.MaxUint64} {
		wantBad(t, "mounts beyond the limit", raw(example, mounts))
	}
}

func TestGetRejectsBytesBehindTheNumbers(t *testing.T) {
	x := raw(example, 3)
	for i := 24; i < 252; i++ {
		y := x
		y[i] = 1
		wantBad(t, "a byte behind the numbers", seal(y[:252]))
	}
}

func TestGetRejectsEveryChangedBit(t *testing.T) {
	x := put(t, example, 3)
	for bit := range 8 * len(x) {
		y := x
		y[bit/8] ^= 1 << (bit % 8)
		wantBad(t, "a changed bit", y)
	}
}

// Promise 8.2.

func TestChooseExample(t *testing.T) {
	wantChoice(t, put(t, example, 6), put(t, example, 7), super.Super{Plan: example, Mounts: 7}, 1, api.OK)
}

func TestChooseMoreMounts(t *testing.T) {
	for _, test := range []struct{ a, b, want, at int }{
		{0, 1, 1, 1}, {1, 0, 1, 0}, {7, 6, 7, 0}, {255, 256, 256, 1}, {256, 255, 256, 0},
		{0, most, most, 1}, {most, 0, most, 0}, {most - 1, most, most, 1}, {1 << 32, 1<<32 - 1, 1 << 32, 0},
	} {
		wantChoice(t, put(t, example, test.a), put(t, example, test.b), super.Super{Plan: example, Mounts: test.want}, test.at, api.OK)
	}
}

func TestChooseTheFirstOfEqualMounts(t *testing.T) {
	for _, mounts := range []int{0, 1, 7, most} {
		// Different plans show which sector the superblock comes from.
		wantChoice(t, put(t, example, mounts), put(t, greatest, mounts), super.Super{Plan: example, Mounts: mounts}, 0, api.OK)
		wantChoice(t, put(t, greatest, mounts), put(t, example, mounts), super.Super{Plan: greatest, Mounts: mounts}, 0, api.OK)
	}
}

func TestChooseGoesByMountsAlone(t *testing.T) {
	wantChoice(t, put(t, greatest, 1), put(t, least, 2), super.Super{Plan: least, Mounts: 2}, 1, api.OK)
	wantChoice(t, put(t, least, 2), put(t, greatest, 1), super.Super{Plan: least, Mounts: 2}, 0, api.OK)
}

func TestChooseTheValidOne(t *testing.T) {
	for _, broken := range brokenSectors(t) {
		for _, mounts := range []int{0, 7, most} {
			good, want := put(t, example, mounts), super.Super{Plan: example, Mounts: mounts}
			wantChoice(t, good, broken, want, 0, api.OK)
			wantChoice(t, broken, good, want, 1, api.OK)
		}
	}
}

func TestChooseRejectsTwoInvalidSectors(t *testing.T) {
	for _, a := range brokenSectors(t) {
		for _, b := range brokenSectors(t) {
			wantChoice(t, a, b, super.Super{}, 0, api.ErrBad)
		}
	}
}

// brokenSectors returns sectors of no superblock, among them such as look like one with many mounts.
func brokenSectors(t *testing.T) []api.Sector {
	t.Helper()
	torn := put(t, example, most)
	torn[255] ^= 1
	return []api.Sector{{}, filled(255), torn, raw(example, most+1), raw(api.Plan{}, most), raw(example, math.MaxUint64)}
}

// Promise 8.3.

func TestReadRejectsNoDisk(t *testing.T) {
	wantRead(t, nil, super.Super{}, 0, api.ErrArg)
	wantBump(t, nil, super.Super{}, api.ErrArg)
}

func TestReadOfADiskThatIsTooSmall(t *testing.T) {
	d := holding(t, put(t, example, 3))
	wantRead(t, d, super.Super{}, 0, api.ErrRange)
	wantBump(t, d, super.Super{}, api.ErrRange)
	wantImage(t, d, put(t, example, 3))

	// Without power, the first sector is the first that cannot be read.
	d.Fuse(0)
	d.Flush()
	wantRead(t, d, super.Super{}, 0, api.ErrDown)
	wantBump(t, d, super.Super{}, api.ErrDown)
}

func TestReadWithoutPower(t *testing.T) {
	d := holding(t, put(t, example, 3), put(t, example, 4))
	d.Fuse(0)
	wantRead(t, d, super.Super{Plan: example, Mounts: 4}, 1, api.OK) // no read triggers the failure
	d.Flush()
	steps := d.Steps()
	wantRead(t, d, super.Super{}, 0, api.ErrDown)
	wantBump(t, d, super.Super{}, api.ErrDown)
	if d.Steps() != steps {
		t.Errorf("Steps() = %d, want %d", d.Steps(), steps)
	}
}

func TestReadChooses(t *testing.T) {
	sectors := append(brokenSectors(t), put(t, example, 0), put(t, greatest, 0), put(t, example, 7), put(t, example, most))
	for _, a := range sectors {
		for _, b := range sectors {
			d := holding(t, a, b, put(t, least, most)) // the third sector is none of the two
			steps := d.Steps()
			want, at, code := super.Choose(a, b)
			wantRead(t, d, want, at, code)
			if d.Steps() != steps || d.Waits() != 0 {
				t.Errorf("Read took %d steps", d.Steps()-steps)
			}
		}
	}
}

func TestReadSeesVolatileWrites(t *testing.T) {
	d := holding(t, put(t, example, 3), put(t, example, 2))
	d.Write(1, put(t, example, 4))
	wantRead(t, d, super.Super{Plan: example, Mounts: 4}, 1, api.OK)
	d.Write(0, put(t, example, 5))
	wantRead(t, d, super.Super{Plan: example, Mounts: 5}, 0, api.OK)
}

func TestBumpWritesTheOtherSector(t *testing.T) {
	rest := filled(9)
	for _, test := range []struct{ a, b api.Sector }{
		{put(t, example, 3), api.Sector{}},
		{api.Sector{}, put(t, example, 3)},
		{put(t, example, 3), put(t, example, 2)},
		{put(t, example, 2), put(t, example, 3)},
		{put(t, example, 3), put(t, greatest, 3)},
		{put(t, example, 3), filled(255)},
		{filled(255), put(t, example, 3)},
	} {
		d := holding(t, test.a, test.b, rest)
		steps := d.Steps()
		_, at, _ := super.Choose(test.a, test.b)
		wantBump(t, d, super.Super{Plan: example, Mounts: 4}, api.OK)
		want := [2]api.Sector{test.a, test.b}
		want[1-at] = put(t, example, 4)
		wantImage(t, d, want[0], want[1], rest)
		wantRead(t, d, super.Super{Plan: example, Mounts: 4}, 1-at, api.OK)
		if d.Steps() != steps+2 || d.Waits() != 0 {
			t.Errorf("Bump took %d steps and left %d writes volatile", d.Steps()-steps, d.Waits())
		}
	}
}

func TestBumpAlternates(t *testing.T) {
	d := holding(t, put(t, example, 0), api.Sector{})
	for i := 1; i <= 20; i++ {
		wantBump(t, d, super.Super{Plan: example, Mounts: i}, api.OK)
		wantRead(t, d, super.Super{Plan: example, Mounts: i}, i%2, api.OK)
		d.Crash(nil)
		wantRead(t, d, super.Super{Plan: example, Mounts: i}, i%2, api.OK)
	}
}

func TestBumpFlushesEarlierWrites(t *testing.T) {
	d := holding(t, put(t, example, 0), api.Sector{}, api.Sector{})
	d.Write(2, filled(5))
	wantBump(t, d, super.Super{Plan: example, Mounts: 1}, api.OK)
	wantImage(t, d, put(t, example, 0), put(t, example, 1), filled(5))
}

func TestBumpWithoutSuperblock(t *testing.T) {
	for _, a := range brokenSectors(t) {
		for _, b := range brokenSectors(t) {
			d := holding(t, a, b)
			steps := d.Steps()
			wantBump(t, d, super.Super{}, api.ErrBad)
			if d.Steps() != steps {
				t.Errorf("Bump took %d steps", d.Steps()-steps)
			}
			wantImage(t, d, a, b)
		}
	}
}

func TestBumpAtTheLimit(t *testing.T) {
	d := holding(t, put(t, example, most-1), api.Sector{})
	wantBump(t, d, super.Super{Plan: example, Mounts: most}, api.OK)
	steps := d.Steps()
	wantBump(t, d, super.Super{}, api.ErrRange)
	wantImage(t, d, put(t, example, most-1), put(t, example, most))
	if d.Steps() != steps {
		t.Errorf("Bump took %d steps", d.Steps()-steps)
	}
	// The error of Put comes ahead of a power failure that the write would trigger.
	d.Fuse(0)
	wantBump(t, d, super.Super{}, api.ErrRange)
	if d.Down() {
		t.Error("Bump wrote a superblock with too many mounts")
	}
}

func TestBumpWhenThePowerFails(t *testing.T) {
	a, b := put(t, example, 3), put(t, example, 2)
	for fuse := range 2 {
		d := holding(t, a, b)
		d.Fuse(fuse)
		wantBump(t, d, super.Super{}, api.ErrDown)
		if !d.Down() || d.Waits() != fuse {
			t.Errorf("fuse %d: Down() = %t, Waits() = %d", fuse, d.Down(), d.Waits())
		}
		wantImage(t, d, a, b)
	}
	d := holding(t, a, b)
	d.Fuse(2)
	wantBump(t, d, super.Super{Plan: example, Mounts: 4}, api.OK)
	if d.Down() {
		t.Error("Bump took more than a write and a flush")
	}
}

// Promise 8.4.

func TestRandomSuperblocks(t *testing.T) {
	r := rand.New(rand.NewSource(8))
	seen := map[api.Sector]super.Super{}
	for range 5000 {
		p := api.Plan{Slots: 1 + r.Intn(plan.MaxSlots), Texts: 1 + r.Intn(plan.MaxTexts), Clips: 1 + r.Intn(plan.MaxClips), Audits: 1 + r.Intn(plan.MaxAudits)}
		want := super.Super{Plan: p, Mounts: int(r.Int63n(most+1) >> r.Intn(41))}
		x := put(t, want.Plan, want.Mounts)
		if s, code := super.Get(x); code != api.OK || s != want {
			t.Fatalf("Get of Put(%v) = %v, %d", want, s, code)
		}
		if s, ok := seen[x]; ok && s != want {
			t.Fatalf("%v and %v have the same sector", s, want)
		}
		seen[x] = want
	}
}

func TestGetAcceptsOnlyWhatPutReturns(t *testing.T) {
	r := rand.New(rand.NewSource(9))
	for range 5000 {
		x := raw(example, uint64(r.Intn(9)))
		for range r.Intn(3) {
			x[r.Intn(40)] = byte(r.Intn(4))
		}
		x = seal(x[:252])
		s, code := super.Get(x)
		if code == api.OK && put(t, s.Plan, s.Mounts) != x {
			t.Fatalf("Get = %v, whose sector is another", s)
		}
		if code != api.OK && (code != api.ErrBad || s != (super.Super{})) {
			t.Fatalf("Get = %v, %d", s, code)
		}
	}
}

func TestCrashesAtEveryPointOfBump(t *testing.T) {
	for _, start := range []*disk.Disk{
		holding(t, put(t, example, 3), put(t, example, 2)),
		holding(t, put(t, example, 2), put(t, example, 3)),
		holding(t, put(t, example, 3), put(t, example, 3)),
		holding(t, put(t, example, 3), filled(255)),
		holding(t, api.Sector{}, put(t, example, 3)),
	} {
		crashes(t, start, 3, 4)
	}
}

// crashes bumps and crashes a disk in every way that is possible, several times in a row.
func crashes(t *testing.T, start *disk.Disk, mounts, depth int) {
	t.Helper()
	if depth == 0 {
		return
	}
	for fuse := range 3 {
		for _, keep := range []bool{false, true} {
			d := start.Twin()
			d.Fuse(fuse)
			_, code := super.Bump(d)
			d.Crash([]bool{keep})
			want := mounts
			if code == api.OK || fuse == 1 && keep {
				want++
			}
			s, _, code := super.Read(d)
			if code != api.OK || s != (super.Super{Plan: example, Mounts: want}) {
				t.Fatalf("fuse %d, keep %t: Read = %v, %d, want %d mounts", fuse, keep, s, code, want)
			}
			crashes(t, d, want, depth-1)
		}
	}
}
