package journal_test

import (
	"hash/crc32"
	"math"
	"math/rand"
	"slices"
	"testing"

	"mortmain/api"
	"mortmain/disk"
	"mortmain/journal"
	"mortmain/plan"
)

var (
	least    = api.Plan{Slots: 1, Texts: 1, Clips: 1, Audits: 1}
	example  = api.Plan{Slots: 10, Texts: 4, Clips: 3, Audits: 5}
	audited  = api.Plan{Slots: 1, Texts: 1, Clips: 40, Audits: 80} // more Home sectors than Room
	greatest = api.Plan{Slots: 200, Texts: 40, Clips: 40, Audits: 80}
)

// plans returns plans of all sizes.
func plans() []api.Plan {
	return []api.Plan{least, example, audited, greatest, {Slots: 200, Texts: 1, Clips: 1, Audits: 1}, {Slots: 1, Texts: 40, Clips: 1, Audits: 1}}
}

// most is the greatest number of targets that a head names.
const most = 123

// filled returns a sector whose bytes are all b.
func filled(b byte) api.Sector {
	var x api.Sector
	for i := range x {
		x[i] = b
	}
	return x
}

// layoutOf returns the layout of a plan.
func layoutOf(t *testing.T, p api.Plan) plan.Layout {
	t.Helper()
	l, code := plan.Of(p)
	if code != api.OK {
		t.Fatalf("plan.Of(%v) = %d", p, code)
	}
	return l
}

// blankDisk returns a disk of zeros for a layout.
func blankDisk(t *testing.T, l plan.Layout) *disk.Disk {
	t.Helper()
	d, code := disk.New(l.Total)
	if code != api.OK {
		t.Fatalf("disk.New(%d) = %d", l.Total, code)
	}
	return d
}

// write writes a sector, which must succeed.
func write(t *testing.T, d *disk.Disk, at int, s api.Sector) {
	t.Helper()
	if code := d.Write(at, s); code != api.OK {
		t.Fatalf("Write(%d) = %d", at, code)
	}
}

// flush makes all writes durable, which must succeed.
func flush(t *testing.T, d *disk.Disk) {
	t.Helper()
	if code := d.Flush(); code != api.OK {
		t.Fatalf("Flush() = %d", code)
	}
}

// usedDisk returns a disk for a layout on which no sector outside of the journal is zero, and all sectors differ.
func usedDisk(t *testing.T, l plan.Layout) *disk.Disk {
	t.Helper()
	d := blankDisk(t, l)
	for at := range l.Total {
		if at < l.Head || at >= l.Slots {
			write(t, d, at, old(at))
		}
	}
	flush(t, d)
	return d
}

// old returns the content of a sector of a used disk.
func old(at int) api.Sector {
	return content(0x11, at)
}

// content returns a sector whose content tells a number and a kind.
func content(kind byte, n int) api.Sector {
	x := filled(kind)
	x[0], x[1], x[255] = byte(n), byte(n>>8), byte(n)
	return x
}

// changesOf returns changes of those sectors, with contents that differ.
func changesOf(at ...int) []api.Change {
	var l []api.Change
	for i, n := range at {
		l = append(l, api.Change{At: n, S: content(0x22, i)})
	}
	return l
}

// homes returns the numbers of the first n Home sectors of a layout, the last one first.
func homes(n int) []int {
	l := make([]int, n)
	for i := range l {
		l[i] = 2 + n - 1 - i
	}
	return l
}

// Promise 9.1.

// headOf returns the head of those sector numbers as the document describes it.
func headOf(at []int) api.Sector {
	b := []byte{'J', 'O', 'U', 'R', byte(len(at) % 256)}
	for _, n := range at {
		b = append(b, byte(n), byte(n>>8))
	}
	return seal(b)
}

// seal returns the sealed sector of b, as far as b fits.
func seal(b []byte) api.Sector {
	var x api.Sector
	copy(x[:252], b)
	sum := crc32.ChecksumIEEE(x[:252])
	copy(x[252:], []byte{byte(sum), byte(sum >> 8), byte(sum >> 16), byte(sum >> 24)})
	return x
}

// numbers returns n sector numbers whose bytes differ.
func numbers(n int) []int {
	l := make([]int, n)
	for i := range l {
		l[i] = (1 + i*0x0101 + i*7) & 0xffff
	}
	return l
}

func TestHeadWritesTheBytesInOrder(t *testing.T) {
	x := journal.Head([]api.Change{{At: 2, S: filled(9)}, {At: 0x0206, S: filled(8)}, {At: 5}})
	want := []byte("JOUR\x03\x02\x00\x06\x02\x05\x00")
	for i := range 252 {
		b := byte(0)
		if i < len(want) {
			b = want[i]
		}
		if x[i] != b {
			t.Errorf("byte %d is %d, want %d", i, x[i], b)
		}
	}
	sum := crc32.ChecksumIEEE(x[:252])
	if got := [4]byte(x[252:]); got != [4]byte{byte(sum), byte(sum >> 8), byte(sum >> 16), byte(sum >> 24)} {
		t.Errorf("the checksum is %x, want %x in little-endian order", got, sum)
	}
}

func TestHeadOfAnyNumberOfChanges(t *testing.T) {
	for n := range 800 {
		at := numbers(n)
		if x := journal.Head(changesOf(at...)); x != headOf(at) {
			t.Errorf("Head of %d changes = %v, want %v", n, x, headOf(at))
		}
	}
	if journal.Head(nil) != headOf(nil) || journal.Head([]api.Change{}) != headOf(nil) {
		t.Errorf("Head of no changes = %v, want %v", journal.Head(nil), headOf(nil))
	}
}

func TestHeadTakesTheLowestBits(t *testing.T) {
	for _, at := range []int{0, 1, 255, 256, 65535, 65536, 65537, 1<<32 + 5, -1, -65536, math.MaxInt, math.MinInt} {
		for _, l := range [][]int{{at}, {3, at}, {at, 3}} {
			if x := journal.Head(changesOf(l...)); x != headOf(l) {
				t.Errorf("Head of the sectors %v = %v, want %v", l, x, headOf(l))
			}
		}
	}
}

func TestHeadGoesByTheNumbersAlone(t *testing.T) {
	a := []api.Change{{At: 7, S: filled(1)}, {At: 8}}
	b := []api.Change{{At: 7}, {At: 8, S: filled(2)}}
	if journal.Head(a) != journal.Head(b) {
		t.Error("Head depends on the contents")
	}
	if journal.Head(a) == journal.Head([]api.Change{{At: 8}, {At: 7}}) {
		t.Error("Head does not depend on the order")
	}
}

// wantTargets checks the targets of a sector; nil: it has none.
func wantTargets(t *testing.T, what string, x api.Sector, want []int) {
	t.Helper()
	if l, ok := journal.Targets(x); ok != (want != nil) || !slices.Equal(l, want) {
		t.Errorf("%s: Targets = %v, %t, want %v", what, l, ok, want)
	}
}

func TestTargetsOfHeads(t *testing.T) {
	for n := 1; n <= most; n++ {
		at := numbers(n)
		wantTargets(t, "a head", headOf(at), at)
		wantTargets(t, "Head", journal.Head(changesOf(at...)), at)
	}
	for _, at := range [][]int{{0}, {65535}, {256}, {255}, {0, 0}, {7, 7, 7}, {65535, 0, 1}, make([]int, most)} {
		wantTargets(t, "a head", headOf(at), at)
	}
}

func TestTargetsAreTheLowestBits(t *testing.T) {
	wantTargets(t, "Head", journal.Head(changesOf(65536, -1, 1<<40+258)), []int{0, 65535, 258})
}

func TestTargetsRejectsTooFewAndTooMany(t *testing.T) {
	for n := range 700 {
		if n%256 == 0 || n > most {
			wantTargets(t, "a head of too few or too many", headOf(numbers(n)), nil)
		}
	}
	// The one change that the byte tells is one, and the rest is not zero.
	wantTargets(t, "a head of 257", headOf(numbers(257)), nil)
	wantTargets(t, "a head of 379", headOf(numbers(256+most)), nil)
}

func TestTargetsTakesTheFewestChanges(t *testing.T) {
	// The same sector is the head of 257 changes, whose last numbers are zero or do not fit.
	l := make([]int, 257)
	l[0], l[most], l[256] = 9, 0x1200, 5
	if headOf(l) != headOf([]int{9}) {
		t.Fatal("the heads differ")
	}
	wantTargets(t, "a head of 1 and 257", headOf(l), []int{9})
}

func TestTargetsRejectsOtherSectors(t *testing.T) {
	wantTargets(t, "zeros", api.Sector{}, nil)
	wantTargets(t, "ones", filled(255), nil)
	wantTargets(t, "one byte", api.Sector{1}, nil)
	wantTargets(t, "sealed zeros", seal(nil), nil)
	wantTargets(t, "the mark alone", seal([]byte("JOUR")), nil)
	wantTargets(t, "another mark", seal([]byte("JOUS\x01\x02\x00")), nil)
	wantTargets(t, "no mark", seal([]byte("\x00\x00\x00\x00\x01\x02\x00")), nil)
	x := headOf([]int{2, 6})
	var unsealed api.Sector
	copy(unsealed[:], x[:252])
	wantTargets(t, "no checksum", unsealed, nil)
}

func TestTargetsRejectsEveryChangedBit(t *testing.T) {
	for _, n := range []int{1, 2, most} {
		x := headOf(numbers(n))
		for bit := range 8 * len(x) {
			y := x
			y[bit/8] ^= 1 << (bit % 8)
			wantTargets(t, "a changed bit", y, nil)
		}
	}
}

func TestTargetsRejectsBytesBehindTheNumbers(t *testing.T) {
	for _, n := range []int{1, 2, 60, most} {
		for i := 5 + 2*n; i < 252; i++ {
			x := headOf(numbers(n))
			x[i] = 1
			wantTargets(t, "a byte behind the numbers", seal(x[:252]), nil)
		}
	}
}

func TestTargetsAreNewMemory(t *testing.T) {
	x := headOf([]int{2, 6})
	l, _ := journal.Targets(x)
	l[0] = 9
	_ = append(l, 10)
	wantTargets(t, "a head", x, []int{2, 6})
}

// Promise 9.2.

// wantCheck checks what Check returns, and that Commit returns that error and writes nothing.
func wantCheck(t *testing.T, l plan.Layout, list []api.Change, want api.Code) {
	t.Helper()
	d := usedDisk(t, l)
	j := journal.New(d, l)
	before := slices.Clone(list)
	steps, image := d.Steps(), d.Image()
	if code := j.Check(list); code != want {
		t.Errorf("Check of %d changes = %d, want %d", len(list), code, want)
	}
	if want != api.OK {
		if code := j.Commit(list); code != want {
			t.Errorf("Commit of %d changes = %d, want %d", len(list), code, want)
		}
		d.Fuse(0)
		d.Flush()
		if code := j.Commit(list); code != want {
			t.Errorf("without power, Commit of %d changes = %d, want %d", len(list), code, want)
		}
		if code := j.Check(list); code != want {
			t.Errorf("without power, Check of %d changes = %d, want %d", len(list), code, want)
		}
	}
	if d.Steps() != steps || !slices.Equal(d.Image(), image) || d.Waits() != 0 {
		t.Errorf("Check or a Commit that is rejected wrote %d times", d.Steps()-steps)
	}
	if !slices.Equal(list, before) {
		t.Error("the changes were changed")
	}
}

func TestCheckCounts(t *testing.T) {
	for _, p := range plans() {
		l := layoutOf(t, p)
		wantCheck(t, l, nil, api.ErrArg)
		wantCheck(t, l, []api.Change{}, api.ErrArg)
		wantCheck(t, l, changesOf(2), api.OK)
		// The limit comes ahead of what is wrong with a single change.
		wantCheck(t, l, make([]api.Change, l.Room), api.ErrRange)
		wantCheck(t, l, make([]api.Change, l.Room+1), api.ErrLimit)
		wantCheck(t, l, make([]api.Change, 1000), api.ErrLimit)
	}
	for _, p := range []api.Plan{example, audited, greatest} {
		l := layoutOf(t, p)
		if l.Head-2 < l.Room {
			continue
		}
		wantCheck(t, l, changesOf(homes(l.Room)...), api.OK)
		if l.Head-2 > l.Room {
			wantCheck(t, l, changesOf(homes(l.Room+1)...), api.ErrLimit)
		}
	}
}

func TestCheckOfHomeSectors(t *testing.T) {
	for _, p := range plans() {
		l := layoutOf(t, p)
		d := blankDisk(t, l)
		j := journal.New(d, l)
		for at := -3; at < l.Total+3; at++ {
			want := api.ErrRange
			if at >= 2 && at < l.Audits+p.Audits {
				want = api.OK
			}
			if code := j.Check(changesOf(at)); code != want {
				t.Errorf("Check of sector %d = %d, want %d", at, code, want)
			}
		}
		for _, at := range []int{math.MinInt, math.MaxInt, 65536 + 2, 1<<32 + 2, -65536 + 2} {
			if code := j.Check(changesOf(at)); code != api.ErrRange {
				t.Errorf("Check of sector %d = %d, want ErrRange", at, code)
			}
		}
	}
}

func TestCheckReturnsTheFirstError(t *testing.T) {
	l := layoutOf(t, example)
	for _, test := range []struct {
		at   []int
		want api.Code
	}{
		{[]int{2, 3, 4, 5}, api.OK},
		{[]int{5, 4, 3, 2}, api.OK},
		{[]int{2, l.Head - 1}, api.OK},
		{[]int{2, 2}, api.ErrTwice},
		{[]int{2, 3, 2}, api.ErrTwice},
		{[]int{3, 2, 2}, api.ErrTwice},
		{[]int{2, 3, 4, 5, 6, 4}, api.ErrTwice},
		{[]int{1, 1}, api.ErrRange},
		{[]int{2, 1}, api.ErrRange},
		{[]int{2, 2, 1}, api.ErrTwice},
		{[]int{2, 1, 2}, api.ErrRange},
		{[]int{l.Head, 2, 2}, api.ErrRange},
		{[]int{2, 2, l.Head}, api.ErrTwice},
		{[]int{2, l.Total, l.Total}, api.ErrRange},
		{[]int{2, 3, -1, 3}, api.ErrRange},
	} {
		wantCheck(t, l, changesOf(test.at...), test.want)
	}
}

func TestCheckGoesByTheSectorsAlone(t *testing.T) {
	l := layoutOf(t, least)
	wantCheck(t, l, []api.Change{{At: 2, S: filled(1)}, {At: 2, S: filled(2)}}, api.ErrTwice)
	wantCheck(t, l, []api.Change{{At: 2, S: filled(1)}, {At: 3, S: filled(1)}}, api.OK)
	wantCheck(t, l, []api.Change{{At: 2}, {At: 3}}, api.OK)
}

func TestCheckReadsNothingBehindTheLength(t *testing.T) {
	l := layoutOf(t, least)
	list := changesOf(2, 3, 2, 1)
	wantCheck(t, l, list[:2], api.OK)
	wantCheck(t, l, list[:3], api.ErrTwice)
	wantCheck(t, l, list[:0], api.ErrArg)
	d := usedDisk(t, l)
	if code := journal.New(d, l).Commit(list[:2]); code != api.OK {
		t.Errorf("Commit = %d", code)
	}
	if !slices.Equal(list, changesOf(2, 3, 2, 1)) {
		t.Error("Commit wrote behind the length of its argument")
	}
}

// Promise 9.3.

// step is a write, or a flush if at is negative.
type step struct {
	at int
	s  api.Sector
}

// flushing is the step of a flush.
var flushing = step{at: -1}

// take performs steps.
func take(t *testing.T, d *disk.Disk, l []step) {
	t.Helper()
	for _, s := range l {
		if s.at < 0 {
			flush(t, d)
		} else {
			write(t, d, s.at, s.s)
		}
	}
}

// commitSteps returns the steps of a Commit as the document words them.
func commitSteps(l plan.Layout, list []api.Change) []step {
	var s []step
	at := []int{}
	for i, c := range list {
		s = append(s, step{l.Body + i, c.S})
		at = append(at, c.At)
	}
	s = append(s, flushing, step{l.Head, headOf(at)}, flushing)
	return append(s, recoverSteps(l, list)...)
}

// recoverSteps returns the steps of a Recover with those pending changes.
func recoverSteps(l plan.Layout, list []api.Change) []step {
	var s []step
	for _, c := range list {
		s = append(s, step{c.At, c.S})
	}
	s = append(s, flushing, step{at: l.Head}, flushing)
	return append(s, scrubSteps(l)...)
}

// scrubSteps returns the steps of a Scrub.
func scrubSteps(l plan.Layout) []step {
	var s []step
	for i := range l.Room {
		s = append(s, step{at: l.Body + i})
	}
	return append(s, flushing)
}

// wantSteps checks that a call performs just those steps, wherever the power fails.
func wantSteps(t *testing.T, start *disk.Disk, l []step, call func(*disk.Disk) api.Code) {
	t.Helper()
	for fuse := range len(l) + 2 {
		d, model := start.Twin(), start.Twin()
		d.Fuse(fuse)
		take(t, model, l[:min(fuse, len(l))])
		want := api.OK
		if fuse < len(l) {
			want = api.ErrDown
		}
		if code := call(d); code != want || d.Down() != (want != api.OK) {
			t.Fatalf("fuse %d of %d: the code is %d, want %d; Down() = %t", fuse, len(l), code, want, d.Down())
		}
		if d.Steps() != model.Steps() || !slices.Equal(d.Pending(), model.Pending()) || !slices.Equal(d.Image(), model.Image()) {
			t.Fatalf("fuse %d of %d: the steps are others", fuse, len(l))
		}
		keep := make([]bool, d.Waits())
		for i := range keep {
			keep[i] = true
		}
		d.Crash(keep)
		model.Crash(keep)
		if !slices.Equal(d.Image(), model.Image()) {
			t.Fatalf("fuse %d of %d: the volatile writes are others", fuse, len(l))
		}
	}
}

// littered returns a disk whose journal holds something, and with a volatile write.
func littered(t *testing.T, l plan.Layout) *disk.Disk {
	t.Helper()
	d := usedDisk(t, l)
	for at := l.Head; at < l.Slots; at++ {
		write(t, d, at, content(0x33, at))
	}
	flush(t, d)
	write(t, d, plan.SuperA, filled(0x44))
	return d
}

func TestCommitSteps(t *testing.T) {
	for _, p := range []api.Plan{least, example, audited} {
		l := layoutOf(t, p)
		lists := [][]api.Change{changesOf(2), changesOf(l.Head - 1), changesOf(2, 6), changesOf(6, 2), changesOf(5, 3, 4, 2), changesOf(homes(min(l.Room, l.Head-2))...), {{At: 3}, {At: 2}}}
		for _, list := range lists {
			for _, start := range []*disk.Disk{usedDisk(t, l), littered(t, l)} {
				wantSteps(t, start, commitSteps(l, list), func(d *disk.Disk) api.Code { return journal.New(d, l).Commit(list) })
			}
		}
	}
}

func TestCommitChangesTheSectorsAlone(t *testing.T) {
	for _, p := range plans() {
		l := layoutOf(t, p)
		d := usedDisk(t, l)
		want := d.Image()
		list := changesOf(homes(min(l.Room, l.Head-2))...)
		for _, c := range list {
			want[c.At] = c.S
		}
		j := journal.New(d, l)
		steps := d.Steps()
		if code := j.Commit(list); code != api.OK {
			t.Fatalf("Commit of %d changes = %d", len(list), code)
		}
		if !slices.Equal(d.Image(), want) || d.Waits() != 0 || !j.Clean() {
			t.Errorf("Commit of %d changes left other sectors", len(list))
		}
		if d.Steps()-steps != j.Cost(len(list)) {
			t.Errorf("Commit of %d changes took %d steps, want %d", len(list), d.Steps()-steps, j.Cost(len(list)))
		}
	}
}

func TestCommitsInARow(t *testing.T) {
	l := layoutOf(t, example)
	d := usedDisk(t, l)
	j := journal.New(d, l)
	want := d.Image()
	for i := range 30 {
		list := []api.Change{{At: 2 + i%5, S: content(0x55, i)}, {At: 8 + i%7, S: content(0x66, i)}, {At: 7, S: content(0x77, i)}}
		if code := j.Commit(list[:1+i%3]); code != api.OK {
			t.Fatalf("Commit = %d", code)
		}
		for _, c := range list[:1+i%3] {
			want[c.At] = c.S
		}
		if !slices.Equal(d.Image(), want) {
			t.Fatalf("commit %d left other sectors", i)
		}
	}
}

func TestCommitWithoutPower(t *testing.T) {
	l := layoutOf(t, example)
	d := usedDisk(t, l)
	j := journal.New(d, l)
	d.Fuse(0)
	d.Flush()
	steps, image := d.Steps(), d.Image()
	if code := j.Commit(changesOf(2, 6)); code != api.ErrDown {
		t.Errorf("Commit = %d, want ErrDown", code)
	}
	if code := j.Scrub(); code != api.ErrDown {
		t.Errorf("Scrub = %d, want ErrDown", code)
	}
	if d.Steps() != steps || d.Waits() != 0 || !slices.Equal(d.Image(), image) {
		t.Error("something was written")
	}
}

func TestScrubSteps(t *testing.T) {
	for _, p := range []api.Plan{least, example, audited} {
		l := layoutOf(t, p)
		for _, start := range []*disk.Disk{usedDisk(t, l), littered(t, l)} {
			wantSteps(t, start, scrubSteps(l), func(d *disk.Disk) api.Code { return journal.New(d, l).Scrub() })
		}
	}
}

func TestScrubLeavesTheHead(t *testing.T) {
	for _, p := range plans() {
		l := layoutOf(t, p)
		d := littered(t, l)
		flush(t, d)
		want := d.Image()
		for i := range l.Room {
			want[l.Body+i] = api.Sector{}
		}
		if code := journal.New(d, l).Scrub(); code != api.OK {
			t.Errorf("Scrub = %d", code)
		}
		if !slices.Equal(d.Image(), want) || d.Waits() != 0 {
			t.Error("Scrub left other sectors")
		}
	}
}

func TestCost(t *testing.T) {
	for _, p := range plans() {
		l := layoutOf(t, p)
		j := journal.New(blankDisk(t, l), l)
		for _, n := range []int{1, 2, 3, l.Room, l.Room + 1, 1000} {
			if want := 2*n + l.Room + 7; j.Cost(n) != want {
				t.Errorf("Cost(%d) = %d, want %d", n, j.Cost(n), want)
			}
		}
	}
	// The chapter's example, for the layout whose body has 17 sectors.
	l := layoutOf(t, example)
	d := blankDisk(t, l)
	j := journal.New(d, l)
	if code := j.Commit(changesOf(2, 6)); code != api.OK || d.Steps() != 4+17+7 || j.Cost(2) != 4+17+7 {
		t.Errorf("Commit = %d in %d steps, Cost(2) = %d, want 28", code, d.Steps(), j.Cost(2))
	}
}

// Promise 9.4.

// wantRecover checks what Recover returns and does, wherever the power fails; pending is what it should find.
func wantRecover(t *testing.T, start *disk.Disk, l plan.Layout, pending []api.Change) {
	t.Helper()
	wantSteps(t, start, recoverSteps(l, pending), func(d *disk.Disk) api.Code {
		j := journal.New(d, l)
		n, code := j.Recover()
		switch {
		case code == api.OK && (n != len(pending) || !j.Clean() || d.Waits() != 0):
			t.Errorf("Recover = %d, want %d; Clean() = %t, Waits() = %d", n, len(pending), j.Clean(), d.Waits())
		case code != api.OK && n != 0:
			t.Errorf("Recover = %d, %d, want 0", n, code)
		}
		return code
	})
}

// holding returns a disk with that head, and with contents in all sectors of the body.
func holding(t *testing.T, l plan.Layout, head api.Sector) *disk.Disk {
	t.Helper()
	d := littered(t, l)
	write(t, d, l.Head, head)
	return d
}

// held returns the changes of those sectors with the contents that holding writes.
func held(l plan.Layout, at ...int) []api.Change {
	list := changesOf(at...)
	for i := range list {
		list[i].S = content(0x33, l.Body+i)
	}
	return list
}

func TestRecoverPendingChanges(t *testing.T) {
	for _, p := range []api.Plan{least, example, audited} {
		l := layoutOf(t, p)
		for _, at := range [][]int{{2}, {l.Head - 1}, {2, 6}, {6, 2}, {4, 2, 5, 3}, homes(min(l.Room, l.Head-2))} {
			d := holding(t, l, headOf(at))
			wantRecover(t, d, l, held(l, at...)) // the head is volatile
			flush(t, d)
			wantRecover(t, d, l, held(l, at...))
		}
	}
}

func TestRecoverAFullBody(t *testing.T) {
	l := layoutOf(t, greatest)
	at := homes(l.Room)
	d := holding(t, l, headOf(at))
	flush(t, d)
	want := d.Image()
	for _, c := range held(l, at...) {
		want[c.At] = c.S
	}
	for i := l.Head; i < l.Slots; i++ {
		want[i] = api.Sector{}
	}
	if n, code := journal.New(d, l).Recover(); n != 116 || code != api.OK {
		t.Errorf("Recover = %d, %d, want 116", n, code)
	}
	if !slices.Equal(d.Image(), want) {
		t.Error("Recover left other sectors")
	}
}

func TestRecoverOfACleanJournal(t *testing.T) {
	for _, p := range []api.Plan{least, example, audited} {
		l := layoutOf(t, p)
		wantRecover(t, blankDisk(t, l), l, nil)
		wantRecover(t, usedDisk(t, l), l, nil)
	}
}

func TestRecoverOfHeadsThatNameNothing(t *testing.T) {
	for _, p := range []api.Plan{least, example, audited} {
		l := layoutOf(t, p)
		heads := []api.Sector{{}, filled(255), {'J', 'O', 'U', 'R', 1, 2}, headOf(nil), headOf(numbers(257)), headOf(homes(124))}
		for _, i := range []int{0, 4, 5, 100, 251, 252, 255} {
			x := headOf([]int{2, 6})
			x[i] ^= 1
			heads = append(heads, x)
		}
		for _, x := range heads {
			wantRecover(t, holding(t, l, x), l, nil)
		}
	}
}

func TestRecoverOfTargetsThatDoNotPassCheck(t *testing.T) {
	for _, p := range []api.Plan{least, example, audited} {
		l := layoutOf(t, p)
		for _, at := range [][]int{{0}, {1}, {l.Head}, {l.Body}, {l.Slots}, {l.Total - 1}, {l.Total}, {65535}, {2, 1}, {2, 3, l.Head}, {2, 2}, {2, 3, 2}, {0, 0}} {
			wantRecover(t, holding(t, l, headOf(at)), l, nil)
		}
	}
}

func TestRecoverOfMoreTargetsThanRoom(t *testing.T) {
	// In the least layout, the body sectors of so many targets would be beyond the end of the disk.
	l := layoutOf(t, least)
	for _, n := range []int{l.Room + 1, most - 1, most} {
		wantRecover(t, holding(t, l, headOf(homes(n))), l, nil)
	}
	l = layoutOf(t, audited)
	for _, n := range []int{l.Room + 1, most} {
		wantRecover(t, holding(t, l, headOf(homes(n))), l, nil)
	}
	l = layoutOf(t, greatest)
	for _, n := range []int{l.Room + 1, most} {
		d := holding(t, l, headOf(homes(n)))
		if n, code := journal.New(d, l).Recover(); n != 0 || code != api.OK {
			t.Errorf("Recover = %d, %d, want 0", n, code)
		}
	}
}

func TestRecoverWithoutPower(t *testing.T) {
	l := layoutOf(t, example)
	for _, head := range []api.Sector{{}, headOf([]int{2, 6}), headOf([]int{1})} {
		d := holding(t, l, head)
		d.Fuse(0)
		d.Flush()
		steps := d.Steps()
		if n, code := journal.New(d, l).Recover(); n != 0 || code != api.ErrDown {
			t.Errorf("Recover = %d, %d, want ErrDown", n, code)
		}
		if d.Steps() != steps {
			t.Errorf("Recover took %d steps", d.Steps()-steps)
		}
	}
}

func TestClean(t *testing.T) {
	for _, p := range plans() {
		l := layoutOf(t, p)
		d := usedDisk(t, l)
		j := journal.New(d, l)
		steps := d.Steps()
		if !j.Clean() {
			t.Error("the journal of a used disk is not clean")
		}
		if d.Steps() != steps {
			t.Error("Clean writes")
		}
		for at := l.Head; at < l.Slots; at++ {
			for _, x := range []api.Sector{{1}, {255: 128}} {
				e := d.Twin()
				write(t, e, at, x)
				wantUnclean(t, e, l)
				flush(t, e)
				wantUnclean(t, e, l)
				write(t, e, at, api.Sector{})
				if !journal.New(e, l).Clean() {
					t.Errorf("sector %d is zero, and the journal is not clean", at)
				}
			}
		}
		d.Fuse(0)
		if !j.Clean() { // no read triggers the failure
			t.Error("the journal is not clean before the power fails")
		}
		d.Flush()
		wantUnclean(t, d, l)
	}
}

// wantUnclean checks that the journal of a disk is not clean.
func wantUnclean(t *testing.T, d *disk.Disk, l plan.Layout) {
	t.Helper()
	if journal.New(d, l).Clean() {
		t.Error("the journal is clean")
	}
}

// Promise 9.5.

// key is the durable content of a disk, by which states that were seen are told.
func key(d *disk.Disk) string {
	var b []byte
	for _, s := range d.Image() {
		b = append(b, s[:]...)
	}
	return string(b)
}

// afterCrashes calls visit with the disk after each crash that differs: all choices of the volatile writes that change a sector.
func afterCrashes(d *disk.Disk, visit func(*disk.Disk)) {
	image := d.Image()
	var matter []int
	for i := range d.Waits() {
		e := d.Twin()
		keep := make([]bool, d.Waits())
		keep[i] = true
		e.Crash(keep)
		if !slices.Equal(e.Image(), image) {
			matter = append(matter, i)
		}
	}
	for choice := range 1 << len(matter) {
		keep := make([]bool, d.Waits())
		for bit, i := range matter {
			keep[i] = choice>>bit&1 == 1
		}
		e := d.Twin()
		e.Crash(keep)
		visit(e)
	}
}

// outcome recovers a copy of a disk, twice, and returns its durable sectors.
func outcome(t *testing.T, d *disk.Disk, l plan.Layout) []api.Sector {
	t.Helper()
	d = d.Twin()
	j := journal.New(d, l)
	if _, code := j.Recover(); code != api.OK || !j.Clean() {
		t.Fatalf("Recover = %d, Clean() = %t", code, j.Clean())
	}
	image := d.Image()
	if n, code := j.Recover(); n != 0 || code != api.OK || !slices.Equal(d.Image(), image) {
		t.Fatalf("the second Recover = %d, %d, or it changed something", n, code)
	}
	return image
}

// explore crashes Recover in every way that is possible, again and again, and checks that the outcome stays.
func explore(t *testing.T, d *disk.Disk, l plan.Layout, want []api.Sector, seen map[string]int) {
	t.Helper()
	k := key(d)
	if seen[k] > 0 {
		return
	}
	seen[k] = len(seen) + 1
	if !slices.Equal(outcome(t, d, l), want) {
		t.Fatal("the changes are neither all made nor all left")
	}
	for fuse := 0; ; fuse++ {
		e := d.Twin()
		e.Fuse(fuse)
		if _, code := journal.New(e, l).Recover(); code == api.OK {
			break
		}
		afterCrashes(e, func(f *disk.Disk) { explore(t, f, l, want, seen) })
	}
}

func TestCrashesAtEveryPointOfCommit(t *testing.T) {
	for _, p := range []api.Plan{least, {Slots: 5, Texts: 2, Clips: 3, Audits: 2}} {
		l := layoutOf(t, p)
		for _, list := range [][]api.Change{changesOf(2), changesOf(2, 6), changesOf(6, 3, 2), changesOf(5, 2, 6, 3), {{At: 2}, {At: 4, S: filled(7)}}} {
			crashCommit(t, l, list)
		}
	}
}

// crashCommit crashes a Commit in every way that is possible.
func crashCommit(t *testing.T, l plan.Layout, list []api.Change) {
	t.Helper()
	start := usedDisk(t, l)
	before, after := start.Image(), start.Image()
	for _, c := range list {
		after[c.At] = c.S
	}
	seenBefore, seenAfter := map[string]int{}, map[string]int{}
	total := journal.New(start, l).Cost(len(list))
	for fuse := range total + 1 {
		d := start.Twin()
		d.Fuse(fuse)
		code := journal.New(d, l).Commit(list)
		if (code == api.OK) != (fuse == total) {
			t.Fatalf("fuse %d of %d: Commit = %d", fuse, total, code)
		}
		afterCrashes(d, func(e *disk.Disk) {
			// The changes are made from when the head is durable.
			head, _ := e.Read(l.Head)
			if fuse <= len(list)+1 || fuse == len(list)+2 && head == (api.Sector{}) {
				explore(t, e, l, before, seenBefore)
			} else {
				explore(t, e, l, after, seenAfter)
			}
		})
	}
}

func TestRandomCommitsAndCrashes(t *testing.T) {
	r := rand.New(rand.NewSource(9))
	for range 60 {
		p := api.Plan{Slots: 1 + r.Intn(plan.MaxSlots), Texts: 1 + r.Intn(plan.MaxTexts), Clips: 1 + r.Intn(plan.MaxClips), Audits: 1 + r.Intn(plan.MaxAudits)}
		l := layoutOf(t, p)
		d := usedDisk(t, l)
		j := journal.New(d, l)
		want := d.Image()
		for range 20 {
			list := randomChanges(r, l)
			after := slices.Clone(want)
			for _, c := range list {
				after[c.At] = c.S
			}
			d.Fuse(r.Intn(j.Cost(len(list)) + 5))
			code := j.Commit(list)
			crash(r, d)
			for range r.Intn(4) {
				d.Fuse(r.Intn(len(list) + l.Room + 5))
				j.Recover()
				crash(r, d)
			}
			if _, code := j.Recover(); code != api.OK || !j.Clean() || d.Waits() != 0 {
				t.Fatalf("Recover = %d, Clean() = %t, Waits() = %d", code, j.Clean(), d.Waits())
			}
			image := d.Image()
			made := slices.Equal(image, after)
			if !made && (code == api.OK || !slices.Equal(image, want)) {
				t.Fatalf("Commit of %d changes = %d, and the sectors are neither the old nor the new ones", len(list), code)
			}
			want = image
		}
	}
}

// randomChanges returns changes that pass Check.
func randomChanges(r *rand.Rand, l plan.Layout) []api.Change {
	n := 1 + r.Intn(min(l.Room, l.Head-2))
	list := make([]api.Change, n)
	for i, k := range r.Perm(l.Head - 2)[:n] {
		list[i].At = 2 + k
		r.Read(list[i].S[:])
	}
	return list
}

// crash crashes a disk with a random choice of its volatile writes.
func crash(r *rand.Rand, d *disk.Disk) {
	keep := make([]bool, d.Waits())
	for i := range keep {
		keep[i] = r.Intn(2) == 0
	}
	d.Crash(keep)
}
