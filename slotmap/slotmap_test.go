package slotmap_test

import (
	"hash/crc32"
	"math"
	"math/rand"
	"slices"
	"testing"

	"mortmain/api"
	"mortmain/plan"
	"mortmain/slotmap"
)

// most is the greatest number of slots.
const most = 200

// noStates returns numbers that are no state, some of which are one in their lowest byte.
func noStates() []int {
	return []int{-1, -2, 3, 4, 255, 256, 257, 258, 1 << 32, 1<<32 + 1, -256, -255, -254, math.MinInt, math.MaxInt}
}

// noSlots returns numbers of no slot in a map of n, some of which are one in their lowest byte.
func noSlots(n int) []int {
	return []int{-1, -2, n, n + 1, most, 255, 256, 257, 1 << 32, -256, math.MinInt, math.MaxInt}
}

// newMap returns a map of n free slots.
func newMap(t *testing.T, n int) *slotmap.Map {
	t.Helper()
	m, code := slotmap.New(n)
	if code != api.OK || m == nil {
		t.Fatalf("New(%d) = %v, %d", n, m, code)
	}
	return m
}

// mapOf returns a map of those states.
func mapOf(t *testing.T, states []int) *slotmap.Map {
	t.Helper()
	m := newMap(t, len(states))
	for i, what := range states {
		if code := m.Set(i, what); code != api.OK {
			t.Fatalf("Set(%d, %d) = %d", i, what, code)
		}
	}
	return m
}

// wantStates checks the states of all slots.
func wantStates(t *testing.T, m *slotmap.Map, want []int) {
	t.Helper()
	if m.Len() != len(want) {
		t.Fatalf("Len() = %d, want %d", m.Len(), len(want))
	}
	for i, what := range want {
		if got := m.Get(i); got != what {
			t.Fatalf("Get(%d) = %d, want %d of %v", i, got, what, want)
		}
	}
}

// where returns the slots with a state.
func where(states []int, what int) []int {
	var l []int
	for i, s := range states {
		if s == what {
			l = append(l, i)
		}
	}
	return l
}

// wantSlots checks what is told of the slots with a state.
func wantSlots(t *testing.T, m *slotmap.Map, what int, want []int) {
	t.Helper()
	if got := slices.Collect(m.All(what)); !slices.Equal(got, want) {
		t.Errorf("All(%d) has %v, want %v", what, got, want)
	}
	first, last := -1, -1
	if len(want) > 0 {
		first, last = want[0], want[len(want)-1]
	}
	if n := m.Count(what); n != len(want) {
		t.Errorf("Count(%d) = %d, want %d", what, n, len(want))
	}
	if i := m.First(what); i != first {
		t.Errorf("First(%d) = %d, want %d", what, i, first)
	}
	if i := m.Last(what); i != last {
		t.Errorf("Last(%d) = %d, want %d", what, i, last)
	}
}

// arrangements returns all lists of n states.
func arrangements(n int) [][]int {
	if n == 0 {
		return [][]int{nil}
	}
	var all [][]int
	for _, l := range arrangements(n - 1) {
		for what := range 3 {
			all = append(all, append(slices.Clone(l), what))
		}
	}
	return all
}

// small returns all lists of 1 to 6 states.
func small() [][]int {
	var all [][]int
	for n := 1; n <= 6; n++ {
		all = append(all, arrangements(n)...)
	}
	return all
}

// mixed returns n random states.
func mixed(r *rand.Rand, n int) []int {
	l := make([]int, n)
	for i := range l {
		l[i] = r.Intn(3)
	}
	return l
}

// seal returns the sealed sector of b as the document describes it.
func seal(b []byte) api.Sector {
	var x api.Sector
	copy(x[:252], b)
	sum := crc32.ChecksumIEEE(x[:252])
	copy(x[252:], []byte{byte(sum), byte(sum >> 8), byte(sum >> 16), byte(sum >> 24)})
	return x
}

// raw returns the sealed sector of two-bit numbers, states or not.
func raw(states []int) api.Sector {
	var b [252]byte
	for i, s := range states {
		// Added and multiplied, where the package shifts.
		b[i/4] += byte(s * []int{1, 4, 16, 64}[i%4])
	}
	return seal(b[:])
}

// wantBad checks that a sector is that of no map of n slots.
func wantBad(t *testing.T, n int, x api.Sector, what string) {
	t.Helper()
	if m, code := slotmap.Read(n, x); code != api.ErrBad || m != nil {
		t.Fatalf("%s: Read(%d) = %v, %d, want ErrBad", what, n, m, code)
	}
}

// wantRead checks that a sector is that of the map of those states.
func wantRead(t *testing.T, x api.Sector, want []int) {
	t.Helper()
	m, code := slotmap.Read(len(want), x)
	if code != api.OK || m == nil {
		t.Fatalf("Read(%d) = %v, %d, want %v", len(want), m, code, want)
	}
	wantStates(t, m, want)
}

// Promise 10.1.

func TestStatesAreNumbered(t *testing.T) {
	if slotmap.Free != 0 || slotmap.Used != 1 || slotmap.Doomed != 2 {
		t.Errorf("Free, Used, Doomed = %d, %d, %d", slotmap.Free, slotmap.Used, slotmap.Doomed)
	}
}

func TestNewIsFree(t *testing.T) {
	for n := 1; n <= most; n++ {
		wantStates(t, newMap(t, n), make([]int, n))
	}
}

func TestNewRejects(t *testing.T) {
	for _, n := range []int{0, -1, -200, most + 1, plan.MaxSlots + 1, 256, 257, 1 << 32, 1<<32 + 1, math.MinInt, math.MaxInt} {
		if m, code := slotmap.New(n); code != api.ErrRange || m != nil {
			t.Errorf("New(%d) = %v, %d, want ErrRange", n, m, code)
		}
	}
}

func TestNewMapsAreIndependent(t *testing.T) {
	a, b := newMap(t, 3), newMap(t, 3)
	a.Set(1, slotmap.Used)
	wantStates(t, a, []int{0, 1, 0})
	wantStates(t, b, []int{0, 0, 0})
}

func TestGetOfNoSlot(t *testing.T) {
	for _, n := range []int{1, 2, 9, most} {
		for _, fill := range []int{slotmap.Free, slotmap.Used, slotmap.Doomed} {
			m := mapOf(t, slices.Repeat([]int{fill}, n))
			for _, i := range noSlots(n) {
				if got := m.Get(i); got != -1 {
					t.Errorf("Get(%d) of %d slots = %d, want -1", i, n, got)
				}
			}
		}
	}
}

func TestSetChangesOneSlot(t *testing.T) {
	for _, n := range []int{1, 5, 9, most} {
		want := mixed(rand.New(rand.NewSource(int64(n))), n)
		m := mapOf(t, want)
		for i := range n {
			for _, what := range []int{slotmap.Used, slotmap.Doomed, slotmap.Doomed, slotmap.Free, slotmap.Doomed, slotmap.Used, slotmap.Free} {
				if code := m.Set(i, what); code != api.OK {
					t.Fatalf("Set(%d, %d) = %d", i, what, code)
				}
				old := want[i]
				want[i] = what
				wantStates(t, m, want)
				want[i] = old
			}
			m.Set(i, want[i])
		}
	}
}

func TestSetRejects(t *testing.T) {
	for _, n := range []int{1, 4, 9, most} {
		states := mixed(rand.New(rand.NewSource(int64(n))), n)
		m := mapOf(t, states)
		for _, i := range noSlots(n) {
			// That there is no such slot comes ahead of the state.
			for _, what := range append(noStates(), slotmap.Free, slotmap.Used, slotmap.Doomed) {
				if code := m.Set(i, what); code != api.ErrRange {
					t.Errorf("Set(%d, %d) of %d slots = %d, want ErrRange", i, what, n, code)
				}
			}
		}
		for i := range n {
			for _, what := range noStates() {
				if code := m.Set(i, what); code != api.ErrArg {
					t.Errorf("Set(%d, %d) of %d slots = %d, want ErrArg", i, what, n, code)
				}
			}
		}
		wantStates(t, m, states)
	}
}

func TestCopyIsEqual(t *testing.T) {
	r := rand.New(rand.NewSource(1))
	for n := 1; n <= most; n++ {
		states := mixed(r, n)
		wantStates(t, mapOf(t, states).Copy(), states)
	}
}

func TestCopyIsIndependent(t *testing.T) {
	states := []int{1, 0, 2, 0, 1}
	a := mapOf(t, states)
	b := a.Copy()
	c := b.Copy()
	a.Set(2, slotmap.Free)
	a.Take(1)
	b.Set(0, slotmap.Doomed)
	b.Take(2)
	wantStates(t, a, []int{1, 1, 0, 0, 1})
	wantStates(t, b, []int{2, 1, 2, 1, 1})
	wantStates(t, c, states)
}

// Promise 10.2.

func TestSlotsOfEachState(t *testing.T) {
	for _, states := range small() {
		m := mapOf(t, states)
		for what := range 3 {
			wantSlots(t, m, what, where(states, what))
		}
		wantStates(t, m, states)
	}
}

func TestSlotsOfLargeMaps(t *testing.T) {
	r := rand.New(rand.NewSource(2))
	for n := 1; n <= most; n++ {
		states := mixed(r, n)
		m := mapOf(t, states)
		for what := range 3 {
			wantSlots(t, m, what, where(states, what))
		}
	}
	for _, at := range []int{0, 1, 127, 128, most - 1} {
		states := make([]int, most)
		states[at] = slotmap.Doomed
		m := mapOf(t, states)
		wantSlots(t, m, slotmap.Doomed, []int{at})
		wantSlots(t, m, slotmap.Used, nil)
		wantSlots(t, m, slotmap.Free, where(states, slotmap.Free))
	}
}

func TestNoSlotHasNoState(t *testing.T) {
	for _, states := range [][]int{{0}, {1}, {2}, {0, 1, 2}, make([]int, most)} {
		m := mapOf(t, states)
		for _, what := range noStates() {
			wantSlots(t, m, what, nil)
		}
	}
}

func TestAllEndsWhenItsLoopDoes(t *testing.T) {
	states := []int{1, 0, 1, 1, 2, 1}
	m := mapOf(t, states)
	for stop := 1; stop <= 4; stop++ {
		var got []int
		for i := range m.All(slotmap.Used) {
			if got = append(got, i); len(got) == stop {
				break
			}
		}
		if want := where(states, slotmap.Used)[:stop]; !slices.Equal(got, want) {
			t.Errorf("%d turns saw %v, want %v", stop, got, want)
		}
	}
}

func TestAllCanBeRangedAgain(t *testing.T) {
	seq := mapOf(t, []int{1, 0, 1, 1}).All(slotmap.Used)
	for range seq {
		break
	}
	for range 3 {
		if got := slices.Collect(seq); !slices.Equal(got, []int{0, 2, 3}) {
			t.Errorf("the iterator has %v", got)
		}
	}
	pairs := 0
	for range seq {
		for range seq {
			pairs++
		}
	}
	if pairs != 9 {
		t.Errorf("two nested loops had %d turns, want 9", pairs)
	}
}

// An iterator is a result, which depends on earlier calls only (P7).
func TestAllStaysWhenTheMapChanges(t *testing.T) {
	m := mapOf(t, []int{1, 0, 1, 0, 2})
	used, free := m.All(slotmap.Used), m.All(slotmap.Free)
	m.Set(0, slotmap.Doomed)
	m.Set(4, slotmap.Used)
	m.Take(1)
	if got := slices.Collect(used); !slices.Equal(got, []int{0, 2}) {
		t.Errorf("the used slots became %v", got)
	}
	if got := slices.Collect(free); !slices.Equal(got, []int{1, 3}) {
		t.Errorf("the free slots became %v", got)
	}
	wantSlots(t, m, slotmap.Used, []int{1, 2, 4})
}

func TestTheMapMayChangeWithinALoop(t *testing.T) {
	m := mapOf(t, []int{2, 0, 2, 0, 2})
	var got []int
	for i := range m.All(slotmap.Doomed) {
		got = append(got, i)
		for j := range m.Len() {
			m.Set(j, slotmap.Free)
		}
		m.Set(i+1, slotmap.Doomed)
	}
	if !slices.Equal(got, []int{0, 2, 4}) {
		t.Errorf("the loop saw %v", got)
	}
	wantStates(t, m, make([]int, 5))
}

// Promise 10.3.

func TestTakeExample(t *testing.T) {
	m := newMap(t, 9)
	l, code := m.Take(3)
	if code != api.OK || !slices.Equal(l, []int{0, 1, 2}) {
		t.Fatalf("Take(3) = %v, %d", l, code)
	}
	if i := m.First(slotmap.Free); i != 3 {
		t.Errorf("First(Free) = %d, want 3", i)
	}
	wantStates(t, m, []int{1, 1, 1, 0, 0, 0, 0, 0, 0})
}

// wantTake checks what Take does to a map of those states.
func wantTake(t *testing.T, states []int, n int) {
	t.Helper()
	m, free, want := mapOf(t, states), where(states, slotmap.Free), slices.Clone(states)
	l, code := m.Take(n)
	if n > len(free) {
		if code != api.ErrFull || len(l) != 0 {
			t.Errorf("Take(%d) of %v = %v, %d, want ErrFull", n, states, l, code)
		}
		wantStates(t, m, want)
		return
	}
	if code != api.OK || !slices.Equal(l, free[:n]) {
		t.Errorf("Take(%d) of %v = %v, %d, want %v", n, states, l, code, free[:n])
	}
	for _, i := range free[:n] {
		want[i] = slotmap.Used
	}
	wantStates(t, m, want)
}

func TestTakeTheFirstFree(t *testing.T) {
	for _, states := range small() {
		for n := range len(states) + 2 {
			wantTake(t, states, n)
		}
	}
}

func TestTakeFromLargeMaps(t *testing.T) {
	r := rand.New(rand.NewSource(3))
	for n := 1; n <= most; n++ {
		states := mixed(r, n)
		free := len(where(states, slotmap.Free))
		for _, k := range []int{0, 1, free / 2, free - 1, free, free + 1, n + 1} {
			wantTake(t, states, max(k, 0))
		}
		wantTake(t, make([]int, n), n)
		wantTake(t, make([]int, n), n+1)
	}
}

func TestTakeRejects(t *testing.T) {
	for _, states := range [][]int{{0}, {1}, {2}, {0, 1, 2, 0}, make([]int, most), slices.Repeat([]int{1}, most)} {
		m := mapOf(t, states)
		for _, n := range []int{-1, -2, -most, math.MinInt} {
			if l, code := m.Take(n); code != api.ErrArg || len(l) != 0 {
				t.Errorf("Take(%d) = %v, %d, want ErrArg", n, l, code)
			}
		}
		for _, n := range []int{most + 1, 1 << 32, math.MaxInt} {
			if l, code := m.Take(n); code != api.ErrFull || len(l) != 0 {
				t.Errorf("Take(%d) = %v, %d, want ErrFull", n, l, code)
			}
		}
		wantStates(t, m, states)
	}
}

func TestTakeAgain(t *testing.T) {
	m := mapOf(t, []int{0, 2, 0, 0, 1, 0})
	for _, step := range []struct {
		n    int
		want []int
		code api.Code
	}{
		{2, []int{0, 2}, api.OK}, {3, nil, api.ErrFull}, {0, nil, api.OK}, {1, []int{3}, api.OK},
		{1, []int{5}, api.OK}, {1, nil, api.ErrFull}, {0, nil, api.OK},
	} {
		if l, code := m.Take(step.n); code != step.code || !slices.Equal(l, step.want) {
			t.Errorf("Take(%d) = %v, %d, want %v, %d", step.n, l, code, step.want, step.code)
		}
	}
	wantStates(t, m, []int{1, 2, 1, 1, 1, 1})
	m.Set(1, slotmap.Free)
	if l, code := m.Take(1); code != api.OK || !slices.Equal(l, []int{1}) {
		t.Errorf("Take(1) of a slot that is free again = %v, %d", l, code)
	}
}

func TestTakeReturnsNewMemory(t *testing.T) {
	m := newMap(t, 4)
	a, _ := m.Take(2)
	b, _ := m.Take(2)
	a[0], a[1] = 7, 7
	_ = append(a, 7, 7)
	if !slices.Equal(b, []int{2, 3}) {
		t.Errorf("the second result became %v", b)
	}
	wantStates(t, m, []int{1, 1, 1, 1})
}

// Promise 10.4.

func TestPutWritesTheStatesInOrder(t *testing.T) {
	x := mapOf(t, []int{1, 2, 0, 0, 0, 0, 1, 2, 2, 1}).Put()
	want := []byte{1 | 2<<2, 1<<4 | 2<<6, 2 | 1<<2}
	for i := range 252 {
		b := byte(0)
		if i < len(want) {
			b = want[i]
		}
		if x[i] != b {
			t.Errorf("byte %d is %#x, want %#x", i, x[i], b)
		}
	}
	sum := crc32.ChecksumIEEE(x[:252])
	if got := [4]byte(x[252:]); got != [4]byte{byte(sum), byte(sum >> 8), byte(sum >> 16), byte(sum >> 24)} {
		t.Errorf("the checksum is %x, want %x in little-endian order", got, sum)
	}
}

func TestPutOfOneSlot(t *testing.T) {
	for i := range most {
		for what := range 3 {
			states := make([]int, most)
			states[i] = what
			var b [252]byte
			b[i/4] = byte(what) << (2 * (i % 4))
			if mapOf(t, states).Put() != seal(b[:]) {
				t.Errorf("slot %d of state %d is put in another place", i, what)
			}
		}
	}
}

func TestPutOfFreeSlots(t *testing.T) {
	for n := 1; n <= most; n++ {
		if newMap(t, n).Put() != seal(nil) {
			t.Errorf("Put of %d free slots is not the sealed sector of zeros", n)
		}
	}
}

func TestPutKeepsTheMap(t *testing.T) {
	states := mixed(rand.New(rand.NewSource(4)), most)
	m := mapOf(t, states)
	if x := m.Put(); x != m.Put() || x != raw(states) {
		t.Error("a second Put differs")
	}
	wantStates(t, m, states)
}

func TestReadRejectsNumbers(t *testing.T) {
	for _, n := range []int{0, -1, most + 1, 256, 1 << 32, 1<<32 + 1, math.MinInt, math.MaxInt} {
		// The error of New comes ahead of a sector of no map.
		for _, x := range []api.Sector{seal(nil), raw([]int{1, 2}), {}, raw([]int{3})} {
			if m, code := slotmap.Read(n, x); code != api.ErrRange || m != nil {
				t.Errorf("Read(%d) = %v, %d, want ErrRange", n, m, code)
			}
		}
	}
}

func TestReadRejectsOtherSectors(t *testing.T) {
	var ones, unsealed api.Sector
	for i := range ones {
		ones[i] = 255
	}
	x := raw([]int{1, 2})
	copy(unsealed[:252], x[:])
	turned := x
	slices.Reverse(turned[252:])
	for _, n := range []int{1, 2, 4, most} {
		wantBad(t, n, api.Sector{}, "zeros")
		wantBad(t, n, api.Sector{1}, "one byte")
		wantBad(t, n, ones, "ones")
		wantBad(t, n, unsealed, "no checksum")
		wantBad(t, n, turned, "the checksum with the highest byte first")
	}
}

func TestReadRejectsWhatIsNoState(t *testing.T) {
	for n := 1; n <= most; n++ {
		for i := range n {
			states := make([]int, n)
			states[i] = 3
			wantBad(t, n, raw(states), "a slot of state 3")
		}
	}
}

func TestReadRejectsBitsBehindTheStates(t *testing.T) {
	for _, n := range []int{1, 2, 3, 4, 5, 8, 9, most - 1, most} {
		states := mixed(rand.New(rand.NewSource(int64(n))), n)
		x := raw(states)
		wantRead(t, x, states)
		for bit := 2 * n; bit < 8*252; bit++ {
			y := x
			y[bit/8] |= 1 << (bit % 8)
			wantBad(t, n, seal(y[:252]), "a bit behind the states")
		}
	}
}

func TestReadRejectsEveryChangedBit(t *testing.T) {
	for _, n := range []int{1, 6, most} {
		x := raw(mixed(rand.New(rand.NewSource(int64(n))), n))
		for bit := range 8 * len(x) {
			y := x
			y[bit/8] ^= 1 << (bit % 8)
			wantBad(t, n, y, "a changed bit")
		}
	}
}

// Free slots at the end leave no trace: a sector is that of a map of each number of slots behind which it is zero.
func TestReadWithAnotherNumber(t *testing.T) {
	states := []int{1, 0, 2, 0, 0, 1, 0, 0, 0}
	x := mapOf(t, states).Put()
	for n := 1; n <= most; n++ {
		if n < 6 {
			wantBad(t, n, x, "a used slot behind the last one")
			continue
		}
		want := make([]int, n)
		copy(want, states)
		wantRead(t, x, want)
	}
}

func TestReadMapsAreIndependent(t *testing.T) {
	x := raw([]int{0, 1, 2})
	a, _ := slotmap.Read(3, x)
	b, _ := slotmap.Read(3, x)
	a.Set(1, slotmap.Doomed)
	a.Take(1)
	wantStates(t, a, []int{1, 2, 2})
	wantStates(t, b, []int{0, 1, 2})
	wantRead(t, x, []int{0, 1, 2})
}

// Promise 10.5.

func TestSmallMapsAreReadBack(t *testing.T) {
	seen := map[api.Sector][]int{}
	for _, states := range small() {
		x := mapOf(t, states).Put()
		wantRead(t, x, states)
		if other, ok := seen[x]; ok && len(other) == len(states) {
			t.Errorf("%v and %v have the same sector", states, other)
		}
		seen[x] = states
	}
}

func TestLargeMapsAreReadBack(t *testing.T) {
	r := rand.New(rand.NewSource(5))
	for n := 1; n <= most; n++ {
		for _, states := range [][]int{mixed(r, n), make([]int, n), slices.Repeat([]int{1}, n), slices.Repeat([]int{2}, n)} {
			x := mapOf(t, states).Put()
			if x != raw(states) {
				t.Errorf("Put of %v = %v", states, x)
			}
			wantRead(t, x, states)
		}
	}
}

func TestReadAcceptsOnlyWhatPutReturns(t *testing.T) {
	r := rand.New(rand.NewSource(6))
	accepted := 0
	for range 20000 {
		n := 1 + r.Intn(12)
		x := seal([]byte{byte(r.Intn(256)), byte(r.Intn(256)), byte(r.Intn(4) * r.Intn(2))})
		m, code := slotmap.Read(n, x)
		if code == api.OK {
			accepted++
			if m.Len() != n || m.Put() != x {
				t.Fatalf("Read(%d) accepts %v", n, x[:3])
			}
		} else if code != api.ErrBad || m != nil {
			t.Fatalf("Read(%d) = %v, %d", n, m, code)
		}
	}
	if accepted == 0 {
		t.Error("no sector was accepted")
	}
}

// All calls at random, held against a plain list of states.
func TestRandomCalls(t *testing.T) {
	for seed := range int64(300) {
		r := rand.New(rand.NewSource(seed))
		n := 1 + r.Intn(most)>>r.Intn(6)
		states, m := make([]int, n), newMap(t, n)
		for range 60 {
			switch i, what := r.Intn(n), r.Intn(3); r.Intn(5) {
			case 0, 1:
				m.Set(i, what)
				states[i] = what
			case 2:
				free, k := where(states, slotmap.Free), r.Intn(4)
				l, code := m.Take(k)
				if k > len(free) {
					if code != api.ErrFull || len(l) != 0 {
						t.Fatalf("Take(%d) = %v, %d of %v", k, l, code, states)
					}
					continue
				}
				if code != api.OK || !slices.Equal(l, free[:k]) {
					t.Fatalf("Take(%d) = %v, %d of %v", k, l, code, states)
				}
				for _, at := range l {
					states[at] = slotmap.Used
				}
			case 3:
				wantSlots(t, m, what, where(states, what))
			case 4:
				old := m
				m, _ = slotmap.Read(n, m.Copy().Put())
				old.Set(i, (states[i]+1)%3)
			}
			wantStates(t, m, states)
		}
	}
}
