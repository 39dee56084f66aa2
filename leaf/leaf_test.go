package leaf_test

import (
	"hash/crc32"
	"math"
	"math/rand"
	"slices"
	"testing"

	"mortmain/api"
	"mortmain/leaf"
	"mortmain/plan"
)

// Limits as the document gives them.
const (
	mostBytes = 2048
	mostUses  = 160
	mostSlots = 200
)

// chunks returns how many pieces of 256 bytes hold so many bytes.
func chunks(size int) int {
	n := 0
	for size > 256*n {
		n++
	}
	return n
}

// mixed returns a valid descriptor without a pattern, of a text of that size.
func mixed(r *rand.Rand, size int) api.Text {
	t := api.Text{Size: size, Bound: r.Intn(mostUses + 1)}
	r.Read(t.Addr[:])
	for range chunks(size) {
		t.Slots = append(t.Slots, r.Intn(mostSlots))
	}
	return t
}

// sizes returns the sizes at which the number of chunks changes, and some between.
func sizes() []int {
	l := []int{1, 2, 100, 300, 1000, 2000}
	for n := 256; n <= mostBytes; n += 256 {
		l = append(l, n-1, n)
		if n < mostBytes {
			l = append(l, n+1)
		}
	}
	return l
}

// seal returns the sector of b, zero bytes and the checksum of both.
func seal(b []byte) api.Sector {
	var x api.Sector
	if copy(x[:252], b) < len(b) {
		panic("these bytes do not leave room for a checksum")
	}
	sum := crc32.ChecksumIEEE(x[:252])
	x[252], x[253], x[254], x[255] = byte(sum), byte(sum>>8), byte(sum>>16), byte(sum>>24)
	return x
}

// bytesOf returns the bytes that 14.2 words for a descriptor, valid or not, without what seals them.
func bytesOf(t api.Text) []byte {
	b := []byte{'L', 'E', 'A', 'F'}
	for _, x := range t.Addr {
		b = append(b, x)
	}
	b = append(b, byte(t.Size%256), byte(t.Size/256), byte(t.Bound%256), byte(t.Bound/256))
	for _, s := range t.Slots {
		b = append(b, byte(s))
	}
	return b
}

// raw returns the sector of a descriptor, valid or not.
func raw(t api.Text) api.Sector {
	return seal(bytesOf(t))
}

// equal reports whether two descriptors are the same, field by field.
func equal(a, b api.Text) bool {
	if a.Addr != b.Addr || a.Size != b.Size || a.Bound != b.Bound || len(a.Slots) != len(b.Slots) {
		return false
	}
	for i, s := range a.Slots {
		if s != b.Slots[i] {
			return false
		}
	}
	return true
}

// zero reports whether every field of a descriptor is.
func zero(t api.Text) bool {
	return equal(t, api.Text{})
}

// twin returns a descriptor that shares nothing with t, without the help of package leaf.
func twin(t api.Text) api.Text {
	return api.Text{Addr: t.Addr, Size: t.Size, Bound: t.Bound, Slots: append([]int(nil), t.Slots...)}
}

// verdict returns what 14.1 says of a descriptor, in its order.
func verdict(t api.Text, slots int) api.Code {
	switch {
	case !(1 <= t.Size && t.Size <= mostBytes):
		return api.ErrSize
	case chunks(t.Size) != len(t.Slots):
		return api.ErrArg
	case !(0 <= t.Bound && t.Bound <= mostUses):
		return api.ErrRange
	}
	for _, s := range t.Slots {
		if !(0 <= s && s < slots && s < mostSlots) {
			return api.ErrRange
		}
	}
	return api.OK
}

// wantCheck checks what is said of a descriptor.
func wantCheck(t *testing.T, x api.Text, slots int, want api.Code) {
	t.Helper()
	if code := leaf.Check(x, slots); code != want {
		t.Fatalf("Check(%v, %d) = %d, want %d", x, slots, code, want)
	}
}

// wantGet checks that a sector is that of a descriptor.
func wantGet(t *testing.T, x api.Sector, slots int, want api.Text) {
	t.Helper()
	if got, ok, code := leaf.Get(x, slots); code != api.OK || !ok || !equal(got, want) {
		t.Fatalf("Get(%v, %d) = %v, %t, %d, want %v", x, slots, got, ok, code, want)
	}
}

// wantBad checks that a sector is that of no descriptor.
func wantBad(t *testing.T, x api.Sector, slots int, why string) {
	t.Helper()
	if got, ok, code := leaf.Get(x, slots); code != api.ErrBad || ok || !zero(got) {
		t.Fatalf("Get of %s = %v, %t, %d, want ErrBad", why, got, ok, code)
	}
}

// example returns the descriptor of the chapter's example.
func example() api.Text {
	return api.Text{Addr: api.Address{7, 31: 9}, Size: 300, Slots: []int{4, 2}}
}

// stores returns numbers of slots within and beyond what a store may have.
func stores() []int {
	return []int{math.MinInt, -200, -1, 0, 1, 2, 4, 5, 127, 128, 199, 200, 201, 255, 256, 257, 1 << 32, 1<<32 + 5, math.MaxInt}
}

// Promise 14.1.

func TestLimits(t *testing.T) {
	if leaf.MaxUses != mostUses {
		t.Errorf("MaxUses = %d, want %d", leaf.MaxUses, mostUses)
	}
	if plan.MaxSlots != mostSlots {
		t.Errorf("MaxSlots = %d, want %d", plan.MaxSlots, mostSlots)
	}
}

func TestCheckExample(t *testing.T) {
	wantCheck(t, example(), 5, api.OK)
	wantCheck(t, example(), 4, api.ErrRange)
}

func TestCheckEverySize(t *testing.T) {
	r := rand.New(rand.NewSource(1))
	for size := 1; size <= mostBytes; size++ {
		wantCheck(t, mixed(r, size), mostSlots, api.OK)
	}
}

func TestCheckRejectsSizes(t *testing.T) {
	for _, size := range []int{0, -1, -255, -256, -257, mostBytes + 1, mostBytes + 256, 65536, 65537, 1 << 32, 1<<32 + 1, math.MinInt, math.MaxInt} {
		for n := range 10 {
			// The size comes ahead of all that is wrong besides.
			for _, bound := range []int{0, -1, mostUses + 1} {
				for _, slot := range []int{0, -1, mostSlots} {
					x := api.Text{Size: size, Bound: bound, Slots: slices.Repeat([]int{slot}, n)}
					wantCheck(t, x, mostSlots, api.ErrSize)
					wantCheck(t, x, 0, api.ErrSize)
				}
			}
		}
	}
}

func TestCheckRejectsOtherNumbersOfSlots(t *testing.T) {
	for _, size := range sizes() {
		for n := range 20 {
			want := api.ErrArg
			if n == chunks(size) {
				want = api.OK
			}
			wantCheck(t, api.Text{Size: size, Slots: make([]int, n)}, 1, want)
			if want == api.OK {
				continue
			}
			// The number of slots comes ahead of the bound and the slots.
			wantCheck(t, api.Text{Size: size, Bound: -1, Slots: make([]int, n)}, 1, api.ErrArg)
			wantCheck(t, api.Text{Size: size, Bound: mostUses + 1, Slots: make([]int, n)}, 1, api.ErrArg)
			wantCheck(t, api.Text{Size: size, Slots: slices.Repeat([]int{-1}, n)}, 1, api.ErrArg)
			wantCheck(t, api.Text{Size: size, Slots: slices.Repeat([]int{mostSlots}, n)}, 1, api.ErrArg)
			wantCheck(t, api.Text{Size: size, Slots: make([]int, n)}, 0, api.ErrArg)
		}
		wantCheck(t, api.Text{Size: size}, 1, api.ErrArg)
	}
}

func TestCheckBounds(t *testing.T) {
	x := example()
	for x.Bound = 0; x.Bound <= mostUses; x.Bound++ {
		wantCheck(t, x, 5, api.OK)
	}
	for _, x.Bound = range []int{-1, -2, math.MinInt, mostUses + 1, mostUses + 2, 255, 256, 65535, 65536, 65537, 1 << 32, 1<<32 + 1, math.MaxInt} {
		wantCheck(t, x, 5, api.ErrRange)
	}
}

func TestCheckEverySlot(t *testing.T) {
	for slots := -1; slots <= mostSlots+60; slots++ {
		for s := -2; s <= mostSlots+60; s++ {
			want := api.ErrRange
			if s >= 0 && s < slots && s < mostSlots {
				want = api.OK
			}
			wantCheck(t, api.Text{Size: 1, Slots: []int{s}}, slots, want)
		}
	}
}

func TestCheckSlotsAtEachPlace(t *testing.T) {
	for n := 1; n <= 8; n++ {
		for i := range n {
			for _, slots := range stores() {
				for _, s := range []int{math.MinInt, -1, 0, 1, 3, 4, 5, slots - 1, slots, slots + 1, 199, 200, 255, 256, 1 << 32, math.MaxInt} {
					x := api.Text{Size: 256 * n, Bound: 1, Slots: make([]int, n)}
					x.Slots[i] = s
					wantCheck(t, x, slots, verdict(x, slots))
				}
			}
		}
	}
}

// Equal chunks of a text stand in one slot.
func TestCheckAllowsASlotTwice(t *testing.T) {
	for n := 1; n <= 8; n++ {
		for _, s := range []int{0, 6, mostSlots - 1} {
			wantCheck(t, api.Text{Size: 256 * n, Slots: slices.Repeat([]int{s}, n)}, mostSlots, api.OK)
		}
	}
}

func TestCheckAllTogether(t *testing.T) {
	for _, size := range []int{-1, 0, 1, 256, 257, 2048, 2049} {
		for n := range 10 {
			for _, bound := range []int{-1, 0, mostUses, mostUses + 1} {
				for _, first := range []int{-1, 0, 9, 10, mostSlots} {
					for _, slots := range []int{0, 1, 10, mostSlots, mostSlots + 1} {
						x := api.Text{Size: size, Bound: bound, Slots: make([]int, n)}
						if n > 0 {
							x.Slots[n-1] = first
						}
						wantCheck(t, x, slots, verdict(x, slots))
						x.Addr = api.Address{1, 255, 31: 3}
						wantCheck(t, x, slots, verdict(x, slots))
					}
				}
			}
		}
	}
}

// Promise 14.2.

func TestPutWritesTheFieldsInOrder(t *testing.T) {
	x := api.Text{Size: 0x0201, Bound: 0x9f, Slots: []int{199, 0, 128}}
	for i := range x.Addr {
		x.Addr[i] = byte(200 + i)
	}
	s, code := leaf.Put(x)
	if code != api.OK {
		t.Fatalf("Put = %d", code)
	}
	want := map[int]byte{0: 0x4c, 1: 0x45, 2: 0x41, 3: 0x46, 36: 0x01, 37: 0x02, 38: 0x9f, 40: 199, 42: 128}
	for i := range x.Addr {
		want[4+i] = byte(200 + i)
	}
	for i := range 252 {
		if s[i] != want[i] {
			t.Errorf("byte %d is %#x, want %#x", i, s[i], want[i])
		}
	}
	sum := crc32.ChecksumIEEE(s[:252])
	if got := [4]byte(s[252:]); got != [4]byte{byte(sum), byte(sum >> 8), byte(sum >> 16), byte(sum >> 24)} {
		t.Errorf("the checksum is %x, want %x in little-endian order", got, sum)
	}
}

func TestPutEverySize(t *testing.T) {
	r := rand.New(rand.NewSource(2))
	for size := 1; size <= mostBytes; size++ {
		x := mixed(r, size)
		if s, code := leaf.Put(x); code != api.OK || s != raw(x) {
			t.Fatalf("Put(%v) = %v, %d", x, s, code)
		}
	}
}

func TestPutEveryBoundAndSlot(t *testing.T) {
	for bound := range mostUses + 1 {
		for s := range mostSlots {
			x := api.Text{Addr: api.Address{5}, Size: 257, Bound: bound, Slots: []int{s, mostSlots - 1 - s}}
			if got, code := leaf.Put(x); code != api.OK || got != raw(x) {
				t.Fatalf("Put(%v) = %v, %d", x, got, code)
			}
		}
	}
}

func TestPutRejects(t *testing.T) {
	for _, size := range []int{math.MinInt, -1, 0, 1, 256, 257, 2048, 2049, 65536, 65537, 1<<32 + 1, math.MaxInt} {
		for n := range 10 {
			for _, bound := range []int{math.MinInt, -1, 0, mostUses, mostUses + 1, 65536, 1 << 32, math.MaxInt} {
				for _, s := range []int{math.MinInt, -1, 0, mostSlots - 1, mostSlots, 255, 256, 1 << 32, math.MaxInt} {
					x := api.Text{Addr: api.Address{1}, Size: size, Bound: bound, Slots: slices.Repeat([]int{s}, n)}
					want := verdict(x, mostSlots)
					got, code := leaf.Put(x)
					if code != want || code != api.OK && got != (api.Sector{}) {
						t.Fatalf("Put(%v) = %v, %d, want %d", x, got, code, want)
					}
				}
			}
		}
	}
}

func TestGetExample(t *testing.T) {
	x := example()
	s, code := leaf.Put(x)
	if code != api.OK {
		t.Fatalf("Put = %d", code)
	}
	wantGet(t, s, 5, x)
	wantBad(t, s, 4, "a slot that the store does not have")
}

func TestGetOfZeros(t *testing.T) {
	for _, slots := range stores() {
		if got, ok, code := leaf.Get(api.Sector{}, slots); code != api.OK || ok || !zero(got) {
			t.Errorf("Get of zeros, %d = %v, %t, %d, want no text", slots, got, ok, code)
		}
	}
}

func TestGetChecksTheSlots(t *testing.T) {
	for n := 1; n <= 8; n++ {
		for i := range n {
			for _, s := range []int{0, 1, 4, 127, 128, mostSlots - 1} {
				x := api.Text{Addr: api.Address{3}, Size: 256*n - 1, Bound: 2, Slots: make([]int, n)}
				x.Slots[i] = s
				for _, slots := range append(stores(), s-1, s, s+1, s+2) {
					if slots > s {
						wantGet(t, raw(x), slots, x)
					} else {
						wantBad(t, raw(x), slots, "a slot that the store does not have")
					}
				}
			}
		}
	}
}

func TestGetRejectsSlotsThatNoStoreHas(t *testing.T) {
	for n := 1; n <= 8; n++ {
		for i := range n {
			for s := mostSlots; s < 256; s++ {
				x := api.Text{Size: 256 * n, Slots: make([]int, n)}
				x.Slots[i] = s
				for _, slots := range []int{mostSlots, s, s + 1, 256, math.MaxInt} {
					wantBad(t, raw(x), slots, "a slot beyond the last one of any store")
				}
			}
		}
	}
}

func TestGetRejectsSizes(t *testing.T) {
	for size := range 65536 {
		if size >= 1 && size <= mostBytes {
			continue
		}
		x := api.Text{Addr: api.Address{8}, Size: size, Bound: 1, Slots: make([]int, min(chunks(size%mostBytes), 8))}
		wantBad(t, raw(x), mostSlots, "a size beyond the limits")
	}
}

func TestGetRejectsBounds(t *testing.T) {
	x := example()
	for x.Bound = range 65536 {
		if x.Bound <= mostUses {
			wantGet(t, raw(x), 5, x)
		} else {
			wantBad(t, raw(x), 5, "a bound beyond the limit")
		}
	}
}

func TestGetRejectsBytesBehindTheSlots(t *testing.T) {
	r := rand.New(rand.NewSource(3))
	for _, size := range sizes() {
		x := mixed(r, size)
		b := bytesOf(x)
		for at := len(b); at < 252; at++ {
			for _, v := range []byte{1, 128, 255} {
				y := make([]byte, 252)
				copy(y, b)
				y[at] = v
				wantBad(t, seal(y), mostSlots, "a byte behind the slots")
			}
		}
		wantGet(t, seal(b), mostSlots, x)
	}
}

func TestGetRejectsOtherMarks(t *testing.T) {
	b := bytesOf(example())
	for i := range 4 {
		for v := range 256 {
			y := slices.Clone(b)
			if y[i] == byte(v) {
				continue
			}
			y[i] = byte(v)
			wantBad(t, seal(y), 5, "another mark")
		}
	}
	for _, mark := range []string{"leaf", "Leaf", "FAEL", "MORT", "TEXT", "\x00\x00\x00\x00"} {
		wantBad(t, seal(append([]byte(mark), b[4:]...)), 5, "another mark")
	}
}

func TestGetRejectsEveryChangedBit(t *testing.T) {
	r := rand.New(rand.NewSource(4))
	for _, size := range sizes() {
		x := raw(mixed(r, size))
		for bit := range 8 * len(x) {
			y := x
			y[bit/8] ^= 1 << (bit % 8)
			wantBad(t, y, mostSlots, "a changed bit")
		}
	}
}

func TestGetRejectsOtherSectors(t *testing.T) {
	x := raw(example())
	var ones, unsealed api.Sector
	for i := range ones {
		ones[i] = 255
	}
	copy(unsealed[:252], x[:])
	turned := x
	slices.Reverse(turned[252:])
	for why, y := range map[string]api.Sector{
		"ones":                               ones,
		"one byte":                           {1},
		"one byte at the end":                {255: 1},
		"the mark alone":                     {'L', 'E', 'A', 'F'},
		"the mark, sealed":                   seal([]byte("LEAF")),
		"zeros, sealed":                      seal(nil),
		"no checksum":                        unsealed,
		"the checksum with high byte first":  turned,
		"the fields without the mark before": seal(bytesOf(example())[4:]),
		"a byte ahead of the mark":           seal(append([]byte{0}, bytesOf(example())...)),
	} {
		for _, slots := range stores() {
			wantBad(t, y, slots, why)
		}
	}
}

func TestGetReturnsNewMemory(t *testing.T) {
	x := example()
	a, _, _ := leaf.Get(raw(x), 5)
	b, _, _ := leaf.Get(raw(x), 5)
	a.Slots[0], a.Slots[1] = 7, 7
	_ = append(a.Slots, 7)
	if !equal(b, x) {
		t.Errorf("the second result became %v", b)
	}
	wantGet(t, raw(x), 5, x)
}

// Promise 14.3.

func TestSameOfEqualDescriptors(t *testing.T) {
	r := rand.New(rand.NewSource(5))
	for size := 1; size <= mostBytes; size++ {
		x := mixed(r, size)
		if !leaf.Same(x, x) || !leaf.Same(x, twin(x)) || !leaf.Same(twin(x), x) {
			t.Fatalf("Same of %v and itself = false", x)
		}
	}
}

func TestSameComparesEachField(t *testing.T) {
	x := api.Text{Addr: api.Address{1}, Size: 600, Slots: []int{4, 2, 9}, Bound: 3}
	other := func(change func(*api.Text)) {
		t.Helper()
		y := twin(x)
		change(&y)
		if leaf.Same(x, y) || leaf.Same(y, x) {
			t.Errorf("Same of %v and %v = true", x, y)
		}
	}
	for i := range x.Addr {
		for bit := range 8 {
			other(func(y *api.Text) { y.Addr[i] ^= 1 << bit })
		}
	}
	for _, n := range []int{1, -1, 256, 1 << 16, 1 << 32, 1 << 40, math.MinInt} {
		other(func(y *api.Text) { y.Size += n })
		other(func(y *api.Text) { y.Bound += n })
		for i := range x.Slots {
			other(func(y *api.Text) { y.Slots[i] += n })
		}
	}
	for n := range x.Slots {
		other(func(y *api.Text) { y.Slots = y.Slots[:n] })
		other(func(y *api.Text) { y.Slots = y.Slots[n+1:] })
	}
	other(func(y *api.Text) { y.Slots = nil })
	other(func(y *api.Text) { y.Slots = append(y.Slots, 0) })
	other(func(y *api.Text) { y.Slots = append([]int{0}, y.Slots...) })
	other(func(y *api.Text) { y.Slots[0], y.Slots[1] = y.Slots[1], y.Slots[0] })
	other(func(y *api.Text) { y.Size, y.Bound = y.Bound, y.Size })
	other(func(y *api.Text) { *y = api.Text{} })
}

func TestSameOfNoSlots(t *testing.T) {
	none, empty := api.Text{Size: 1}, api.Text{Size: 1, Slots: []int{}}
	if !leaf.Same(none, empty) || !leaf.Same(empty, none) || !leaf.Same(none, none) || !leaf.Same(api.Text{}, api.Text{}) {
		t.Error("nil and empty slots are not the same")
	}
}

// invalid returns descriptors that Check rejects: 14.3 holds for them as well.
func invalid() []api.Text {
	return []api.Text{
		{},
		{Slots: []int{}},
		{Addr: api.Address{9}, Size: -1, Bound: math.MinInt, Slots: []int{-5, math.MaxInt, 300, 7}},
		{Size: math.MaxInt, Bound: 1 << 40, Slots: slices.Repeat([]int{7}, 50)},
	}
}

func TestCopyIsEqual(t *testing.T) {
	r := rand.New(rand.NewSource(6))
	l := invalid()
	for _, size := range sizes() {
		l = append(l, mixed(r, size))
	}
	for _, x := range l {
		want := twin(x)
		if y := leaf.Copy(x); !equal(y, want) || !leaf.Same(x, y) {
			t.Errorf("Copy of %v = %v", want, y)
		}
		if !equal(x, want) {
			t.Errorf("Copy changed %v to %v", want, x)
		}
	}
}

func TestCopyIsIndependent(t *testing.T) {
	x := example()
	y := leaf.Copy(x)
	z := leaf.Copy(y)
	x.Slots[0], y.Slots[1] = 9, 8
	_ = append(y.Slots, 7)
	if !slices.Equal(x.Slots, []int{9, 2}) || !slices.Equal(y.Slots, []int{4, 8}) || !slices.Equal(z.Slots, []int{4, 2}) {
		t.Errorf("the slots became %v, %v, %v", x.Slots, y.Slots, z.Slots)
	}
}

// behind returns the slots of a descriptor, and the memory that lies behind them.
func behind(x *api.Text) []int {
	whole := append(slices.Clone(x.Slots), 77, 77, 77)
	x.Slots = whole[:len(x.Slots)]
	return whole
}

func TestMemoryBehindTheSlotsIsLeftAlone(t *testing.T) {
	x := example()
	whole := behind(&x)
	y := leaf.Copy(x)
	z, _ := leaf.Moved(x, 4, 77)
	m, _ := leaf.Moved(x, 77, 4)
	leaf.Put(x)
	for _, l := range [][]int{y.Slots, z.Slots, m.Slots} {
		_ = append(l, 5)
		if len(l) != 2 {
			t.Errorf("the slots are %v", l)
		}
	}
	if !slices.Equal(whole, []int{4, 2, 77, 77, 77}) {
		t.Errorf("the memory became %v", whole)
	}
	w := twin(x)
	behind(&w)[2] = 78
	if !leaf.Same(x, w) {
		t.Error("Same reads what lies behind the slots")
	}
}

func TestMovedExamples(t *testing.T) {
	for _, c := range []struct {
		slots    []int
		from, to int
		want     []int
		found    bool
	}{
		{[]int{4, 2}, 4, 0, []int{0, 2}, true},
		{[]int{4, 2}, 2, 0, []int{4, 0}, true},
		{[]int{4, 2}, 0, 4, []int{4, 2}, false},
		{[]int{4, 2}, 3, 3, []int{4, 2}, false},
		{[]int{4, 2}, 4, 4, []int{4, 2}, true},
		{[]int{4, 2}, 4, 2, []int{2, 2}, true},
		{[]int{4, 4, 4}, 4, 1, []int{1, 1, 1}, true},
		{[]int{4, 2, 4, 0, 4}, 4, 199, []int{199, 2, 199, 0, 199}, true},
		{[]int{0, 1, 2}, 1, 2, []int{0, 2, 2}, true},
		{[]int{0, 1, 2}, 0, 1, []int{1, 1, 2}, true},
		{nil, 0, 1, nil, false},
		{[]int{}, 0, 0, nil, false},
		{[]int{-1, 300}, -1, math.MinInt, []int{math.MinInt, 300}, true},
		{[]int{-1, 300}, 300, math.MaxInt, []int{-1, math.MaxInt}, true},
	} {
		x := api.Text{Addr: api.Address{6}, Size: 3, Bound: 8, Slots: slices.Clone(c.slots)}
		want := api.Text{Addr: api.Address{6}, Size: 3, Bound: 8, Slots: c.want}
		if got, found := leaf.Moved(x, c.from, c.to); found != c.found || !equal(got, want) {
			t.Errorf("Moved(%v, %d, %d) = %v, %t, want %v, %t", c.slots, c.from, c.to, got, found, want, c.found)
		}
		if !slices.Equal(x.Slots, c.slots) {
			t.Errorf("Moved changed the slots %v to %v", c.slots, x.Slots)
		}
	}
}

func TestMovedAtRandom(t *testing.T) {
	r := rand.New(rand.NewSource(7))
	found := 0
	for range 20000 {
		x := mixed(r, 1+r.Intn(mostBytes))
		for i := range x.Slots {
			x.Slots[i] %= 6
		}
		from, to, want := r.Intn(8)-1, r.Intn(8)-1, twin(x)
		has := slices.Contains(x.Slots, from)
		for i, s := range x.Slots {
			if s == from {
				want.Slots[i] = to
			}
		}
		kept := twin(x)
		got, ok := leaf.Moved(x, from, to)
		if ok != has || !equal(got, want) {
			t.Fatalf("Moved(%v, %d, %d) = %v, %t", kept, from, to, got, ok)
		}
		if !equal(x, kept) {
			t.Fatalf("Moved(%v, %d, %d) changed it to %v", kept, from, to, x)
		}
		if has {
			found++
		}
	}
	if found == 0 {
		t.Error("no slot was moved")
	}
}

func TestMovedIsIndependent(t *testing.T) {
	for _, from := range []int{4, 5} {
		x := example()
		y, _ := leaf.Moved(x, from, 1)
		z, _ := leaf.Moved(y, from, 1)
		first := z.Slots[0]
		x.Slots[1], y.Slots[1] = 9, 8
		_ = append(y.Slots, 7)
		if !slices.Equal(x.Slots, []int{4, 9}) || y.Slots[1] != 8 || !slices.Equal(z.Slots, []int{first, 2}) {
			t.Errorf("the slots became %v, %v, %v", x.Slots, y.Slots, z.Slots)
		}
	}
}

func TestArgumentsStay(t *testing.T) {
	for _, x := range append(invalid(), example()) {
		kept := twin(x)
		leaf.Check(x, 5)
		leaf.Put(x)
		leaf.Same(x, example())
		leaf.Moved(x, 4, 3)
		leaf.Copy(x)
		if !equal(x, kept) {
			t.Errorf("%v became %v", kept, x)
		}
	}
}

// Promise 14.4.

func TestDescriptorsAreDecoded(t *testing.T) {
	r := rand.New(rand.NewSource(8))
	for size := 1; size <= mostBytes; size++ {
		for range 3 {
			x := mixed(r, size)
			s, code := leaf.Put(x)
			if code != api.OK {
				t.Fatalf("Put(%v) = %d", x, code)
			}
			wantGet(t, s, mostSlots, x)
			wantGet(t, s, slices.Max(x.Slots)+1, x)
			wantBad(t, s, slices.Max(x.Slots), "a slot that the store does not have")
		}
	}
}

func TestDescriptorsAtTheLimits(t *testing.T) {
	var ones api.Address
	for i := range ones {
		ones[i] = 255
	}
	for _, size := range []int{1, 255, 256, 257, mostBytes - 1, mostBytes} {
		for _, bound := range []int{0, 1, mostUses} {
			for _, s := range []int{0, 1, mostSlots - 1} {
				for _, a := range []api.Address{{}, {1}, {31: 1}, ones} {
					x := api.Text{Addr: a, Size: size, Bound: bound, Slots: slices.Repeat([]int{s}, chunks(size))}
					got, code := leaf.Put(x)
					if code != api.OK {
						t.Fatalf("Put(%v) = %d", x, code)
					}
					wantGet(t, got, s+1, x)
				}
			}
		}
	}
}

func TestOtherDescriptorsHaveOtherSectors(t *testing.T) {
	r := rand.New(rand.NewSource(9))
	seen := map[api.Sector]api.Text{}
	for range 20000 {
		x := mixed(r, 1+r.Intn(600))
		x.Addr = api.Address{byte(r.Intn(3)), 31: byte(r.Intn(3))}
		x.Bound %= 3
		for i := range x.Slots {
			x.Slots[i] %= 3
		}
		s, code := leaf.Put(x)
		if code != api.OK {
			t.Fatalf("Put(%v) = %d", x, code)
		}
		if y, ok := seen[s]; ok && !equal(x, y) {
			t.Fatalf("%v and %v have the same sector", x, y)
		}
		seen[s] = x
	}
}

// A sector that Get accepts is the one that Put returns.
func TestGetAcceptsOnlyWhatPutReturns(t *testing.T) {
	r := rand.New(rand.NewSource(10))
	accepted := 0
	for range 50000 {
		x := mixed(r, 1+r.Intn(mostBytes))
		b := bytesOf(x)
		for range r.Intn(3) {
			b[r.Intn(len(b))] = byte(r.Intn(256))
		}
		if r.Intn(4) == 0 {
			b = b[:len(b)-1]
		}
		s, slots := seal(b), r.Intn(mostSlots+60)
		got, ok, code := leaf.Get(s, slots)
		if code != api.OK {
			if code != api.ErrBad || ok || !zero(got) {
				t.Fatalf("Get(%v, %d) = %v, %t, %d", s, slots, got, ok, code)
			}
			continue
		}
		accepted++
		again, code := leaf.Put(got)
		if !ok || code != api.OK || again != s || verdict(got, slots) != api.OK {
			t.Fatalf("Get(%v, %d) = %v, whose Put is %v, %d", s, slots, got, again, code)
		}
	}
	if accepted == 0 {
		t.Error("no sector was accepted")
	}
}
