package shelf_test

import (
	"bytes"
	"hash/crc32"
	"math"
	"math/rand"
	"slices"
	"testing"

	"mortmain/api"
	"mortmain/shelf"
	"mortmain/table"
)

// Limits as the document gives them.
const (
	perSector  = 6
	most       = 406
	mostPlaces = 402
	lastSlot   = 199
	maxCount   = 1 << 40
)

// at returns an address whose first six bytes are a number, the highest byte first, followed by those bytes.
// In a table of n places its home is that number modulo n.
func at(number uint64, rest ...byte) api.Address {
	var a api.Address
	for i := range 6 {
		a[i] = byte(number >> (8 * (5 - i)))
	}
	copy(a[6:], rest)
	return a
}

// newTable returns a table of n places with those entries.
func newTable(t *testing.T, n int, l ...api.Entry) *table.Table {
	t.Helper()
	x, code := table.New(n)
	if code != api.OK {
		t.Fatalf("New(%d) = %d", n, code)
	}
	for _, e := range l {
		if code := x.Put(e); code != api.OK {
			t.Fatalf("Put(%v) = %d", e, code)
		}
	}
	return x
}

// mixed returns up to k random entries with different addresses, of which many have the same home among n places.
func mixed(r *rand.Rand, n, k int) []api.Entry {
	seen := map[api.Address]bool{}
	var l []api.Entry
	spread := 1 + r.Intn(n)
	for range k {
		a := at(uint64(r.Intn(spread) + n*r.Intn(1<<48/n)))
		for i := 6; i < len(a); i++ {
			a[i] = byte(r.Intn(256))
		}
		if !seen[a] {
			seen[a] = true
			l = append(l, api.Entry{Addr: a, Slot: r.Intn(lastSlot + 1), Count: 1 + r.Intn(1<<r.Intn(41))})
		}
	}
	return l
}

// full returns n-1 entries, as many as n places take.
func full(n int) []api.Entry {
	l := make([]api.Entry, n-1)
	for i := range l {
		l[i] = api.Entry{Addr: at(uint64(i/2), byte(i)), Slot: i % 200, Count: i + 1}
	}
	return l
}

// field is a place of a sector by its parts, of which any may be what no table has.
type field struct {
	count, slot uint64
	addr        api.Address
	spare       [2]byte
}

// bytes returns the 42 bytes of a place as the document describes them.
func (f field) bytes() []byte {
	b := []byte{byte(f.count), byte(f.count >> 8), byte(f.count >> 16), byte(f.count >> 24), byte(f.count >> 32), byte(f.count >> 40)}
	b = append(b, byte(f.slot), byte(f.slot>>8))
	b = append(b, f.addr[:]...)
	return append(b, f.spare[:]...)
}

// fieldOf returns the parts of an entry.
func fieldOf(e api.Entry) field {
	return field{count: uint64(e.Count), slot: uint64(e.Slot), addr: e.Addr}
}

// fieldsOf returns the parts of each entry.
func fieldsOf(l []api.Entry) []field {
	fields := make([]field, len(l))
	for i, e := range l {
		fields[i] = fieldOf(e)
	}
	return fields
}

// seal replaces the checksum of a sector by the right one.
func seal(x api.Sector) api.Sector {
	sum := crc32.ChecksumIEEE(x[:252])
	copy(x[252:], []byte{byte(sum), byte(sum >> 8), byte(sum >> 16), byte(sum >> 24)})
	return x
}

// raw returns the sealed sectors of places, be they those of a table or not; places that miss at the end are empty.
func raw(fields []field) []api.Sector {
	l := make([]api.Sector, (len(fields)+perSector-1)/perSector)
	for i, f := range fields {
		copy(l[i/perSector][i%perSector*42:], f.bytes())
	}
	for i := range l {
		l[i] = seal(l[i])
	}
	return l
}

// rawOf returns the sealed sectors of entries.
func rawOf(l []api.Entry) []api.Sector {
	return raw(fieldsOf(l))
}

// wantPut checks that a table is put as those sectors.
func wantPut(t *testing.T, x *table.Table, want []api.Sector) {
	t.Helper()
	l, code := shelf.Put(x)
	if code != api.OK || !slices.Equal(l, want) {
		t.Fatalf("Put of %d places = %v, %d, want %v", x.Size(), l, code, want)
	}
}

// wantGet checks that sectors are those of a table with those places.
func wantGet(t *testing.T, l []api.Sector, places []api.Entry) {
	t.Helper()
	x, code := shelf.Get(l)
	if code != api.OK || x == nil {
		t.Fatalf("Get of %d sectors = %v, %d, want %v", len(l), x, code, places)
	}
	if got := x.Places(); !slices.Equal(got, places) {
		t.Fatalf("Get of %d sectors has %v, want %v", len(l), got, places)
	}
}

// wantNone checks that Get returns a code and no table.
func wantNone(t *testing.T, l []api.Sector, want api.Code, what string) {
	t.Helper()
	if x, code := shelf.Get(l); code != want || x != nil {
		t.Fatalf("%s: Get of %d sectors = %v, %d, want nil, %d", what, len(l), x, code, want)
	}
}

// someTables calls f with the entries of tables of each number of places that fills sectors, from none to as many as there is room for.
func someTables(f func(n int, l []api.Entry)) {
	r := rand.New(rand.NewSource(1))
	for n := perSector; n <= mostPlaces; n += perSector {
		f(n, nil)
		f(n, mixed(r, n, 1))
		f(n, mixed(r, n, n/2))
		f(n, mixed(r, n, n-1))
		f(n, full(n))
	}
}

// Promise 12.1.

func TestTwelvePlacesAreTwoSectors(t *testing.T) {
	l, code := shelf.Put(newTable(t, 12))
	if code != api.OK || len(l) != 2 {
		t.Errorf("Put of twelve places = %v, %d", l, code)
	}
}

// The bytes of one entry, written out. Its address begins with 100, 101, .. 105, which is 9 modulo 12.
func TestPutWritesAnEntry(t *testing.T) {
	var a api.Address
	for i := range a {
		a[i] = byte(100 + i)
	}
	l, code := shelf.Put(newTable(t, 12, api.Entry{Addr: a, Slot: 197, Count: 0x0605040302}))
	if code != api.OK || len(l) != 2 {
		t.Fatalf("Put = %v, %d", l, code)
	}
	if l[0] != seal(api.Sector{}) {
		t.Errorf("the sector of empty places is %v", l[0])
	}
	// Place 9 is the fourth one of the second sector.
	want := append([]byte{2, 3, 4, 5, 6, 0, 197, 0}, a[:]...)
	want = append(want, 0, 0)
	if got := l[1][126:168]; !bytes.Equal(got, want) {
		t.Errorf("the entry is %v, want %v", got, want)
	}
	if !bytes.Equal(l[1][:126], make([]byte, 126)) || !bytes.Equal(l[1][168:252], make([]byte, 84)) {
		t.Errorf("there are bytes in empty places: %v", l[1])
	}
	sum := crc32.ChecksumIEEE(l[1][:252])
	if got := [4]byte(l[1][252:]); got != [4]byte{byte(sum), byte(sum >> 8), byte(sum >> 16), byte(sum >> 24)} {
		t.Errorf("the checksum is %x, want %x in little-endian order", got, sum)
	}
}

func TestPutWritesEachPlace(t *testing.T) {
	for place := range 18 {
		for _, e := range []api.Entry{{Slot: 0, Count: 1}, {Slot: 1, Count: 255}, {Slot: lastSlot, Count: 256}, {Slot: 128, Count: maxCount - 1}, {Slot: 2, Count: maxCount}} {
			e.Addr = at(uint64(place), 1, 2, 3)
			fields := make([]field, 18)
			fields[place] = fieldOf(e)
			wantPut(t, newTable(t, 18, e), raw(fields))
		}
	}
}

func TestPutWritesAllPlacesInOrder(t *testing.T) {
	someTables(func(n int, l []api.Entry) {
		x := newTable(t, n, l...)
		want := rawOf(x.Places())
		if len(want) != n/perSector {
			t.Fatalf("%d sectors for %d places", len(want), n)
		}
		wantPut(t, x, want)
	})
}

// wrongSizes returns the numbers of places that fill no whole sectors.
func wrongSizes() []int {
	var l []int
	for n := 1; n <= most; n++ {
		if n%perSector != 0 {
			l = append(l, n)
		}
	}
	return l
}

func TestPutRejects(t *testing.T) {
	if l, code := shelf.Put(nil); code != api.ErrArg || len(l) != 0 {
		t.Errorf("Put(nil) = %v, %d, want ErrArg", l, code)
	}
	for _, n := range wrongSizes() {
		for _, x := range []*table.Table{newTable(t, n), newTable(t, n, full(n)...)} {
			if l, code := shelf.Put(x); code != api.ErrArg || len(l) != 0 {
				t.Errorf("Put of %d places = %v, %d, want ErrArg", n, l, code)
			}
		}
	}
}

func TestPutKeepsTheTable(t *testing.T) {
	x := newTable(t, 24, mixed(rand.New(rand.NewSource(2)), 24, 20)...)
	places := x.Places()
	l, _ := shelf.Put(x)
	again, _ := shelf.Put(x)
	if !slices.Equal(l, again) {
		t.Error("a second Put differs")
	}
	if !slices.Equal(x.Places(), places) {
		t.Errorf("the table became %v", x.Places())
	}
}

func TestPutReturnsNewMemory(t *testing.T) {
	x := newTable(t, 12, full(12)...)
	want := rawOf(x.Places())
	l, _ := shelf.Put(x)
	l[0], l[1][3] = api.Sector{}, 7
	_ = append(l, api.Sector{1})
	wantPut(t, x, want)
	l, _ = shelf.Put(x)
	for range 3 {
		x.Drop(x.Places()[2].Addr)
	}
	if !slices.Equal(l, want) {
		t.Error("the sectors changed with the table")
	}
}

func TestChangesAreTheSectorsInOrder(t *testing.T) {
	froms := []int{0, 1, 5, 72, -1, -3, -100, 1 << 33, math.MinInt, math.MaxInt - 66}
	someTables(func(n int, l []api.Entry) {
		x := newTable(t, n, l...)
		sectors := rawOf(x.Places())
		for _, from := range froms {
			changes, code := shelf.Changes(x, from)
			if code != api.OK || len(changes) != len(sectors) {
				t.Fatalf("Changes of %d places from %d = %d changes, %d", n, from, len(changes), code)
			}
			for i, c := range changes {
				if want := (api.Change{At: from + i, S: sectors[i]}); c != want {
					t.Fatalf("change %d from %d is %v, want %v", i, from, c, want)
				}
			}
		}
	})
}

func TestChangesRejects(t *testing.T) {
	for _, from := range []int{0, 5, -1, math.MinInt, math.MaxInt} {
		if l, code := shelf.Changes(nil, from); code != api.ErrArg || len(l) != 0 {
			t.Errorf("Changes(nil, %d) = %v, %d, want ErrArg", from, l, code)
		}
		for _, n := range wrongSizes() {
			if l, code := shelf.Changes(newTable(t, n, full(n)...), from); code != api.ErrArg || len(l) != 0 {
				t.Errorf("Changes of %d places from %d = %v, %d, want ErrArg", n, from, l, code)
			}
		}
	}
}

func TestChangesKeepTheTable(t *testing.T) {
	x := newTable(t, 12, full(12)...)
	places := x.Places()
	a, _ := shelf.Changes(x, 5)
	b, _ := shelf.Changes(x, 5)
	a[0] = api.Change{At: 9}
	_ = append(a[:1], api.Change{At: 8})
	if b[0].At != 5 || b[1].At != 6 || b[0].S != rawOf(places)[0] {
		t.Errorf("the second result became %v", b)
	}
	if !slices.Equal(x.Places(), places) {
		t.Errorf("the table became %v", x.Places())
	}
}

// Promise 12.2.

func TestGetReadsEachTable(t *testing.T) {
	someTables(func(n int, l []api.Entry) {
		places := newTable(t, n, l...).Places()
		wantGet(t, rawOf(places), places)
	})
}

func TestGetReadsTheLimits(t *testing.T) {
	for place := range 12 {
		for _, slot := range []int{0, 1, 128, lastSlot} {
			for _, count := range []int{1, 255, 256, 1<<32 - 1, 1 << 32, maxCount - 1, maxCount} {
				places := make([]api.Entry, 12)
				places[place] = api.Entry{Addr: at(uint64(place), 9), Slot: slot, Count: count}
				wantGet(t, rawOf(places), places)
			}
		}
	}
}

func TestGetReadsTheAddressOfZeros(t *testing.T) {
	places := make([]api.Entry, 6)
	places[0] = api.Entry{Count: 1}
	wantGet(t, rawOf(places), places)
	wantGet(t, rawOf(make([]api.Entry, 6)), make([]api.Entry, 6))
}

func TestGetRejectsNumbers(t *testing.T) {
	wantNone(t, nil, api.ErrRange, "nil")
	wantNone(t, []api.Sector{}, api.ErrRange, "empty")
	for _, n := range []int{68, 69, 100, 134, 256, 300} {
		wantNone(t, slices.Repeat([]api.Sector{seal(api.Sector{})}, n), api.ErrRange, "empty places")
		// That there are too many comes ahead of what they hold.
		wantNone(t, make([]api.Sector, n), api.ErrRange, "zeros")
	}
	wantGet(t, slices.Repeat([]api.Sector{seal(api.Sector{})}, 67), make([]api.Entry, 402))
	wantNone(t, make([]api.Sector, 67), api.ErrBad, "zeros")
}

func TestGetRejectsOtherSectors(t *testing.T) {
	good := rawOf(newTable(t, 12, full(12)...).Places())
	var ones api.Sector
	for i := range ones {
		ones[i] = 255
	}
	for i, x := range good {
		unsealed, turned := x, x
		clear(unsealed[252:])
		slices.Reverse(turned[252:])
		for what, y := range map[string]api.Sector{
			"zeros": {}, "one byte": {1}, "ones": ones, "sealed ones": seal(ones),
			"no checksum": unsealed, "the checksum with the highest byte first": turned,
			"the checksum of the other sector": api.Sector(append(slices.Clone(x[:252]), good[1-i][252:]...)),
		} {
			l := slices.Clone(good)
			l[i] = y
			wantNone(t, l, api.ErrBad, what)
		}
	}
}

func TestGetRejectsEveryChangedBit(t *testing.T) {
	for _, x := range []*table.Table{newTable(t, 6), newTable(t, 12, full(12)...), newTable(t, 18, mixed(rand.New(rand.NewSource(3)), 18, 6)...)} {
		good := rawOf(x.Places())
		for i := range good {
			for bit := range 8 * 256 {
				l := slices.Clone(good)
				l[i][bit/8] ^= 1 << (bit % 8)
				wantNone(t, l, api.ErrBad, "a changed bit")
			}
		}
	}
}

// Sealed sectors with one place that no table has.
func TestGetRejectsWhatIsNoEntry(t *testing.T) {
	for place := range 12 {
		a := at(uint64(place), 9)
		for what, f := range map[string]field{
			"a slot without count":       {slot: 1},
			"a high slot without count":  {slot: 1 << 8},
			"an address without count":   {addr: a},
			"an entry without count":     {slot: 3, addr: a},
			"the last byte of no entry":  {addr: api.Address{31: 1}},
			"a first spare byte alone":   {spare: [2]byte{1, 0}},
			"a second spare byte alone":  {spare: [2]byte{0, 1}},
			"a first spare byte":         {count: 1, slot: 3, addr: a, spare: [2]byte{1, 0}},
			"a second spare byte":        {count: 1, slot: 3, addr: a, spare: [2]byte{0, 128}},
			"the count behind the last":  {count: maxCount + 1, slot: 3, addr: a},
			"a count of 2^41":            {count: 1 << 41, slot: 3, addr: a},
			"the greatest count":         {count: 1<<48 - 1, slot: 3, addr: a},
			"a count in its last bit":    {count: 1 << 47, slot: 3, addr: a},
			"the slot behind the last":   {count: 1, slot: lastSlot + 1, addr: a},
			"slot 255":                   {count: 1, slot: 255, addr: a},
			"slot 0 in its lowest byte":  {count: 1, slot: 256, addr: a},
			"slot 5 in its lowest byte":  {count: 1, slot: 256 + 5, addr: a},
			"a slot in its last bit":     {count: 1, slot: 1 << 15, addr: a},
			"the greatest slot":          {count: 1, slot: 1<<16 - 1, addr: a},
			"a count and slot too great": {count: 1 << 47, slot: 1 << 15, addr: a},
		} {
			fields := make([]field, 12)
			fields[place] = f
			wantNone(t, raw(fields), api.ErrBad, what)
		}
	}
}

func TestGetRejectsOtherLayouts(t *testing.T) {
	e := func(home uint64, rest byte) api.Entry {
		return api.Entry{Addr: at(home, rest), Slot: int(rest), Count: 1}
	}
	none := api.Entry{}
	wantGet(t, rawOf([]api.Entry{e(0, 1), e(0, 2), none, none, none, e(5, 1)}), []api.Entry{e(0, 1), e(0, 2), none, none, none, e(5, 1)})
	wantGet(t, rawOf([]api.Entry{e(5, 2), e(0, 1), none, none, none, e(5, 1)}), []api.Entry{e(5, 2), e(0, 1), none, none, none, e(5, 1)})
	for what, l := range map[string][]api.Entry{
		"an entry behind its home":          {none, e(0, 1)},
		"an entry before its home":          {e(1, 1)},
		"a gap":                             {e(0, 1), none, e(0, 2)},
		"greater addresses first":           {e(0, 2), e(0, 1)},
		"the farther one yields":            {e(0, 1), e(5, 2), none, none, none, e(5, 1)},
		"an address twice":                  {e(0, 1), e(0, 1)},
		"an address twice, another slot":    {e(0, 1), {Addr: at(0, 1), Slot: 2, Count: 1}},
		"an address twice, another count":   {e(0, 1), {Addr: at(0, 1), Slot: 1, Count: 2}},
		"an address twice, away from it":    {e(0, 1), none, e(0, 1)},
		"no empty place":                    {e(0, 1), e(1, 1), e(2, 1), e(3, 1), e(4, 1), e(5, 1)},
		"no empty place, of the same home":  {e(0, 1), e(0, 2), e(0, 3), e(0, 4), e(0, 5), e(0, 6)},
		"an entry not brought round":        {none, none, none, none, e(5, 2), e(5, 1)},
		"an entry that a removal left back": {none, e(0, 2), none, none, none, none},
	} {
		wantNone(t, rawOf(append(l, make([]api.Entry, 6-len(l))...)), api.ErrBad, what)
	}
}

// No table of any number of places has an entry in every place.
func TestGetRejectsFullTables(t *testing.T) {
	for n := perSector; n <= mostPlaces; n += perSector {
		l := make([]api.Entry, n)
		for i := range l {
			l[i] = api.Entry{Addr: at(uint64(i)), Slot: i % 200, Count: 1}
		}
		wantNone(t, rawOf(l), api.ErrBad, "no empty place")
		l[n-1] = api.Entry{}
		wantGet(t, rawOf(l), l)
	}
}

func TestGetRejectsSectorsInAnotherOrder(t *testing.T) {
	places := newTable(t, 24, mixed(rand.New(rand.NewSource(4)), 24, 20)...).Places()
	good := rawOf(places)
	wantGet(t, good, places)
	for i := range good {
		for j := range i {
			l := slices.Clone(good)
			l[i], l[j] = l[j], l[i]
			wantNone(t, l, api.ErrBad, "exchanged sectors")
			l = slices.Clone(good)
			l[i] = l[j]
			wantNone(t, l, api.ErrBad, "a sector twice")
		}
		wantNone(t, slices.Delete(slices.Clone(good), i, i+1), api.ErrBad, "a sector less")
		wantNone(t, slices.Insert(slices.Clone(good), i, seal(api.Sector{})), api.ErrBad, "an empty sector more")
	}
}

func TestGetReadsUpToTheLengthOnly(t *testing.T) {
	places := newTable(t, 12, full(12)...).Places()
	l := append(rawOf(places), api.Sector{1}, api.Sector{2})
	wantGet(t, l[:2], places)
	if l[2] != (api.Sector{1}) || l[3] != (api.Sector{2}) {
		t.Error("Get wrote behind the length")
	}
}

func TestGetKeepsTheSectors(t *testing.T) {
	places := newTable(t, 12, full(12)...).Places()
	l := rawOf(places)
	x, _ := shelf.Get(l)
	y, _ := shelf.Get(l)
	if !slices.Equal(l, rawOf(places)) {
		t.Error("Get changed the sectors")
	}
	l[0], l[1] = api.Sector{}, api.Sector{1}
	x.Drop(places[3].Addr)
	x.Put(api.Entry{Addr: at(3, 77), Slot: 1, Count: 1})
	if !slices.Equal(y.Places(), places) {
		t.Errorf("the second table became %v", y.Places())
	}
	if x.Len() != 11 || slices.Equal(x.Places(), places) {
		t.Errorf("the first table became %v", x.Places())
	}
}

// Whatever is accepted is what Put returns: each table has one encoding (P7).
func TestGetAcceptsOnlyWhatPutReturns(t *testing.T) {
	r := rand.New(rand.NewSource(5))
	accepted := 0
	for range 20000 {
		fields := make([]field, 6*(1+r.Intn(2)))
		for range r.Intn(4) {
			i := r.Intn(len(fields))
			fields[i] = field{
				count: uint64(r.Intn(3)), slot: uint64(r.Intn(3) * r.Intn(101)), addr: at(uint64((i+r.Intn(3)*r.Intn(12))%len(fields)), byte(r.Intn(2))),
				spare: [2]byte{byte(r.Intn(9) / 8), byte(r.Intn(9) / 8)},
			}
		}
		l := raw(fields)
		x, code := shelf.Get(l)
		if code == api.OK {
			accepted++
			wantPut(t, x, l)
			if !slices.Equal(fieldsOf(x.Places()), fields) {
				t.Fatalf("Get of %v has %v", fields, x.Places())
			}
		} else if code != api.ErrBad || x != nil {
			t.Fatalf("Get of %v = %v, %d", fields, x, code)
		} else if _, ok := table.Of(places(fields)); ok && !spared(fields) {
			t.Fatalf("Get rejects %v", fields)
		}
	}
	if accepted == 0 || accepted == 20000 {
		t.Errorf("%d of 20000 were accepted", accepted)
	}
}

// places returns the entries of fields.
func places(fields []field) []api.Entry {
	l := make([]api.Entry, len(fields))
	for i, f := range fields {
		l[i] = api.Entry{Addr: f.addr, Slot: int(f.slot), Count: int(f.count)}
	}
	return l
}

// spared reports whether a field has a spare byte that is not zero.
func spared(fields []field) bool {
	return slices.ContainsFunc(fields, func(f field) bool { return f.spare != [2]byte{} })
}

// Promise 12.3.

func TestTablesAreReadBack(t *testing.T) {
	someTables(func(n int, l []api.Entry) {
		x := newTable(t, n, l...)
		sectors, code := shelf.Put(x)
		if code != api.OK {
			t.Fatalf("Put of %d places = %d", n, code)
		}
		wantGet(t, sectors, x.Places())
		changes, code := shelf.Changes(x, 5)
		if code != api.OK || len(changes) != len(sectors) {
			t.Fatalf("Changes of %d places = %d changes, %d", n, len(changes), code)
		}
		read := make([]api.Sector, len(changes))
		for _, c := range changes {
			read[c.At-5] = c.S
		}
		wantGet(t, read, x.Places())
	})
}

// A table that was read finds and changes its entries like the one that was put.
func TestTablesGoOnAfterReading(t *testing.T) {
	for seed := range int64(200) {
		r := rand.New(rand.NewSource(seed))
		n := perSector * (1 + r.Intn(12))
		l := mixed(r, n, n-1)
		x := newTable(t, n, l...)
		sectors, _ := shelf.Put(x)
		y, code := shelf.Get(sectors)
		if code != api.OK {
			t.Fatalf("Get = %d", code)
		}
		for _, e := range l {
			if got, ok := y.Get(e.Addr); !ok || got != e {
				t.Fatalf("the table that was read has %v, %v, want %v", got, ok, e)
			}
			a, _ := x.Slot(e.Slot)
			if b, ok := y.Slot(e.Slot); !ok || a != b {
				t.Fatalf("Slot(%d) = %v, %v, want %v", e.Slot, b, ok, a)
			}
		}
		for _, e := range l[:len(l)/2] {
			x.Drop(e.Addr)
			y.Drop(e.Addr)
		}
		if !slices.Equal(x.Places(), y.Places()) {
			t.Fatalf("the tables became %v and %v", x.Places(), y.Places())
		}
	}
}

func TestRemovedEntriesLeaveNoByte(t *testing.T) {
	for seed := range int64(300) {
		r := rand.New(rand.NewSource(seed))
		n := perSector * (1 + r.Intn(12))
		l := mixed(r, n, n-1)
		keep := r.Intn(len(l) + 1)
		want, _ := shelf.Put(newTable(t, n, l[:keep]...))
		x := newTable(t, n, l...)
		for _, i := range r.Perm(len(l)) {
			if i >= keep {
				x.Drop(l[i].Addr)
			}
		}
		wantPut(t, x, want)
	}
}

func TestRemovedAddressesAreGone(t *testing.T) {
	l := mixed(rand.New(rand.NewSource(6)), 36, 35)
	x := newTable(t, 36, l...)
	for len(l) > 0 {
		gone := l[0]
		l = l[1:]
		x.Drop(gone.Addr)
		sectors, _ := shelf.Put(x)
		for _, s := range sectors {
			if bytes.Contains(s[:], gone.Addr[6:]) {
				t.Fatalf("the address %v is still there", gone.Addr)
			}
		}
		wantPut(t, x, rawOf(x.Places()))
	}
	wantPut(t, x, slices.Repeat([]api.Sector{seal(api.Sector{})}, 6))
}
