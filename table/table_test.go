package table_test

import (
	"bytes"
	"math"
	"math/rand"
	"slices"
	"testing"

	"mortmain/api"
	"mortmain/digest"
	"mortmain/plan"
	"mortmain/table"
)

// Limits as the document gives them.
const (
	most     = 406
	lastSlot = 199
	maxCount = 1 << 40
)

// at returns an address whose first six bytes are a number, the highest byte first, followed by those bytes.
func at(number uint64, rest ...byte) api.Address {
	var a api.Address
	for i := range 6 {
		a[i] = byte(number >> (8 * (5 - i)))
	}
	copy(a[6:], rest)
	return a
}

// homeOf returns the home of an address among n places.
func homeOf(a api.Address, n int) int {
	number := 0
	for _, b := range a[:6] {
		number = 256*number + int(b)
	}
	return number % n
}

// byHome returns the entries with each home, in the order of their addresses.
func byHome(n int, l []api.Entry) [][]api.Entry {
	homes := make([][]api.Entry, n)
	for _, e := range l {
		h := homeOf(e.Addr, n)
		homes[h] = append(homes[h], e)
	}
	for _, of := range homes {
		slices.SortFunc(of, func(a, b api.Entry) int { return bytes.Compare(a.Addr[:], b.Addr[:]) })
	}
	return homes
}

// layout returns the places of the table of n places with those entries, and the largest distance.
// The entries are a queue that goes round the circle: at each place those with this home join it, and the first one stays there.
func layout(n int, l []api.Entry) (places []api.Entry, longest int) {
	type walker struct {
		e     api.Entry
		steps int
	}
	homes := byHome(n, l)
	var queue []walker
	// The first round only finds who comes past the last place.
	for range 2 {
		places, longest = make([]api.Entry, n), 0
		for i := range n {
			for _, e := range homes[i] {
				queue = append(queue, walker{e: e})
			}
			if len(queue) == 0 {
				continue
			}
			places[i], longest = queue[0].e, max(longest, queue[0].steps)
			queue = queue[1:]
			for j := range queue {
				queue[j].steps++
			}
		}
	}
	return places, longest
}

// newTable returns a table of n places with those entries.
func newTable(t *testing.T, n int, l ...api.Entry) *table.Table {
	t.Helper()
	x, code := table.New(n)
	if code != api.OK || x == nil {
		t.Fatalf("New(%d) = %v, %d", n, x, code)
	}
	for _, e := range l {
		if code := x.Put(e); code != api.OK {
			t.Fatalf("Put(%v) = %d", e, code)
		}
	}
	return x
}

// wantPlaces checks the contents of all places and their number.
func wantPlaces(t *testing.T, x *table.Table, want []api.Entry) {
	t.Helper()
	if got := x.Places(); !slices.Equal(got, want) {
		t.Fatalf("Places() = %v, want %v", got, want)
	}
	if x.Size() != len(want) {
		t.Fatalf("Size() = %d, want %d", x.Size(), len(want))
	}
}

// wantSlot checks what Slot returns for a table of those places.
func wantSlot(t *testing.T, x *table.Table, places []api.Entry, slot int) {
	t.Helper()
	i := slices.IndexFunc(places, func(e api.Entry) bool { return e.Count > 0 && e.Slot == slot })
	want := api.Entry{}
	if i >= 0 {
		want = places[i]
	}
	if e, ok := x.Slot(slot); ok != (i >= 0) || e != want {
		t.Fatalf("Slot(%d) = %v, %v, want %v of %v", slot, e, ok, want, places)
	}
}

// wantGet checks that Get returns an entry.
func wantGet(t *testing.T, x *table.Table, e api.Entry) {
	t.Helper()
	if got, ok := x.Get(e.Addr); !ok || got != e {
		t.Fatalf("Get(%v) = %v, %v, want %v", e.Addr, got, ok, e)
	}
}

// wantNone checks that Get finds no entry.
func wantNone(t *testing.T, x *table.Table, a api.Address) {
	t.Helper()
	if e, ok := x.Get(a); ok || e != (api.Entry{}) {
		t.Fatalf("Get(%v) = %v, %v, want none", a, e, ok)
	}
}

// wantTable checks all that is told of a table of n places with those entries.
func wantTable(t *testing.T, x *table.Table, n int, l []api.Entry) {
	t.Helper()
	places, longest := layout(n, l)
	wantPlaces(t, x, places)
	if x.Len() != len(l) {
		t.Fatalf("Len() = %d, want %d", x.Len(), len(l))
	}
	if x.Longest() != longest {
		t.Fatalf("Longest() = %d, want %d of %v", x.Longest(), longest, places)
	}
	for _, e := range l {
		wantGet(t, x, e)
		wantSlot(t, x, places, e.Slot)
	}
}

// wantOf checks that places are those of a table.
func wantOf(t *testing.T, l []api.Entry) {
	t.Helper()
	x, ok := table.Of(l)
	if !ok || x == nil {
		t.Fatalf("Of(%v) = %v, %v", l, x, ok)
	}
	wantPlaces(t, x, l)
}

// wantNotOf checks that places are those of no table.
func wantNotOf(t *testing.T, l []api.Entry, what string) {
	t.Helper()
	if x, ok := table.Of(l); ok || x != nil {
		t.Fatalf("%s: Of(%v) = %v, %v, want none", what, l, x, ok)
	}
}

// orders returns all orders of the numbers below n.
func orders(n int) [][]int {
	if n == 0 {
		return [][]int{nil}
	}
	var all [][]int
	for _, l := range orders(n - 1) {
		for i := range n {
			all = append(all, slices.Insert(slices.Clone(l), i, n-1))
		}
	}
	return all
}

// homesOf returns all lists of k homes among n places.
func homesOf(k, n int) [][]int {
	if k == 0 {
		return [][]int{nil}
	}
	var all [][]int
	for _, l := range homesOf(k-1, n) {
		for h := range n {
			all = append(all, append(slices.Clone(l), h))
		}
	}
	return all
}

// withHomes returns entries with those homes, of ascending addresses for each home.
func withHomes(homes []int) []api.Entry {
	l := make([]api.Entry, len(homes))
	for i, h := range homes {
		l[i] = api.Entry{Addr: at(uint64(h), byte(i)), Slot: i, Count: i + 1}
	}
	return l
}

// small calls f with all lists of up to n-1 entries, by their homes, for up to five places.
func small(f func(n int, l []api.Entry)) {
	for n := 1; n <= 5; n++ {
		for k := range n {
			for _, homes := range homesOf(k, n) {
				f(n, withHomes(homes))
			}
		}
	}
}

// inOrder returns the entries in that order.
func inOrder(l []api.Entry, order []int) []api.Entry {
	ordered := make([]api.Entry, len(order))
	for i, k := range order {
		ordered[i] = l[k]
	}
	return ordered
}

// without returns the entries but one.
func without(l []api.Entry, i int) []api.Entry {
	return slices.Delete(slices.Clone(l), i, i+1)
}

// mixed returns up to k random entries with different addresses, of which many have the same home among n places.
func mixed(r *rand.Rand, n, k int) []api.Entry {
	seen := map[api.Address]bool{}
	var l []api.Entry
	spread := 1 + r.Intn(n)
	for range k {
		number := uint64(r.Intn(spread) + n*r.Intn(3))
		a := at(number, byte(r.Intn(256)), byte(r.Intn(256)))
		if !seen[a] {
			seen[a] = true
			l = append(l, api.Entry{Addr: a, Slot: r.Intn(lastSlot + 1), Count: 1 + r.Intn(9)})
		}
	}
	return l
}

// full returns n-1 entries, as many as n places take.
func full(n int) []api.Entry {
	l := make([]api.Entry, n-1)
	for i := range l {
		l[i] = api.Entry{Addr: at(uint64(i/2), byte(i)), Slot: i % 200, Count: 1}
	}
	return l
}

// invalid returns entries with that address that no table has, all of which have a count.
func invalid(a api.Address) []api.Entry {
	var l []api.Entry
	for _, count := range []int{-1, -2, maxCount + 1, 1 << 41, math.MinInt, math.MaxInt} {
		l = append(l, api.Entry{Addr: a, Slot: 1, Count: count})
	}
	for _, slot := range []int{-1, -2, lastSlot + 1, 256, 1 << 16, 1 << 32, math.MinInt, math.MaxInt} {
		l = append(l, api.Entry{Addr: a, Slot: slot, Count: 1})
	}
	return l
}

// Promise 11.1.

func TestMaxEntries(t *testing.T) {
	if table.MaxEntries != most {
		t.Errorf("MaxEntries = %d, want %d", table.MaxEntries, most)
	}
}

func TestNewIsEmpty(t *testing.T) {
	for n := 1; n <= most; n++ {
		x := newTable(t, n)
		wantPlaces(t, x, make([]api.Entry, n))
		if x.Len() != 0 || x.Longest() != 0 {
			t.Errorf("%d empty places: Len() = %d, Longest() = %d", n, x.Len(), x.Longest())
		}
	}
}

func TestNewRejects(t *testing.T) {
	for _, n := range []int{0, -1, -406, most + 1, 512, 1 << 32, 1<<32 + 1, math.MinInt, math.MaxInt} {
		if x, code := table.New(n); code != api.ErrRange || x != nil {
			t.Errorf("New(%d) = %v, %d, want ErrRange", n, x, code)
		}
	}
}

func TestNewTablesAreIndependent(t *testing.T) {
	e := api.Entry{Addr: at(1), Slot: 2, Count: 3}
	a, b := newTable(t, 3), newTable(t, 3)
	a.Put(e)
	wantTable(t, a, 3, []api.Entry{e})
	wantTable(t, b, 3, nil)
}

func TestExample(t *testing.T) {
	l := []api.Entry{
		{Addr: at(5, 2), Slot: 1, Count: 1},
		{Addr: at(5, 1), Slot: 2, Count: 1},
		{Addr: at(6, 0), Slot: 3, Count: 1},
	}
	for _, order := range orders(len(l)) {
		x := newTable(t, 7, inOrder(l, order)...)
		wantPlaces(t, x, []api.Entry{l[2], {}, {}, {}, {}, l[1], l[0]})
		if x.Len() != 3 || x.Longest() != 1 {
			t.Errorf("Len() = %d, Longest() = %d, want 3, 1", x.Len(), x.Longest())
		}
	}
}

func TestTheNearerOneIsDisplaced(t *testing.T) {
	a := api.Entry{Addr: at(2, 9), Slot: 1, Count: 1}
	b := api.Entry{Addr: at(2, 8), Slot: 2, Count: 1}
	c := api.Entry{Addr: at(3, 0), Slot: 3, Count: 1}
	d := api.Entry{Addr: at(4, 0), Slot: 4, Count: 1}
	for _, order := range orders(4) {
		x := newTable(t, 8, inOrder([]api.Entry{a, b, c, d}, order)...)
		wantPlaces(t, x, []api.Entry{{}, {}, b, a, c, d, {}, {}})
	}
}

func TestOneEntryIsAtHome(t *testing.T) {
	for n := 2; n <= most; n++ {
		for _, number := range []uint64{0, 1, 255, 256, 65536, 1 << 24, 1 << 32, 1 << 40, 1<<47 + 12345, 1<<48 - 1} {
			e := api.Entry{Addr: at(number, 255, 255), Slot: 7, Count: 2}
			want := make([]api.Entry, n)
			want[number%uint64(n)] = e
			x := newTable(t, n, e)
			wantPlaces(t, x, want)
			if x.Longest() != 0 {
				t.Errorf("Longest() = %d with one entry", x.Longest())
			}
		}
	}
}

// All lists of homes for up to five places, put in all orders.
func TestAllOrdersGiveOneLayout(t *testing.T) {
	small(func(n int, l []api.Entry) {
		for _, order := range orders(len(l)) {
			wantTable(t, newTable(t, n, inOrder(l, order)...), n, l)
		}
	})
}

func TestLargeLayouts(t *testing.T) {
	r := rand.New(rand.NewSource(1))
	for n := 1; n <= most; n += 1 + n/50 {
		for _, k := range []int{n / 3, n - 1} {
			l := mixed(r, n, k)
			wantTable(t, newTable(t, n, l...), n, l)
			r.Shuffle(len(l), func(i, j int) { l[i], l[j] = l[j], l[i] })
			wantTable(t, newTable(t, n, l...), n, l)
		}
	}
}

func TestOfOneHomeTheLesserAddressIsFirst(t *testing.T) {
	const n = 5
	for i := range len(api.Address{}) {
		var a, b api.Entry
		// 0 precedes 255, which is a multiple of n: in the first six bytes it leaves the home as it is.
		a = api.Entry{Slot: 1, Count: 1}
		b = api.Entry{Slot: 2, Count: 1}
		b.Addr[i] = 255
		h := homeOf(a.Addr, n)
		if homeOf(b.Addr, n) != h {
			t.Fatalf("byte %d moves the home", i)
		}
		want := make([]api.Entry, n)
		want[h], want[h+1] = a, b
		wantPlaces(t, newTable(t, n, a, b), want)
		wantPlaces(t, newTable(t, n, b, a), want)
	}
}

// The address decides, from its first byte on: neither its last bytes nor its home's number.
func TestTheWholeAddressDecides(t *testing.T) {
	a := api.Entry{Addr: at(3, 255, 255), Slot: 1, Count: 1}
	b := api.Entry{Addr: at(10, 0), Slot: 2, Count: 1}
	c := api.Entry{Addr: at(3+7<<40, 0), Slot: 3, Count: 1}
	for _, order := range orders(3) {
		x := newTable(t, 7, inOrder([]api.Entry{a, b, c}, order)...)
		wantPlaces(t, x, []api.Entry{{}, {}, {}, a, b, c, {}})
	}
}

// Slots and counts play no part in the layout.
func TestOnlyAddressesDecide(t *testing.T) {
	a, b := at(1, 1), at(1, 2)
	for _, s := range [][2]int{{0, 199}, {199, 0}, {5, 5}} {
		for _, c := range [][2]int{{1, maxCount}, {maxCount, 1}, {4, 4}} {
			x := api.Entry{Addr: a, Slot: s[0], Count: c[0]}
			y := api.Entry{Addr: b, Slot: s[1], Count: c[1]}
			wantPlaces(t, newTable(t, 4, x, y), []api.Entry{{}, x, y, {}})
			wantPlaces(t, newTable(t, 4, y, x), []api.Entry{{}, x, y, {}})
		}
	}
}

func TestPlacesAreNewMemory(t *testing.T) {
	l := withHomes([]int{1, 1, 2})
	x := newTable(t, 5, l...)
	p := x.Places()
	for i := range p {
		p[i] = api.Entry{Slot: 9, Count: 9}
	}
	_ = append(p, api.Entry{Count: 1})
	wantTable(t, x, 5, l)
	q := x.Places()
	want := slices.Clone(q)
	x.Drop(l[0].Addr)
	x.Put(api.Entry{Addr: at(3, 7), Slot: 1, Count: 1})
	if !slices.Equal(q, want) {
		t.Errorf("the places that were returned became %v, want %v", q, want)
	}
}

func TestOfReadsPlaces(t *testing.T) {
	r := rand.New(rand.NewSource(2))
	for n := 1; n <= most; n += 1 + n/50 {
		for _, k := range []int{0, 1, n / 2, n - 1} {
			l := mixed(r, n, min(k, n-1))
			places, _ := layout(n, l)
			x, ok := table.Of(places)
			if !ok || x == nil {
				t.Fatalf("Of(%v) = %v, %v", places, x, ok)
			}
			wantTable(t, x, n, l)
		}
	}
}

// arranged calls f with all ways to put the entries into those of n places that are empty.
func arranged(n int, l []api.Entry, places []api.Entry, f func([]api.Entry)) {
	if len(l) == 0 {
		f(places)
		return
	}
	for i := range n {
		if places[i].Count == 0 {
			places[i] = l[0]
			arranged(n, l[1:], places, f)
			places[i] = api.Entry{}
		}
	}
}

// Of all arrangements of some entries, one is that of a table.
func TestOfAcceptsOneArrangement(t *testing.T) {
	small(func(n int, l []api.Entry) {
		want, _ := layout(n, l)
		arranged(n, l, make([]api.Entry, n), func(places []api.Entry) {
			if slices.Equal(places, want) {
				wantOf(t, places)
			} else {
				wantNotOf(t, places, "another arrangement")
			}
		})
	})
}

func TestOfRejectsSizes(t *testing.T) {
	wantNotOf(t, nil, "no places")
	wantNotOf(t, []api.Entry{}, "no places")
	wantOf(t, make([]api.Entry, 1))
	wantOf(t, make([]api.Entry, most))
	for _, n := range []int{most + 1, most + 2, 412, 5000} {
		wantNotOf(t, make([]api.Entry, n), "too many places")
	}
}

// One place must be empty.
func TestOfRejectsFullPlaces(t *testing.T) {
	for n := 1; n <= 20; n++ {
		places := make([]api.Entry, n)
		for i := range places {
			places[i] = api.Entry{Addr: at(uint64(i)), Slot: i, Count: 1}
		}
		wantNotOf(t, places, "all at home")
		places[n-1] = api.Entry{}
		wantOf(t, places)
	}
	for n := 1; n <= 4; n++ {
		for _, homes := range homesOf(n, n) {
			arranged(n, withHomes(homes), make([]api.Entry, n), func(places []api.Entry) {
				wantNotOf(t, places, "no empty place")
			})
		}
	}
}

func TestOfRejectsInvalidEntries(t *testing.T) {
	valid := api.Entry{Addr: at(1, 1), Slot: lastSlot, Count: maxCount}
	other := api.Entry{Addr: at(3), Slot: 0, Count: 1}
	wantOf(t, []api.Entry{{}, valid, {}, other})
	for _, e := range invalid(valid.Addr) {
		wantNotOf(t, []api.Entry{{}, e, {}, other}, "an invalid entry")
		wantNotOf(t, []api.Entry{{}, e}, "an invalid entry alone")
	}
}

// An empty place is the zero entry: nothing may be left in it.
func TestOfRejectsTracesInEmptyPlaces(t *testing.T) {
	e := api.Entry{Addr: at(1, 1), Slot: 3, Count: 1}
	traces := []api.Entry{{Slot: 1}, {Slot: -1}, {Addr: at(2), Slot: 1}, {Addr: e.Addr}, {Addr: at(0)}}
	for i := range len(api.Address{}) {
		var a api.Address
		a[i] = 1
		traces = append(traces, api.Entry{Addr: a})
	}
	for _, trace := range traces {
		if trace == (api.Entry{}) {
			continue
		}
		for _, i := range []int{0, 2, 3} {
			places := []api.Entry{{}, e, {}, {}}
			places[i] = trace
			wantNotOf(t, places, "a trace")
		}
		wantNotOf(t, []api.Entry{trace}, "a trace alone")
	}
}

func TestOfRejectsEqualAddresses(t *testing.T) {
	a := api.Entry{Addr: at(1, 1), Slot: 3, Count: 1}
	for _, b := range []api.Entry{a, {Addr: a.Addr, Slot: 4, Count: 1}, {Addr: a.Addr, Slot: 3, Count: 2}} {
		wantNotOf(t, []api.Entry{{}, a, b, {}}, "an address twice")
		wantNotOf(t, []api.Entry{{}, b, a, {}}, "an address twice")
		wantNotOf(t, []api.Entry{{}, a, {}, b}, "an address twice")
		wantNotOf(t, []api.Entry{b, a, {}, {}}, "an address twice")
	}
}

// An entry that is moved, exchanged or removed alone leaves no table, unless its going leaves no gap.
func TestOfRejectsChangedPlaces(t *testing.T) {
	r := rand.New(rand.NewSource(3))
	for range 300 {
		n := 2 + r.Intn(30)
		l := mixed(r, n, n-1)
		places, _ := layout(n, l)
		i, j := r.Intn(n), r.Intn(n)
		if places[i] != places[j] {
			swapped := slices.Clone(places)
			swapped[i], swapped[j] = swapped[j], swapped[i]
			wantNotOf(t, swapped, "two places exchanged")
		}
		gone := slices.Clone(places)
		gone[i] = api.Entry{}
		rest := slices.DeleteFunc(slices.Clone(gone), func(e api.Entry) bool { return e.Count == 0 })
		if want, _ := layout(n, rest); slices.Equal(gone, want) {
			wantOf(t, gone)
		} else {
			wantNotOf(t, gone, "a gap")
		}
	}
}

func TestOfKeepsItsArgument(t *testing.T) {
	l := withHomes([]int{1, 1, 3})
	places, _ := layout(5, l)
	behind := append(slices.Clone(places), api.Entry{Slot: 7, Count: 7}, api.Entry{Slot: 8})
	before := slices.Clone(behind)
	x, ok := table.Of(behind[:5])
	if !ok {
		t.Fatal("no table")
	}
	wantTable(t, x, 5, l)
	x.Drop(l[0].Addr)
	x.Put(api.Entry{Addr: at(2, 2), Slot: 1, Count: 1})
	_ = append(x.Places(), api.Entry{Count: 5})
	if !slices.Equal(behind, before) {
		t.Errorf("the argument became %v, want %v", behind, before)
	}
	x, _ = table.Of(behind[:5])
	clear(behind)
	wantTable(t, x, 5, l)
}

func TestCopyIsEqual(t *testing.T) {
	r := rand.New(rand.NewSource(4))
	for n := 1; n <= most; n += 1 + n/9 {
		l := mixed(r, n, n-1)
		wantTable(t, newTable(t, n, l...).Copy(), n, l)
	}
}

func TestCopyIsIndependent(t *testing.T) {
	l := withHomes([]int{2, 2, 0})
	more := api.Entry{Addr: at(2, 9), Slot: 9, Count: 9}
	other := api.Entry{Addr: l[1].Addr, Slot: 8, Count: 8}
	a := newTable(t, 6, l...)
	b := a.Copy()
	c := b.Copy()
	a.Drop(l[0].Addr)
	b.Put(more)
	b.Put(other)
	wantTable(t, a, 6, l[1:])
	wantTable(t, b, 6, []api.Entry{l[0], other, l[2], more})
	wantTable(t, c, 6, l)
}

func TestLongest(t *testing.T) {
	for n := 2; n <= most; n += 1 + n/5 {
		for _, home := range []int{0, n / 2, n - 1} {
			x := newTable(t, n)
			for i := range n - 1 {
				x.Put(api.Entry{Addr: at(uint64(home), byte(i/256), byte(i)), Slot: 1, Count: 1})
				if x.Longest() != i || x.Len() != i+1 {
					t.Fatalf("%d entries with home %d of %d: Longest() = %d, Len() = %d", i+1, home, n, x.Longest(), x.Len())
				}
			}
		}
	}
}

func TestLongestShrinks(t *testing.T) {
	l := withHomes([]int{4, 4, 4})
	x := newTable(t, 6, l...)
	for i, want := range []int{1, 0, 0} {
		x.Drop(l[i].Addr)
		if got := x.Longest(); got != want {
			t.Errorf("Longest() = %d, want %d", got, want)
		}
	}
}

// No function returns it, but a program can declare it.
func TestATableWithoutPlaces(t *testing.T) {
	x := new(table.Table)
	wantTable(t, x.Copy(), 0, nil)
	wantNone(t, x, at(1))
	wantSlot(t, x, nil, 0)
	if code := x.Put(api.Entry{Addr: at(1), Slot: 1, Count: 1}); code != api.ErrFull {
		t.Errorf("Put = %d, want ErrFull", code)
	}
	if code := x.Drop(at(1)); code != api.ErrNone {
		t.Errorf("Drop = %d, want ErrNone", code)
	}
}

// Promise 11.2.

func TestPutLimits(t *testing.T) {
	for _, count := range []int{1, 2, 255, 256, 1 << 32, maxCount - 1, maxCount} {
		for _, slot := range []int{0, 1, 127, 128, lastSlot - 1, lastSlot} {
			e := api.Entry{Addr: at(3, 3), Slot: slot, Count: count}
			wantTable(t, newTable(t, 2, e), 2, []api.Entry{e})
		}
	}
}

func TestPutRejects(t *testing.T) {
	l := withHomes([]int{1, 1, 0})
	bad := invalid(at(1, 9))
	// One that is there, one that finds the table full, and the zero address.
	for _, a := range []api.Address{l[0].Addr, at(3, 3), {}} {
		bad = append(bad, invalid(a)...)
		bad = append(bad, api.Entry{Addr: a}, api.Entry{Addr: a, Slot: 1}, api.Entry{Addr: a, Slot: -1}, api.Entry{Addr: a, Slot: 200})
	}
	for _, n := range []int{1, 4, 9} {
		kept := l[:min(n-1, len(l))]
		x := newTable(t, n, kept...)
		for _, e := range bad {
			if code := x.Put(e); code != api.ErrRange {
				t.Errorf("Put(%v) into %d places = %d, want ErrRange", e, n, code)
			}
		}
		wantTable(t, x, n, kept)
	}
}

func TestPutReplaces(t *testing.T) {
	small(func(n int, l []api.Entry) {
		x := newTable(t, n, l...)
		for i := range l {
			l[i].Slot, l[i].Count = 199-i, maxCount-i
			if code := x.Put(l[i]); code != api.OK {
				t.Fatalf("Put(%v) of one that is there = %d", l[i], code)
			}
			wantTable(t, x, n, l)
		}
	})
}

func TestPutAgain(t *testing.T) {
	e := api.Entry{Addr: at(1, 2), Slot: 3, Count: 4}
	x := newTable(t, 3, e, e, e)
	wantTable(t, x, 3, []api.Entry{e})
	e.Count = 1
	x.Put(e)
	wantTable(t, x, 3, []api.Entry{e})
}

func TestPutWhenFull(t *testing.T) {
	for n := 1; n <= most; n += 1 + n/4 {
		l := full(n)
		x := newTable(t, n, l...)
		for _, a := range []api.Address{at(0, 255, 1), at(uint64(n - 1)), at(1<<48 - 1)} {
			e := api.Entry{Addr: a, Slot: 1, Count: 1}
			if code := x.Put(e); code != api.ErrFull {
				t.Fatalf("Put(%v) into %d places with %d entries = %d, want ErrFull", e, n, len(l), code)
			}
		}
		wantTable(t, x, n, l)
		for i := range l {
			l[i].Count = 7
			if code := x.Put(l[i]); code != api.OK {
				t.Fatalf("Put of one that is there = %d in a full table", code)
			}
		}
		wantTable(t, x, n, l)
	}
}

func TestPutIntoOnePlace(t *testing.T) {
	x := newTable(t, 1)
	for _, a := range []api.Address{{}, at(1), at(1<<48 - 1)} {
		if code := x.Put(api.Entry{Addr: a, Slot: 0, Count: 1}); code != api.ErrFull {
			t.Errorf("Put into one place = %d, want ErrFull", code)
		}
		if code := x.Drop(a); code != api.ErrNone {
			t.Errorf("Drop from one place = %d, want ErrNone", code)
		}
		wantNone(t, x, a)
	}
	wantTable(t, x, 1, nil)
}

func TestPutAfterDrop(t *testing.T) {
	l := withHomes([]int{2, 2, 2})
	e := api.Entry{Addr: at(1, 5), Slot: 5, Count: 5}
	x := newTable(t, 4, l...)
	if code := x.Put(e); code != api.ErrFull {
		t.Fatalf("Put = %d, want ErrFull", code)
	}
	x.Drop(l[1].Addr)
	if code := x.Put(e); code != api.OK {
		t.Fatalf("Put = %d where a place became empty", code)
	}
	wantTable(t, x, 4, []api.Entry{l[0], l[2], e})
	if code := x.Put(l[1]); code != api.ErrFull {
		t.Fatalf("Put = %d, want ErrFull", code)
	}
}

func TestGetOfNoEntry(t *testing.T) {
	for n := 1; n <= most; n += 1 + n/3 {
		x := newTable(t, n)
		wantNone(t, x, api.Address{})
		wantNone(t, x, at(uint64(n-1)))
		x = newTable(t, n, full(n)...)
		for home := range n {
			// One behind and one ahead of all that have this home.
			wantNone(t, x, at(uint64(home), 255, 255))
			wantNone(t, x, at(uint64(home+n), 0))
		}
	}
}

func TestGetOfEveryNeighbour(t *testing.T) {
	a := api.Entry{Addr: at(1, 10), Slot: 1, Count: 1}
	b := api.Entry{Addr: at(1, 20), Slot: 2, Count: 1}
	c := api.Entry{Addr: at(2, 10), Slot: 3, Count: 1}
	x := newTable(t, 9, a, b, c)
	for home := range uint64(9) {
		for n := range 32 {
			addr := at(home, byte(n))
			if addr != a.Addr && addr != b.Addr && addr != c.Addr {
				wantNone(t, x, addr)
			}
		}
	}
	for i := range len(api.Address{}) {
		for _, e := range []api.Entry{a, b, c} {
			e.Addr[i] ^= 128
			wantNone(t, x, e.Addr)
		}
	}
}

// The zero address is one like others, though empty places hold it.
func TestTheZeroAddress(t *testing.T) {
	x := newTable(t, 3)
	wantNone(t, x, api.Address{})
	if code := x.Drop(api.Address{}); code != api.ErrNone {
		t.Errorf("Drop of the zero address = %d, want ErrNone", code)
	}
	e := api.Entry{Count: 1}
	x.Put(e)
	wantTable(t, x, 3, []api.Entry{e})
	wantOf(t, x.Places())
	if code := x.Drop(api.Address{}); code != api.OK {
		t.Errorf("Drop of the zero address = %d", code)
	}
	wantTable(t, x, 3, nil)
}

func TestSlotIsTheFirstPlace(t *testing.T) {
	a := api.Entry{Addr: at(1, 1), Slot: 5, Count: 1}
	b := api.Entry{Addr: at(3, 0), Slot: 5, Count: 2}
	c := api.Entry{Addr: at(3, 1), Slot: 0, Count: 3}
	// This one comes round to place 0, ahead of the others.
	d := api.Entry{Addr: at(5, 1), Slot: 0, Count: 4}
	e := api.Entry{Addr: at(5, 2), Slot: 5, Count: 5}
	for _, order := range orders(5) {
		x := newTable(t, 6, inOrder([]api.Entry{a, b, c, d, e}, order)...)
		places := []api.Entry{e, a, {}, b, c, d}
		wantPlaces(t, x, places)
		for slot := -1; slot <= 7; slot++ {
			wantSlot(t, x, places, slot)
		}
		x.Drop(e.Addr)
		wantSlot(t, x, []api.Entry{{}, a, {}, b, c, d}, 5)
	}
}

func TestSlotOfNoEntry(t *testing.T) {
	tables := []*table.Table{newTable(t, 1), newTable(t, most), newTable(t, 4, api.Entry{Addr: at(2), Slot: 9, Count: 1})}
	for _, x := range tables {
		for _, slot := range []int{0, 1, 8, 10, lastSlot, lastSlot + 1, -1, -9, 9 + 256, 9 + 1<<32, math.MinInt, math.MaxInt} {
			if e, ok := x.Slot(slot); ok || e != (api.Entry{}) {
				t.Errorf("Slot(%d) = %v, %v, want none", slot, e, ok)
			}
		}
	}
}

func TestAskingChangesNothing(t *testing.T) {
	l := withHomes([]int{1, 1, 4, 4})
	x := newTable(t, 5, l...)
	want := x.Places()
	x.Get(l[0].Addr)
	x.Get(at(3, 9))
	x.Slot(2)
	x.Slot(-1)
	x.Longest()
	x.Len()
	x.Copy()
	wantPlaces(t, x, want)
}

// Promise 11.3.

func TestDropEach(t *testing.T) {
	small(func(n int, l []api.Entry) {
		for i, e := range l {
			x := newTable(t, n, l...)
			if code := x.Drop(e.Addr); code != api.OK {
				t.Fatalf("Drop(%v) = %d", e.Addr, code)
			}
			wantTable(t, x, n, without(l, i))
			wantNone(t, x, e.Addr)
			if code := x.Drop(e.Addr); code != api.ErrNone {
				t.Fatalf("a second Drop(%v) = %d, want ErrNone", e.Addr, code)
			}
			x.Put(e)
			wantTable(t, x, n, l)
		}
	})
}

func TestDropAll(t *testing.T) {
	small(func(n int, l []api.Entry) {
		for _, order := range orders(len(l)) {
			x := newTable(t, n, l...)
			for k, i := range order {
				if code := x.Drop(l[i].Addr); code != api.OK {
					t.Fatalf("Drop(%v) = %d", l[i].Addr, code)
				}
				wantTable(t, x, n, inOrder(l, order[k+1:]))
			}
		}
	})
}

func TestDropNone(t *testing.T) {
	for n := 1; n <= most; n += 1 + n/3 {
		l := full(n)
		x := newTable(t, n, l...)
		for home := range n {
			for _, a := range []api.Address{at(uint64(home), 255, 255), at(uint64(home + n))} {
				if code := x.Drop(a); code != api.ErrNone {
					t.Fatalf("Drop(%v) = %d, want ErrNone", a, code)
				}
			}
		}
		wantTable(t, x, n, l)
		if code := newTable(t, n).Drop(at(0)); code != api.ErrNone {
			t.Fatalf("Drop from an empty table = %d, want ErrNone", code)
		}
	}
}

// Those at home stay there, and so do those behind them.
func TestDropMovesNoneThatAreAtHome(t *testing.T) {
	a := api.Entry{Addr: at(5, 0), Slot: 0, Count: 1}
	b := api.Entry{Addr: at(5, 1), Slot: 1, Count: 1}
	c := api.Entry{Addr: at(0, 0), Slot: 2, Count: 1}
	d := api.Entry{Addr: at(0, 1), Slot: 3, Count: 1}
	x := newTable(t, 7, a, b, c, d)
	wantPlaces(t, x, []api.Entry{c, d, {}, {}, {}, a, b})
	x.Drop(b.Addr)
	wantPlaces(t, x, []api.Entry{c, d, {}, {}, {}, a, {}})
	x.Drop(c.Addr)
	wantPlaces(t, x, []api.Entry{d, {}, {}, {}, {}, a, {}})
}

func TestDropMovesRoundTheCircle(t *testing.T) {
	l := withHomes([]int{4, 4, 4, 5})
	x := newTable(t, 6, l...)
	wantPlaces(t, x, []api.Entry{l[2], l[3], {}, {}, l[0], l[1]})
	x.Drop(l[0].Addr)
	wantPlaces(t, x, []api.Entry{l[3], {}, {}, {}, l[1], l[2]})
	x.Drop(l[2].Addr)
	wantPlaces(t, x, []api.Entry{{}, {}, {}, {}, l[1], l[3]})
}

func TestDropInLargeTables(t *testing.T) {
	r := rand.New(rand.NewSource(5))
	for n := 2; n <= most; n += 1 + n/6 {
		l := mixed(r, n, n-1)
		x := newTable(t, n, l...)
		for len(l) > 0 {
			i := r.Intn(len(l))
			if code := x.Drop(l[i].Addr); code != api.OK {
				t.Fatalf("Drop(%v) = %d", l[i].Addr, code)
			}
			l = without(l, i)
			if r.Intn(8) == 0 || len(l) < 5 {
				wantTable(t, x, n, l)
			}
		}
		wantPlaces(t, x, make([]api.Entry, n))
	}
}

// Promise 11.4.

// Two tables with the same entries are equal, whatever else each of them once had.
func TestRemovedEntriesLeaveNoTrace(t *testing.T) {
	r := rand.New(rand.NewSource(6))
	for range 200 {
		n := 2 + r.Intn(30)
		l := mixed(r, n, n-1)
		kept := l[:r.Intn(len(l)+1)]
		a := newTable(t, n, l...)
		for _, e := range l[len(kept):] {
			a.Drop(e.Addr)
		}
		b := newTable(t, n)
		for _, e := range kept {
			b.Put(api.Entry{Addr: e.Addr, Slot: 99, Count: 99})
		}
		for _, e := range slices.Backward(kept) {
			b.Put(e)
		}
		if !slices.Equal(a.Places(), b.Places()) {
			t.Fatalf("%v and %v have the same entries", a.Places(), b.Places())
		}
		wantTable(t, a, n, kept)
	}
}

// call makes one random call on the table and on the list of its entries, which it returns.
func call(t *testing.T, r *rand.Rand, x *table.Table, n int, l []api.Entry) []api.Entry {
	t.Helper()
	e := api.Entry{Addr: at(uint64(r.Intn(n)), byte(r.Intn(3))), Slot: r.Intn(200), Count: 1 + r.Intn(5)}
	i := slices.IndexFunc(l, func(o api.Entry) bool { return o.Addr == e.Addr })
	want := api.OK
	if r.Intn(3) == 0 {
		if i < 0 {
			want = api.ErrNone
		} else {
			l = without(l, i)
		}
		if code := x.Drop(e.Addr); code != want {
			t.Fatalf("Drop(%v) = %d, want %d", e.Addr, code, want)
		}
		return l
	}
	switch {
	case i >= 0:
		l[i] = e
	case len(l) == n-1:
		want = api.ErrFull
	default:
		l = append(l, e)
	}
	if code := x.Put(e); code != want {
		t.Fatalf("Put(%v) = %d, want %d", e, code, want)
	}
	return l
}

// All calls at random, held against a plain list of entries and its layout.
func TestRandomCalls(t *testing.T) {
	for seed := range int64(250) {
		r := rand.New(rand.NewSource(seed))
		n := 1 + r.Intn(most)>>r.Intn(9)
		x := newTable(t, n)
		var l []api.Entry
		for range 120 {
			l = call(t, r, x, n, l)
			if r.Intn(10) == 0 {
				wantTable(t, x, n, l)
				for slot := range 200 {
					wantSlot(t, x, x.Places(), slot)
				}
			}
			if r.Intn(20) == 0 {
				x = x.Copy()
			}
			if r.Intn(20) == 0 {
				y, ok := table.Of(x.Places())
				if !ok {
					t.Fatalf("Of(%v) of a table's places has none", x.Places())
				}
				x = y
			}
		}
		wantTable(t, x, n, l)
	}
}

// Addresses as they come, of digests.
func TestDigestsAsAddresses(t *testing.T) {
	var l []api.Entry
	for i := range plan.MaxSlots {
		l = append(l, api.Entry{Addr: digest.Of([]byte{byte(i)}), Slot: i, Count: 1})
	}
	x := newTable(t, most, l...)
	wantTable(t, x, most, l)
	wantOf(t, x.Places())
	for i := range l[:100] {
		x.Drop(l[i].Addr)
	}
	wantTable(t, x, most, l[100:])
}
