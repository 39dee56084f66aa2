package class_test

import (
	"hash/crc32"
	"math"
	"math/rand"
	"slices"
	"strconv"
	"strings"
	"testing"

	"mortmain/api"
	"mortmain/class"
)

// Limits as the document gives them.
const (
	mostName    = 15
	mostClasses = 8
	mostPeriod  = 1 << 40
)

// letters are the bytes that may be in a name.
const letters = "abcdefghijklmnopqrstuvwxyz0123456789-"

// badNames returns strings that are no names.
func badNames() []string {
	return []string{
		"", "Tax", "tAx", "taX", "TAX", " tax", "tax ", "t ax", "tax\n", "tax\x00", "\x00", "t\x00x", "tax_1", "tax.", "a/b", "a:b",
		"`", "{", "@", "[", "/", ":", ",", ".", "é", "taxé", "ａ", "\u0661", "\x80", "a\xff", "\u2010", "\u212a", "\xe1", "\xb0",
		strings.Repeat("a", 16), strings.Repeat("a", 17), strings.Repeat("a", 255), strings.Repeat("a", 256), strings.Repeat("a", 257),
		strings.Repeat("a", 271), strings.Repeat("a", 1<<16+1), strings.Repeat("-", 16), strings.Repeat("9", 16), "aaaaaaaaaaaaaa\x00", "aaaaaaaaaaaaaaa\x00",
	}
}

// goodNames returns names at the limits.
func goodNames() []string {
	l := []string{"tax", "court", "a-b", "-", "--", "-a", "a-", "0", "9", "10", "a0", "0a", "z", "abcdefghijklmno", "pqrstuvwxyz0123", "456789-", "---------------"}
	for n := 1; n <= mostName; n++ {
		l = append(l, strings.Repeat("z", n))
	}
	return l
}

// goodPeriods returns periods at the limits, and such as have each byte of six alone.
func goodPeriods() []int {
	return []int{0, 1, 2, 10, 255, 256, 257, 65535, 65536, 1<<24 - 1, 1 << 24, 1<<31 - 1, 1 << 31, 1<<32 - 1, 1 << 32, 1<<32 + 1, 1<<40 - 1, 1 << 40}
}

// badPeriods returns numbers that are no periods, some of which are one in their lowest bytes.
func badPeriods() []int {
	return []int{-1, -2, -10, -1 << 32, -1 << 40, math.MinInt, math.MinInt + 1, 1<<40 + 1, 1<<40 + 2, 1 << 41, 1<<47 + 10, 1<<48 - 1, 1 << 48, 1<<48 + 12, 1 << 62, math.MaxInt - 1, math.MaxInt}
}

// named reports whether s is a name.
func named(s string) bool {
	for _, x := range []byte(s) {
		if strings.IndexByte(letters, x) < 0 {
			return false
		}
	}
	return s != "" && len(s) <= mostName
}

// verdict returns what 15.1 says of a class.
func verdict(c api.Class) api.Code {
	if !named(c.Name) {
		return api.ErrName
	}
	if c.Period < 0 || c.Period > mostPeriod {
		return api.ErrRange
	}
	return api.OK
}

// place returns where the class of a name is in l, or -1.
func place(l []api.Class, name string) int {
	for i, c := range l {
		if c.Name == name {
			return i
		}
	}
	return -1
}

// added returns what 15.2 says of adding c to l, and l after it.
func added(l []api.Class, c api.Class) ([]api.Class, api.Code) {
	if code := verdict(c); code != api.OK {
		return l, code
	}
	if place(l, c.Name) >= 0 {
		return l, api.ErrTwice
	}
	if len(l) >= mostClasses {
		return l, api.ErrLimit
	}
	return append(slices.Clone(l), c), api.OK
}

// longer returns what 15.3 says of a period for a class of l, and l after it.
func longer(l []api.Class, name string, period int) ([]api.Class, api.Code) {
	i := place(l, name)
	if i < 0 {
		return l, api.ErrNone
	}
	if period < 0 || period > mostPeriod {
		return l, api.ErrRange
	}
	if period < l[i].Period {
		return l, api.ErrKept
	}
	l = slices.Clone(l)
	l[i].Period = period
	return l, api.OK
}

// seal returns the sector of b, zero bytes and the checksum of both.
func seal(b []byte) api.Sector {
	var x api.Sector
	if copy(x[:252], b) < len(b) {
		panic("these bytes do not leave room for a checksum")
	}
	sum := crc32.ChecksumIEEE(x[:252])
	x[252], x[253], x[254], x[255] = byte(sum), byte(sum>>8), byte(sum>>16), byte(sum>>24)
	return x
}

// bytesOf returns the bytes that 15.4 words for classes, valid or not, without what seals them.
func bytesOf(l []api.Class) []byte {
	b := []byte{byte(len(l))}
	for _, c := range l {
		b = append(b, byte(len(c.Name)))
		for i := range 15 {
			if i < len(c.Name) {
				b = append(b, c.Name[i])
			} else {
				b = append(b, 0)
			}
		}
		rest := c.Period
		for range 6 {
			b = append(b, byte(rest%256))
			rest /= 256
		}
		switch {
		case c.Event && c.Privileged:
			b = append(b, 3)
		case c.Privileged:
			b = append(b, 2)
		case c.Event:
			b = append(b, 1)
		default:
			b = append(b, 0)
		}
	}
	return b
}

// raw returns the sector of classes, valid or not.
func raw(l []api.Class) api.Sector {
	return seal(bytesOf(l))
}

// setOf returns a set of those classes.
func setOf(t *testing.T, l []api.Class) *class.Set {
	t.Helper()
	s := class.New()
	for _, c := range l {
		if code := s.Add(c); code != api.OK {
			t.Fatalf("Add(%v) = %d", c, code)
		}
	}
	return s
}

// wantSet checks all that is told of a set.
func wantSet(t *testing.T, s *class.Set, want []api.Class) {
	t.Helper()
	if s == nil {
		t.Fatalf("no set, want %v", want)
	}
	if s.Len() != len(want) {
		t.Fatalf("Len() = %d, want %d", s.Len(), len(want))
	}
	if got := s.All(); !slices.Equal(got, want) {
		t.Fatalf("All() = %v, want %v", got, want)
	}
	for i, c := range want {
		if got, ok := s.Get(i); !ok || got != c {
			t.Fatalf("Get(%d) = %v, %t, want %v", i, got, ok, c)
		}
		if got, ok := s.Find(c.Name); !ok || got != i {
			t.Fatalf("Find(%q) = %d, %t, want %d", c.Name, got, ok, i)
		}
	}
	if got := s.Put(); got != raw(want) {
		t.Fatalf("Put() of %v = %v, want %v", want, got, raw(want))
	}
}

// wantRead checks that a sector is read as those classes.
func wantRead(t *testing.T, x api.Sector, want []api.Class) *class.Set {
	t.Helper()
	s, code := class.Read(x)
	if code != api.OK {
		t.Fatalf("Read of the sector of %v = %d", want, code)
	}
	wantSet(t, s, want)
	return s
}

// wantBad checks that a sector is read as no set.
func wantBad(t *testing.T, x api.Sector, why string) {
	t.Helper()
	if s, code := class.Read(x); code != api.ErrBad || s != nil {
		t.Fatalf("Read with %s = %v, %d, want nil, %d", why, s, code, api.ErrBad)
	}
}

// some returns n valid classes that differ in all fields.
func some(n int) []api.Class {
	l := []api.Class{
		{Name: "tax", Period: 10, Event: true},
		{Name: "a", Period: 0},
		{Name: "court-2026-long", Period: mostPeriod, Privileged: true},
		{Name: "-", Period: 256, Event: true, Privileged: true},
		{Name: "b", Period: 0x060504030201 & (mostPeriod - 1)},
		{Name: "ta", Period: 10, Privileged: true},
		{Name: "taxx", Period: 1<<32 - 1, Event: true},
		{Name: "000000000000000", Period: 1},
	}
	return l[:n:n]
}

// another returns a valid class that none of some has.
func another() api.Class {
	return api.Class{Name: "another", Period: 7, Event: true}
}

// mixed returns n valid classes without a pattern.
func mixed(r *rand.Rand, n int) []api.Class {
	var l []api.Class
	for len(l) < n {
		b := make([]byte, 1+r.Intn(mostName))
		for i := range b {
			b[i] = letters[r.Intn(len(letters))]
		}
		period := r.Intn(1 << (1 + r.Intn(40)))
		l, _ = added(l, api.Class{Name: string(b), Period: period, Event: r.Intn(2) == 0, Privileged: r.Intn(2) == 0})
	}
	return l
}

// Promise 15.1.

func TestNameOfOneByte(t *testing.T) {
	for x := range 256 {
		want := api.ErrName
		if strings.IndexByte(letters, byte(x)) >= 0 {
			want = api.OK
		}
		if code := class.Name(string([]byte{byte(x)})); code != want {
			t.Errorf("Name of byte %d = %d, want %d", x, code, want)
		}
	}
}

func TestNameEachByteAtEachPlace(t *testing.T) {
	for n := 1; n <= mostName+1; n++ {
		for at := range n {
			for x := range 256 {
				b := []byte(strings.Repeat("k", n))
				b[at] = byte(x)
				want := api.ErrName
				if named(string(b)) {
					want = api.OK
				}
				if code := class.Name(string(b)); code != want {
					t.Fatalf("Name(%q) = %d, want %d", b, code, want)
				}
			}
		}
	}
}

func TestNameOfEachLength(t *testing.T) {
	for n := range 600 {
		want := api.OK
		if n == 0 || n > 15 {
			want = api.ErrName
		}
		for _, x := range []string{"a", "z", "0", "9", "-"} {
			if code := class.Name(strings.Repeat(x, n)); code != want {
				t.Fatalf("Name of %d times %q = %d, want %d", n, x, code, want)
			}
		}
	}
}

func TestNameExamples(t *testing.T) {
	for _, s := range goodNames() {
		if code := class.Name(s); code != api.OK {
			t.Errorf("Name(%q) = %d, want %d", s, code, api.OK)
		}
	}
	for _, s := range badNames() {
		if code := class.Name(s); code != api.ErrName {
			t.Errorf("Name(%q) = %d, want %d", s, code, api.ErrName)
		}
	}
}

func TestCheckNamesAndPeriods(t *testing.T) {
	for _, name := range append(goodNames(), badNames()...) {
		for _, period := range append(goodPeriods(), badPeriods()...) {
			for flags := range 4 {
				c := api.Class{Name: name, Period: period, Event: flags&1 != 0, Privileged: flags&2 != 0}
				if code := class.Check(c); code != verdict(c) {
					t.Fatalf("Check(%v) = %d, want %d", c, code, verdict(c))
				}
			}
		}
	}
}

func TestCheckLimits(t *testing.T) {
	for _, x := range []struct {
		c    api.Class
		want api.Code
	}{
		{api.Class{}, api.ErrName},
		{api.Class{Name: "tax"}, api.OK},
		{api.Class{Name: "tax", Period: 1 << 40}, api.OK},
		{api.Class{Name: "tax", Period: 1<<40 + 1}, api.ErrRange},
		{api.Class{Name: "tax", Period: -1}, api.ErrRange},
		{api.Class{Name: "Tax", Period: -1}, api.ErrName},
		{api.Class{Name: "", Period: 1<<40 + 1, Event: true, Privileged: true}, api.ErrName},
	} {
		if code := class.Check(x.c); code != x.want {
			t.Errorf("Check(%v) = %d, want %d", x.c, code, x.want)
		}
	}
}

// Promise 15.2.

func TestNewIsEmpty(t *testing.T) {
	s := class.New()
	wantSet(t, s, nil)
	if c, ok := s.Get(0); ok || c != (api.Class{}) {
		t.Errorf("Get(0) of no classes = %v, %t", c, ok)
	}
	for _, name := range append(goodNames(), badNames()...) {
		if i, ok := s.Find(name); ok || i != 0 {
			t.Errorf("Find(%q) of no classes = %d, %t", name, i, ok)
		}
	}
}

func TestNewSetsAreIndependent(t *testing.T) {
	a, b := class.New(), class.New()
	for _, c := range some(3) {
		a.Add(c)
	}
	wantSet(t, b, nil)
	b.Add(another())
	wantSet(t, a, some(3))
	wantSet(t, b, []api.Class{another()})
}

func TestAddAppends(t *testing.T) {
	s := class.New()
	for n, c := range some(mostClasses) {
		if code := s.Add(c); code != api.OK {
			t.Fatalf("Add(%v) to %d classes = %d", c, n, code)
		}
		wantSet(t, s, some(n+1))
	}
}

func TestAddTakesEveryValidClass(t *testing.T) {
	for _, name := range goodNames() {
		for _, period := range goodPeriods() {
			for flags := range 4 {
				c := api.Class{Name: name, Period: period, Event: flags&1 != 0, Privileged: flags&2 != 0}
				wantSet(t, setOf(t, []api.Class{c}), []api.Class{c})
			}
		}
	}
}

func TestAddKeepsTheOrder(t *testing.T) {
	l := some(mostClasses)
	for range mostClasses {
		l = append(l[1:], l[0])
		wantSet(t, setOf(t, l), l)
	}
	slices.Reverse(l)
	wantSet(t, setOf(t, l), l)
}

func TestAddRejectsInvalidClasses(t *testing.T) {
	for n := range mostClasses + 1 {
		s := setOf(t, some(n))
		for _, name := range badNames() {
			for _, period := range []int{0, mostPeriod, -1, mostPeriod + 1} {
				if code := s.Add(api.Class{Name: name, Period: period}); code != api.ErrName {
					t.Fatalf("Add of name %q and period %d to %d classes = %d, want %d", name, period, n, code, api.ErrName)
				}
			}
		}
		// Both names, the one that is there and the one that is not: the period is rejected first.
		for _, name := range []string{"tax", "another"} {
			for _, period := range badPeriods() {
				if code := s.Add(api.Class{Name: name, Period: period}); code != api.ErrRange {
					t.Fatalf("Add of name %q and period %d to %d classes = %d, want %d", name, period, n, code, api.ErrRange)
				}
			}
		}
		wantSet(t, s, some(n))
	}
}

func TestAddRejectsNamesThatAreThere(t *testing.T) {
	for n := range mostClasses + 1 {
		s := setOf(t, some(n))
		for _, c := range some(n) {
			others := []api.Class{c, {Name: c.Name}, {Name: c.Name, Period: 999, Event: !c.Event, Privileged: !c.Privileged}, {Name: c.Name, Period: mostPeriod}}
			for _, other := range others {
				if code := s.Add(other); code != api.ErrTwice {
					t.Fatalf("Add(%v) to %v = %d, want %d", other, some(n), code, api.ErrTwice)
				}
			}
		}
		wantSet(t, s, some(n))
	}
}

func TestAddRejectsANinthClass(t *testing.T) {
	s := setOf(t, some(mostClasses))
	for _, c := range []api.Class{another(), {Name: "x"}, {Name: "c", Period: mostPeriod, Event: true, Privileged: true}} {
		for range 2 {
			if code := s.Add(c); code != api.ErrLimit {
				t.Errorf("Add(%v) to eight classes = %d, want %d", c, code, api.ErrLimit)
			}
		}
		if i, ok := s.Find(c.Name); ok || i != 0 {
			t.Errorf("Find(%q) after it was rejected = %d, %t", c.Name, i, ok)
		}
	}
	wantSet(t, s, some(mostClasses))
}

func TestFindOtherNames(t *testing.T) {
	s := setOf(t, some(mostClasses))
	for _, name := range append(badNames(), "t", "ax", "taxxx", "tax-", "-tax", "aa", "--", "00000000000000", "court-2026-lon", "another", "Tax", "A") {
		if i, ok := s.Find(name); ok || i != 0 {
			t.Errorf("Find(%q) = %d, %t, want 0, false", name, i, ok)
		}
	}
}

func TestGetOfNoClass(t *testing.T) {
	for n := range mostClasses + 1 {
		s := setOf(t, some(n))
		for _, i := range []int{-1, -2, n, n + 1, mostClasses, 255, 256, 1 << 32, -256, -1 << 32, math.MinInt, math.MaxInt} {
			if c, ok := s.Get(i); ok || c != (api.Class{}) {
				t.Errorf("Get(%d) of %d classes = %v, %t", i, n, c, ok)
			}
		}
	}
}

func TestAllReturnsNewMemory(t *testing.T) {
	for n := range mostClasses + 1 {
		s := setOf(t, some(n))
		a, b := s.All(), s.All()
		for i := range a {
			a[i] = another()
		}
		_ = append(a, another())
		if !slices.Equal(b, some(n)) {
			t.Fatalf("All() = %v after another answer was written to, want %v", b, some(n))
		}
		wantSet(t, s, some(n))
	}
}

func TestAllStaysWhenTheSetChanges(t *testing.T) {
	for n := range mostClasses {
		s := setOf(t, some(n))
		l := s.All()
		s.Add(another())
		s.Longer("tax", 500)
		if !slices.Equal(l, some(n)) {
			t.Fatalf("All() = %v after the set has changed, want %v", l, some(n))
		}
	}
}

func TestCopyIsEqual(t *testing.T) {
	for n := range mostClasses + 1 {
		wantSet(t, setOf(t, some(n)).Copy(), some(n))
		wantSet(t, setOf(t, some(n)).Copy().Copy(), some(n))
	}
}

func TestCopyIsIndependent(t *testing.T) {
	for n := range mostClasses {
		l := some(n)
		a := setOf(t, l)
		b := a.Copy()
		c := b.Copy()
		// Each gets another class at the same place.
		inA, _ := added(l, api.Class{Name: "only-a", Period: 1})
		inB, _ := added(l, api.Class{Name: "only-b", Period: 2, Event: true})
		a.Add(api.Class{Name: "only-a", Period: 1})
		b.Add(api.Class{Name: "only-b", Period: 2, Event: true})
		for _, x := range l {
			inA, _ = longer(inA, x.Name, mostPeriod)
			a.Longer(x.Name, mostPeriod)
		}
		wantSet(t, a, inA)
		wantSet(t, b, inB)
		wantSet(t, c, l)
		if _, ok := a.Find("only-b"); ok {
			t.Fatal("a set has a class that was added to its copy")
		}
		if _, ok := b.Find("only-a"); ok {
			t.Fatal("a copy has a class that was added to the first set")
		}
		if _, ok := c.Find("only-b"); ok {
			t.Fatal("a copy has a class that was added to the set it was made of")
		}
		for _, x := range l {
			inB, _ = longer(inB, x.Name, mostPeriod-1)
			b.Longer(x.Name, mostPeriod-1)
		}
		wantSet(t, a, inA)
		wantSet(t, b, inB)
		wantSet(t, c, l)
	}
}

func TestAskingChangesNothing(t *testing.T) {
	for n := range mostClasses + 1 {
		s := setOf(t, some(n))
		for range 3 {
			s.Len()
			s.All()
			s.Find("another")
			s.Find("tax")
			s.Get(-1)
			s.Get(n)
			s.Put()
			s.Copy().Add(another())
		}
		wantSet(t, s, some(n))
	}
}

// Promise 15.3.

func TestLongerExample(t *testing.T) {
	s := setOf(t, []api.Class{{Name: "tax", Period: 10}})
	if code := s.Longer("tax", 9); code != api.ErrKept {
		t.Errorf("Longer from 10 to 9 = %d, want %d", code, api.ErrKept)
	}
	wantSet(t, s, []api.Class{{Name: "tax", Period: 10}})
	if code := s.Longer("tax", 12); code != api.OK {
		t.Errorf("Longer from 10 to 12 = %d, want %d", code, api.OK)
	}
	wantSet(t, s, []api.Class{{Name: "tax", Period: 12}})
	if code := s.Longer("tax", 11); code != api.ErrKept {
		t.Errorf("Longer from 12 to 11 = %d, want %d", code, api.ErrKept)
	}
	wantSet(t, s, []api.Class{{Name: "tax", Period: 12}})
}

func TestLongerEachPeriod(t *testing.T) {
	for _, now := range goodPeriods() {
		for _, period := range append(append(goodPeriods(), badPeriods()...), now-1, now+1) {
			l := []api.Class{{Name: "x", Period: 5, Event: true}, {Name: "tax", Period: now, Event: now%2 == 0, Privileged: now%3 == 0}, {Name: "y"}}
			s := setOf(t, l)
			after, want := longer(l, "tax", period)
			if code := s.Longer("tax", period); code != want {
				t.Fatalf("Longer from %d to %d = %d, want %d", now, period, code, want)
			}
			wantSet(t, s, after)
		}
	}
}

func TestLongerEachClass(t *testing.T) {
	for n := range mostClasses + 1 {
		for _, c := range some(n) {
			s := setOf(t, some(n))
			for _, period := range []int{c.Period, c.Period - 1, mostPeriod - 1, mostPeriod, mostPeriod, mostPeriod + 1, mostPeriod - 1, -1} {
				l := s.All()
				after, want := longer(l, c.Name, period)
				if code := s.Longer(c.Name, period); code != want {
					t.Fatalf("Longer(%q, %d) of %v = %d, want %d", c.Name, period, l, code, want)
				}
				wantSet(t, s, after)
			}
		}
	}
}

func TestLongerOfNoClass(t *testing.T) {
	for n := range mostClasses + 1 {
		s := setOf(t, some(n))
		for _, name := range append(badNames(), "another", "t", "taxxx", "Tax", "court-2026-lon") {
			for _, period := range append(goodPeriods(), badPeriods()...) {
				if code := s.Longer(name, period); code != api.ErrNone {
					t.Fatalf("Longer(%q, %d) of %d classes = %d, want %d", name, period, n, code, api.ErrNone)
				}
			}
		}
		wantSet(t, s, some(n))
	}
}

func TestLongerRejectsNegativePeriodsAsSuch(t *testing.T) {
	s := setOf(t, some(mostClasses))
	for _, c := range some(mostClasses) {
		// They are less than every period, too, but that is mentioned later.
		for _, period := range badPeriods() {
			if code := s.Longer(c.Name, period); code != api.ErrRange {
				t.Errorf("Longer(%q, %d) = %d, want %d", c.Name, period, code, api.ErrRange)
			}
		}
	}
	wantSet(t, s, some(mostClasses))
}

// Promise 15.4.

func TestPutWritesTheFieldsInOrder(t *testing.T) {
	s := setOf(t, []api.Class{
		{Name: "tax", Period: 0x0504030201, Event: true},
		{Name: "court-2026-long", Period: mostPeriod, Privileged: true},
		{Name: "-", Event: true, Privileged: true},
		{Name: "ab", Period: 258},
	})
	want := []byte{
		4,
		3, 't', 'a', 'x', 0, 0, 0, 0, 0, 0, 0, 0, 0, 0, 0, 0, 1, 2, 3, 4, 5, 0, 1,
		15, 'c', 'o', 'u', 'r', 't', '-', '2', '0', '2', '6', '-', 'l', 'o', 'n', 'g', 0, 0, 0, 0, 0, 1, 2,
		1, '-', 0, 0, 0, 0, 0, 0, 0, 0, 0, 0, 0, 0, 0, 0, 0, 0, 0, 0, 0, 0, 3,
		2, 'a', 'b', 0, 0, 0, 0, 0, 0, 0, 0, 0, 0, 0, 0, 0, 2, 1, 0, 0, 0, 0, 0,
	}
	x := s.Put()
	if got := x[:len(want)]; !slices.Equal(got, want) {
		t.Errorf("Put() begins with %v, want %v", got, want)
	}
	for i := len(want); i < 252; i++ {
		if x[i] != 0 {
			t.Errorf("byte %d behind the classes is %d", i, x[i])
		}
	}
	sum := crc32.ChecksumIEEE(x[:252])
	if got := [4]byte(x[252:]); got != [4]byte{byte(sum), byte(sum >> 8), byte(sum >> 16), byte(sum >> 24)} {
		t.Errorf("Put() ends with %v, which is not the checksum", got)
	}
}

func TestPutOfNoClasses(t *testing.T) {
	if x := class.New().Put(); x != seal(nil) {
		t.Errorf("Put() of no classes = %v", x)
	}
	wantRead(t, seal(nil), nil)
}

func TestPutKeepsTheSet(t *testing.T) {
	s := setOf(t, some(mostClasses))
	x := s.Put()
	if y := s.Put(); y != x {
		t.Error("a second Put() returns another sector")
	}
	wantSet(t, s, some(mostClasses))
}

func TestPutAfterLonger(t *testing.T) {
	s := setOf(t, some(mostClasses))
	l := some(mostClasses)
	for _, c := range some(mostClasses) {
		s.Longer(c.Name, mostPeriod)
		l, _ = longer(l, c.Name, mostPeriod)
		if s.Put() != raw(l) {
			t.Fatalf("Put() after Longer(%q) is not that of %v", c.Name, l)
		}
	}
}

func TestReadRejectsOtherNumbersOfClasses(t *testing.T) {
	for n := range mostClasses + 1 {
		b := bytesOf(some(n))
		for count := range 256 {
			b[0] = byte(count)
			if count == n {
				wantRead(t, seal(b), some(n))
			} else {
				wantBad(t, seal(b), strconv.Itoa(n)+" classes and number "+strconv.Itoa(count))
			}
		}
	}
}

func TestReadRejectsMoreClasses(t *testing.T) {
	l := append(some(mostClasses), another())
	wantBad(t, raw(l), "nine classes")
	wantBad(t, raw(append(l, api.Class{Name: "x"})), "ten classes")
	for n := mostClasses + 1; n < 256; n++ {
		b := bytesOf(l)
		b[0] = byte(n)
		wantBad(t, seal(b), "nine classes and number "+strconv.Itoa(n))
	}
}

func TestReadRejectsNames(t *testing.T) {
	for n := 1; n <= mostClasses; n++ {
		for at := range n {
			for _, name := range badNames() {
				if len(name) > mostName {
					continue
				}
				l := slices.Clone(some(n))
				l[at].Name = name
				wantBad(t, raw(l), "name "+strconv.Quote(name))
			}
		}
	}
}

func TestReadRejectsNamesTwice(t *testing.T) {
	for n := 2; n <= mostClasses; n++ {
		for i := range n {
			for j := range i {
				l := slices.Clone(some(n))
				l[i].Name = l[j].Name
				wantBad(t, raw(l), "the name of another class")
				l[i] = l[j]
				wantBad(t, raw(l), "a class twice")
			}
		}
	}
}

func TestReadRejectsNameFields(t *testing.T) {
	for at := range 2 {
		begin := 1 + 23*at
		for size := range 256 {
			if size == len(some(2)[at].Name) {
				continue
			}
			b := bytesOf(some(2))
			b[begin] = byte(size)
			wantBad(t, seal(b), "a name of length "+strconv.Itoa(size))
		}
		for i := 1 + len(some(2)[at].Name); i < 16; i++ {
			for _, x := range []byte{1, 'a', 'x', 0x80, 255} {
				b := bytesOf(some(2))
				b[begin+i] = x
				wantBad(t, seal(b), "a byte behind a name")
			}
		}
	}
}

func TestReadPeriods(t *testing.T) {
	for n := 1; n <= mostClasses; n++ {
		for at := range n {
			for _, period := range goodPeriods() {
				l := slices.Clone(some(n))
				l[at].Period = period
				wantRead(t, raw(l), l)
			}
			for _, period := range []int{mostPeriod + 1, mostPeriod + 2, mostPeriod + 256, 1 << 41, 1<<41 + 10, 1 << 42, 1 << 46, 1 << 47, 1<<48 - 1} {
				l := slices.Clone(some(n))
				l[at].Period = period
				wantBad(t, raw(l), "period "+strconv.Itoa(period))
			}
		}
	}
}

func TestReadFlags(t *testing.T) {
	for n := 1; n <= mostClasses; n++ {
		for at := range n {
			for flags := range 256 {
				b := bytesOf(some(n))
				b[23*at+23] = byte(flags)
				if flags > 3 {
					wantBad(t, seal(b), "flags "+strconv.Itoa(flags))
					continue
				}
				l := slices.Clone(some(n))
				l[at].Event = flags == 1 || flags == 3
				l[at].Privileged = flags == 2 || flags == 3
				wantRead(t, seal(b), l)
			}
		}
	}
}

func TestReadRejectsBytesBehindTheClasses(t *testing.T) {
	for n := range mostClasses + 1 {
		size := len(bytesOf(some(n)))
		for at := size; at < 252; at++ {
			for _, x := range []byte{1, 'a', 0x80, 255} {
				b := make([]byte, 252)
				copy(b, bytesOf(some(n)))
				b[at] = x
				wantBad(t, seal(b), "a byte behind the classes")
			}
		}
	}
}

func TestReadRejectsEveryChangedBit(t *testing.T) {
	for n := range mostClasses + 1 {
		x := setOf(t, some(n)).Put()
		for i := range 8 * len(x) {
			y := x
			y[i/8] ^= 1 << (i % 8)
			wantBad(t, y, "bit "+strconv.Itoa(i)+" changed")
		}
	}
}

func TestReadRejectsOtherSectors(t *testing.T) {
	wantBad(t, api.Sector{}, "zeros")
	ones := api.Sector{}
	for i := range ones {
		ones[i] = 255
	}
	wantBad(t, ones, "bytes of 255")
	wantBad(t, seal(ones[:252]), "sealed bytes of 255")
	r := rand.New(rand.NewSource(15))
	for range 2000 {
		var x api.Sector
		r.Read(x[:])
		wantBad(t, x, "random bytes")
		wantBad(t, seal(x[:252]), "sealed random bytes")
		x[0] = byte(1 + r.Intn(mostClasses))
		wantBad(t, seal(x[:252]), "sealed random bytes behind a number of classes")
	}
}

func TestReadRejectsOtherChecksums(t *testing.T) {
	for n := range mostClasses + 1 {
		x := raw(some(n))
		a, b, c, d := x[252], x[253], x[254], x[255]
		for _, sum := range [][4]byte{{}, {d, c, b, a}, {^a, ^b, ^c, ^d}, {b, a, d, c}, {255, 255, 255, 255}} {
			y := x
			copy(y[252:], sum[:])
			wantBad(t, y, "another checksum")
		}
		// The checksum directly behind the classes, and the zero bytes behind that.
		bytes := bytesOf(some(n))
		sum := crc32.ChecksumIEEE(bytes)
		var z api.Sector
		copy(z[:], append(bytes, byte(sum), byte(sum>>8), byte(sum>>16), byte(sum>>24)))
		wantBad(t, z, "the checksum behind the classes")
	}
}

func TestReadSetsGoOn(t *testing.T) {
	for n := range mostClasses + 1 {
		x := raw(some(n))
		a, b := wantRead(t, x, some(n)), wantRead(t, x, some(n))
		l, want := added(some(n), another())
		if code := a.Add(another()); code != want {
			t.Fatalf("Add to %d classes that were read = %d, want %d", n, code, want)
		}
		for _, c := range some(n) {
			if code := a.Add(c); code != api.ErrTwice {
				t.Fatalf("Add(%v) to classes that were read = %d, want %d", c, code, api.ErrTwice)
			}
			l, want = longer(l, c.Name, c.Period+1)
			if code := a.Longer(c.Name, c.Period+1); code != want {
				t.Fatalf("Longer(%q, %d) of classes that were read = %d, want %d", c.Name, c.Period+1, code, want)
			}
		}
		wantSet(t, a, l)
		wantSet(t, b, some(n))
		wantRead(t, x, some(n))
	}
}

func TestReadAcceptsOnlyWhatPutReturns(t *testing.T) {
	r := rand.New(rand.NewSource(151))
	accepted := 0
	for range 20000 {
		b := make([]byte, 252)
		copy(b, bytesOf(mixed(r, r.Intn(mostClasses+1))))
		for range 1 + r.Intn(2) {
			b[r.Intn(1+23*mostClasses)] = byte(r.Intn(256) >> r.Intn(8))
		}
		x := seal(b)
		s, code := class.Read(x)
		if code != api.OK {
			wantBad(t, x, "changed bytes")
			continue
		}
		accepted++
		l := s.All()
		for _, c := range l {
			if verdict(c) != api.OK {
				t.Fatalf("Read returns the class %v", c)
			}
		}
		wantSet(t, setOf(t, l), l)
		if s.Put() != x || raw(l) != x {
			t.Fatalf("Read accepts a sector that is not that of %v", l)
		}
	}
	if accepted < 1000 {
		t.Errorf("only %d sectors were accepted", accepted)
	}
}

// Promise 15.5.

func TestSetsAreReadBack(t *testing.T) {
	for n := range mostClasses + 1 {
		wantRead(t, setOf(t, some(n)).Put(), some(n))
	}
	r := rand.New(rand.NewSource(152))
	for range 1000 {
		l := mixed(r, r.Intn(mostClasses+1))
		wantRead(t, setOf(t, l).Put(), l)
	}
}

func TestEveryNameIsReadBack(t *testing.T) {
	for _, name := range goodNames() {
		for flags := range 4 {
			l := []api.Class{{Name: name, Period: mostPeriod, Event: flags&1 != 0, Privileged: flags&2 != 0}, another()}
			wantRead(t, setOf(t, l).Put(), l)
		}
	}
}

func TestOtherSetsHaveOtherSectors(t *testing.T) {
	seen := map[api.Sector]bool{}
	keep := func(l []api.Class) {
		x := setOf(t, l).Put()
		if seen[x] {
			t.Fatalf("the sector of %v is also that of another set", l)
		}
		seen[x] = true
	}
	for n := range mostClasses + 1 {
		keep(some(n))
	}
	for at := range mostClasses {
		l := slices.Clone(some(mostClasses))
		l[at].Name = "q" + l[at].Name[1:]
		keep(l)
		l = slices.Clone(some(mostClasses))
		l[at].Event = !l[at].Event
		keep(l)
		l[at].Privileged = !l[at].Privileged
		keep(l)
		l = slices.Clone(some(mostClasses))
		l[at].Period ^= 3
		if l[at].Period <= mostPeriod {
			keep(l)
		}
		l = slices.Clone(some(mostClasses))
		l[at], l[(at+1)%mostClasses] = l[(at+1)%mostClasses], l[at]
		keep(l)
	}
}

// randomCall makes one call on s, and returns the classes that l becomes.
func randomCall(t *testing.T, r *rand.Rand, s *class.Set, l []api.Class) []api.Class {
	t.Helper()
	names := []string{"a", "b", "c", "d", "e", "f", "g", "h", "i", "j", "aa", "Tax", ""}
	periods := []int{0, 1, 2, 3, 4, 5, 6, 7, 100, mostPeriod, mostPeriod + 1, -1}
	name, period := names[r.Intn(len(names))], periods[r.Intn(len(periods))]
	if r.Intn(3) == 0 {
		c := api.Class{Name: name, Period: period, Event: r.Intn(2) == 0, Privileged: r.Intn(2) == 0}
		after, want := added(l, c)
		if code := s.Add(c); code != want {
			t.Fatalf("Add(%v) to %v = %d, want %d", c, l, code, want)
		}
		return after
	}
	after, want := longer(l, name, period)
	if code := s.Longer(name, period); code != want {
		t.Fatalf("Longer(%q, %d) of %v = %d, want %d", name, period, l, code, want)
	}
	return after
}

func TestRandomCalls(t *testing.T) {
	r := rand.New(rand.NewSource(153))
	for range 200 {
		s := class.New()
		var l []api.Class
		for range 60 {
			switch r.Intn(10) {
			case 0:
				s = s.Copy()
			case 1:
				s = wantRead(t, s.Put(), l)
			}
			before := s.All()
			l = randomCall(t, r, s, l)
			wantSet(t, s, l)
			for i, c := range before {
				if after, ok := s.Get(i); !ok || after.Period < c.Period || after.Name != c.Name {
					t.Fatalf("class %v has become %v, %t", c, after, ok)
				}
			}
		}
	}
}
