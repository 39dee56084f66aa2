package keep_test

import (
	"math/rand"
	"slices"
	"strconv"
	"strings"
	"testing"

	"mortmain/api"
	"mortmain/keep"
)

// Limits as the document gives them.
const (
	mostTime  = 1 << 40
	mostHolds = 4
	mostName  = 15
)

// times returns times and periods at the limits and between.
func times() []int {
	return []int{0, 1, 2, 3, 10, 12, 13, 256, 1<<31 - 1, 1 << 31, 1 << 32, 1<<40 - 1, 1 << 40}
}

// names returns valid names that differ.
func names() []string {
	return []string{"court", "tax", "a", "-", "0", "court-2026-long", "cour", "courts", "999999999999999"}
}

// badNames returns strings that are no names.
func badNames() []string {
	return []string{
		"", "Court", "courT", " court", "court ", "co urt", "court\n", "court\x00", "\x00", "a_b", "a.b", "a/b", "a:b", "`", "{", "@", "é", "\x80",
		strings.Repeat("a", mostName+1), strings.Repeat("a", 256), strings.Repeat("-", mostName+1),
	}
}

// lists returns holds of every number that a clip may have, some of them equal.
func lists() [][]string {
	return [][]string{
		nil, {}, {"court"}, {"tax"}, {"a"}, {"court", "tax"}, {"tax", "court"}, {"court", "court"}, {"tax", "a", "court"}, {"a", "tax", "a"},
		{"court", "tax", "a", "-"}, {"-", "a", "tax", "court"}, {"court", "tax", "court", "tax"}, {"a", "a", "a", "a"},
	}
}

// full returns a clip with a value in every field.
func full() api.Clip {
	return api.Clip{
		Addr: api.Address{1, 2, 31: 3}, Class: 5, Created: 3, Fired: true, Event: 7,
		Holds: []string{"court", "tax"}, Note: "a note", Texts: []int{4, 0, 4, 9},
	}
}

// clips returns clips that differ in every field.
func clips() []api.Clip {
	l := []api.Clip{{}, full()}
	for _, holds := range lists() {
		for _, fired := range []bool{false, true} {
			c := full()
			c.Holds, c.Fired = holds, fired
			l = append(l, c)
			l = append(l, api.Clip{Created: mostTime, Event: 2, Fired: fired, Holds: holds})
		}
	}
	return l
}

// classes returns a class with that period for all flags.
func classes(period int) []api.Class {
	l := make([]api.Class, 4)
	for i := range l {
		l[i] = api.Class{Name: "tax", Period: period, Event: i&1 != 0, Privileged: i&2 != 0}
	}
	return l
}

// twin returns a clip that shares nothing with c, without the help of package keep.
func twin(c api.Clip) api.Clip {
	c.Holds = append([]string(nil), c.Holds...)
	c.Texts = append([]int(nil), c.Texts...)
	return c
}

// equal reports whether two clips are the same, field by field.
func equal(a, b api.Clip) bool {
	switch {
	case a.Addr != b.Addr, a.Class != b.Class, a.Created != b.Created, a.Fired != b.Fired:
		return false
	case a.Event != b.Event, a.Note != b.Note:
		return false
	}
	return slices.Equal(a.Holds, b.Holds) && slices.Equal(a.Texts, b.Texts)
}

// until returns what 16.1 says of the end of a period.
func until(c api.Clip, k api.Class) (int, bool) {
	switch {
	case k.Event && c.Fired:
		return k.Period + c.Event, true
	case k.Event:
		return 0, false
	default:
		return k.Period + c.Created, true
	}
}

// left returns what 16.1 says of the rest of a period.
func left(c api.Clip, k api.Class, now int) int {
	end, ok := until(c, k)
	switch {
	case !ok:
		return -1
	case end <= now:
		return 0
	default:
		return end - now
	}
}

// verdict returns what 16.2 says of deleting a clip.
func verdict(c api.Clip, k api.Class, now int) api.Code {
	if len(c.Holds) != 0 {
		return api.ErrHeld
	}
	if end, ok := until(c, k); !ok || now < end {
		return api.ErrKept
	}
	return api.OK
}

// privileged returns what 16.2 says of deleting a clip by a privileged request.
func privileged(c api.Clip, k api.Class) api.Code {
	switch {
	case !k.Privileged:
		return api.ErrClass
	case len(c.Holds) != 0:
		return api.ErrHeld
	default:
		return api.OK
	}
}

// fired returns what 16.3 says of firing a clip.
func fired(c api.Clip, k api.Class, now int) (api.Clip, api.Code) {
	c = twin(c)
	switch {
	case !k.Event:
		return c, api.ErrClass
	case c.Fired:
		return c, api.ErrTwice
	}
	c.Fired = true
	c.Event = now
	return c, api.OK
}

// named reports whether s is a name.
func named(s string) bool {
	return s != "" && len(s) <= mostName && strings.Trim(s, "abcdefghijklmnopqrstuvwxyz0123456789-") == ""
}

// holding returns what 16.4 says of one more hold.
func holding(c api.Clip, name string) (api.Clip, api.Code) {
	c = twin(c)
	if !named(name) {
		return c, api.ErrName
	}
	for _, s := range c.Holds {
		if s == name {
			return c, api.ErrTwice
		}
	}
	if len(c.Holds) == mostHolds {
		return c, api.ErrLimit
	}
	c.Holds = append(c.Holds, name)
	return c, api.OK
}

// released returns what 16.4 says of one hold less.
func released(c api.Clip, name string) (api.Clip, api.Code) {
	c = twin(c)
	for i, s := range c.Holds {
		if s == name {
			c.Holds = append(c.Holds[:i], c.Holds[i+1:]...)
			return c, api.OK
		}
	}
	return c, api.ErrNone
}

// wantTimes checks all that depends on times alone.
func wantTimes(t *testing.T, c api.Clip, k api.Class, now int) {
	t.Helper()
	end, ok := until(c, k)
	if n, o := keep.Until(c, k); n != end || o != ok {
		t.Fatalf("Until(%v, %v) = %d, %t, want %d, %t", c, k, n, o, end, ok)
	}
	if n := keep.Left(c, k, now); n != left(c, k, now) {
		t.Fatalf("Left(%v, %v, %d) = %d, want %d", c, k, now, n, left(c, k, now))
	}
	if code := keep.Delete(c, k, now); code != verdict(c, k, now) {
		t.Fatalf("Delete(%v, %v, %d) = %d, want %d", c, k, now, code, verdict(c, k, now))
	}
	if code := keep.Privileged(c, k); code != privileged(c, k) {
		t.Fatalf("Privileged(%v, %v) = %d, want %d", c, k, code, privileged(c, k))
	}
}

// wantFire checks what Fire returns.
func wantFire(t *testing.T, c api.Clip, k api.Class, now int) {
	t.Helper()
	want, code := fired(c, k, now)
	if got, x := keep.Fire(c, k, now); x != code || !equal(got, want) {
		t.Fatalf("Fire(%v, %v, %d) = %v, %d, want %v, %d", c, k, now, got, x, want, code)
	}
}

// wantHold checks what Hold returns.
func wantHold(t *testing.T, c api.Clip, name string) {
	t.Helper()
	want, code := holding(c, name)
	if got, x := keep.Hold(c, name); x != code || !equal(got, want) {
		t.Fatalf("Hold(%v, %q) = %v, %d, want %v, %d", c, name, got, x, want, code)
	}
}

// wantRelease checks what Release returns.
func wantRelease(t *testing.T, c api.Clip, name string) {
	t.Helper()
	want, code := released(c, name)
	if got, x := keep.Release(c, name); x != code || !equal(got, want) {
		t.Fatalf("Release(%v, %q) = %v, %d, want %v, %d", c, name, got, x, want, code)
	}
}

// Promise 16.1.

func TestUntilExamples(t *testing.T) {
	for _, x := range []struct {
		c    api.Clip
		k    api.Class
		want int
		ok   bool
	}{
		{api.Clip{}, api.Class{}, 0, true},
		{api.Clip{Created: 3}, api.Class{Period: 10}, 13, true},
		{api.Clip{Created: 3, Event: 20}, api.Class{Period: 10}, 13, true},
		{api.Clip{Created: 3, Event: 20, Fired: true}, api.Class{Period: 10}, 13, true},
		{api.Clip{Created: 3}, api.Class{Period: 10, Event: true}, 0, false},
		{api.Clip{Created: 3, Event: 20}, api.Class{Period: 10, Event: true}, 0, false},
		{api.Clip{Created: 3, Event: 20, Fired: true}, api.Class{Period: 10, Event: true}, 30, true},
		{api.Clip{Created: 3, Fired: true}, api.Class{Period: 10, Event: true}, 10, true},
		{api.Clip{Created: 3, Fired: true}, api.Class{Event: true}, 0, true},
		{api.Clip{Created: 1 << 40}, api.Class{Period: 1 << 40}, 1 << 41, true},
		{api.Clip{Created: 1 << 40}, api.Class{}, 1 << 40, true},
		{api.Clip{}, api.Class{Period: 1 << 40}, 1 << 40, true},
		{api.Clip{Event: 1 << 40, Fired: true}, api.Class{Period: 1 << 40, Event: true}, 1 << 41, true},
		{api.Clip{Created: 1 << 40, Event: 1 << 40}, api.Class{Period: 1 << 40, Event: true}, 0, false},
	} {
		if n, ok := keep.Until(x.c, x.k); n != x.want || ok != x.ok {
			t.Errorf("Until(%v, %v) = %d, %t, want %d, %t", x.c, x.k, n, ok, x.want, x.ok)
		}
	}
}

func TestLeftExamples(t *testing.T) {
	waiting := api.Class{Period: 10, Event: true}
	for _, x := range []struct {
		c         api.Clip
		k         api.Class
		now, want int
	}{
		{api.Clip{Created: 3}, api.Class{Period: 10}, 0, 13},
		{api.Clip{Created: 3}, api.Class{Period: 10}, 3, 10},
		{api.Clip{Created: 3}, api.Class{Period: 10}, 12, 1},
		{api.Clip{Created: 3}, api.Class{Period: 10}, 13, 0},
		{api.Clip{Created: 3}, api.Class{Period: 10}, 14, 0},
		{api.Clip{Created: 3}, api.Class{Period: 10}, 1 << 40, 0},
		{api.Clip{Created: 3}, api.Class{}, 3, 0},
		{api.Clip{}, api.Class{}, 0, 0},
		{api.Clip{Created: 3}, waiting, 0, -1},
		{api.Clip{Created: 3}, waiting, 1 << 40, -1},
		{api.Clip{Created: 3, Event: 20}, waiting, 25, -1},
		{api.Clip{Created: 3, Event: 20, Fired: true}, waiting, 25, 5},
		{api.Clip{Created: 3, Event: 20, Fired: true}, waiting, 29, 1},
		{api.Clip{Created: 3, Event: 20, Fired: true}, waiting, 30, 0},
		{api.Clip{Created: 3, Event: 20, Fired: true}, waiting, 31, 0},
		{api.Clip{Created: 1 << 40}, api.Class{Period: 1 << 40}, 0, 1 << 41},
		{api.Clip{Created: 1 << 40}, api.Class{Period: 1 << 40}, 1 << 40, 1 << 40},
	} {
		if n := keep.Left(x.c, x.k, x.now); n != x.want {
			t.Errorf("Left(%v, %v, %d) = %d, want %d", x.c, x.k, x.now, n, x.want)
		}
	}
}

// Promises 16.1 and 16.2, for all times of a list.
func wantAllTimes(t *testing.T, l []int) {
	t.Helper()
	for _, created := range l {
		for _, event := range l {
			for i := range 4 {
				c := api.Clip{Created: created, Event: event, Fired: i&1 != 0}
				if i&2 != 0 {
					c.Holds = []string{"court"}
				}
				for _, period := range l {
					for _, k := range classes(period) {
						for _, now := range l {
							wantTimes(t, c, k, now)
						}
					}
				}
			}
		}
	}
}

func TestTimesAtTheLimits(t *testing.T) {
	wantAllTimes(t, times())
}

func TestSmallTimes(t *testing.T) {
	wantAllTimes(t, []int{0, 1, 2, 3, 4, 5, 6, 7})
}

func TestTimesAtRandom(t *testing.T) {
	r := rand.New(rand.NewSource(1))
	some := func() int { return r.Intn(1 << (1 + r.Intn(40))) }
	for range 50000 {
		c := clips()[r.Intn(len(clips()))]
		c.Created, c.Event = some(), some()
		k := api.Class{Name: "tax", Period: some(), Event: r.Intn(2) == 0, Privileged: r.Intn(2) == 0}
		now := some()
		wantTimes(t, c, k, now)
		if end, ok := until(c, k); ok && end > 0 && end < mostTime {
			wantTimes(t, c, k, end-1)
			wantTimes(t, c, k, end)
			wantTimes(t, c, k, end+1)
		}
	}
}

// The other fields of the clip and of the class play no part.
func TestOtherFieldsPlayNoPart(t *testing.T) {
	for _, period := range []int{0, 10} {
		for _, k := range classes(period) {
			for _, name := range append(names(), badNames()...) {
				k.Name = name
				for _, c := range clips() {
					for _, now := range []int{0, 12, 13, 17, mostTime} {
						wantTimes(t, c, k, now)
					}
				}
			}
		}
	}
}

// Promise 16.2.

func TestDeleteExample(t *testing.T) {
	k := api.Class{Name: "tax", Period: 10}
	c := api.Clip{Created: 3}
	if code := keep.Delete(c, k, 12); code != api.ErrKept {
		t.Errorf("Delete at 12 = %d", code)
	}
	if code := keep.Delete(c, k, 13); code != api.OK {
		t.Errorf("Delete at 13 = %d", code)
	}
	c.Holds = []string{"court"}
	for _, now := range []int{0, 3, 12, 13, 14, mostTime} {
		if code := keep.Delete(c, k, now); code != api.ErrHeld {
			t.Errorf("Delete at %d with a hold = %d", now, code)
		}
	}
}

func TestDeleteWithoutEnd(t *testing.T) {
	k := api.Class{Name: "tax", Event: true, Privileged: true}
	for _, now := range times() {
		for _, event := range times() {
			c := api.Clip{Event: event}
			if code := keep.Delete(c, k, now); code != api.ErrKept {
				t.Errorf("Delete of %v at %d = %d", c, now, code)
			}
			c.Holds = []string{"court"}
			if code := keep.Delete(c, k, now); code != api.ErrHeld {
				t.Errorf("Delete of %v at %d = %d", c, now, code)
			}
		}
	}
}

func TestDeleteWithEachNumberOfHolds(t *testing.T) {
	for n := range mostHolds + 1 {
		for _, name := range append(names(), badNames()...) {
			c := api.Clip{Created: 3, Holds: slices.Repeat([]string{name}, n)}
			for _, now := range []int{12, 13, mostTime} {
				for _, k := range classes(10) {
					wantTimes(t, c, k, now)
				}
			}
		}
	}
}

func TestPrivilegedExamples(t *testing.T) {
	court := []string{"court"}
	for _, x := range []struct {
		c    api.Clip
		k    api.Class
		want api.Code
	}{
		{api.Clip{}, api.Class{}, api.ErrClass},
		{api.Clip{Holds: court}, api.Class{}, api.ErrClass},
		{api.Clip{Holds: court}, api.Class{Event: true}, api.ErrClass},
		{api.Clip{Created: 3}, api.Class{Privileged: true, Period: 10}, api.OK},
		{api.Clip{Created: mostTime}, api.Class{Privileged: true, Period: mostTime}, api.OK},
		{api.Clip{Created: 3}, api.Class{Privileged: true, Event: true}, api.OK},
		{api.Clip{Created: 3, Fired: true}, api.Class{Privileged: true, Event: true}, api.OK},
		{api.Clip{Holds: court}, api.Class{Privileged: true}, api.ErrHeld},
		{api.Clip{Holds: court}, api.Class{Privileged: true, Event: true}, api.ErrHeld},
		{api.Clip{Holds: []string{}}, api.Class{Privileged: true}, api.OK},
	} {
		if code := keep.Privileged(x.c, x.k); code != x.want {
			t.Errorf("Privileged(%v, %v) = %d, want %d", x.c, x.k, code, x.want)
		}
	}
}

// Promise 16.3.

func TestFireExample(t *testing.T) {
	k := api.Class{Name: "tax", Period: 10, Event: true}
	c, code := keep.Fire(api.Clip{Created: 3}, k, 20)
	if code != api.OK || !equal(c, api.Clip{Created: 3, Fired: true, Event: 20}) {
		t.Fatalf("Fire = %v, %d", c, code)
	}
	again, code := keep.Fire(c, k, 21)
	if code != api.ErrTwice || !equal(again, c) {
		t.Fatalf("Fire again = %v, %d", again, code)
	}
	k.Event = false
	again, code = keep.Fire(c, k, 21)
	if code != api.ErrClass || !equal(again, c) {
		t.Fatalf("Fire without an event = %v, %d", again, code)
	}
}

func TestFireEveryClip(t *testing.T) {
	for _, c := range clips() {
		for _, now := range times() {
			for _, period := range []int{0, 10, mostTime} {
				for _, k := range classes(period) {
					wantFire(t, c, k, now)
				}
			}
		}
	}
}

// The event that a clip has before it is fired, and holds, do not hinder the event.
func TestFireReplacesTheEvent(t *testing.T) {
	for _, event := range times() {
		for _, now := range times() {
			c := full()
			c.Fired, c.Event = false, event
			got, code := keep.Fire(c, api.Class{Event: true}, now)
			want := full()
			want.Event = now
			if code != api.OK || !equal(got, want) {
				t.Fatalf("Fire(%v) at %d = %v, %d", c, now, got, code)
			}
		}
	}
}

// Promise 16.4.

func TestHoldExample(t *testing.T) {
	c := api.Clip{Created: 3}
	for n, name := range []string{"court", "tax", "a", "-"} {
		want := append(slices.Clone(c.Holds), name)
		got, code := keep.Hold(c, name)
		if code != api.OK || !equal(got, api.Clip{Created: 3, Holds: want}) {
			t.Fatalf("Hold(%v, %q) = %v, %d", c, name, got, code)
		}
		if len(c.Holds) != n {
			t.Fatalf("Hold changed the holds to %v", c.Holds)
		}
		c = got
	}
	for name, want := range map[string]api.Code{"Court": api.ErrName, "": api.ErrName, "court": api.ErrTwice, "-": api.ErrTwice, "b": api.ErrLimit} {
		got, code := keep.Hold(c, name)
		if code != want || !equal(got, c) {
			t.Errorf("Hold(%v, %q) = %v, %d, want %d", c, name, got, code, want)
		}
	}
}

func TestHoldEveryClip(t *testing.T) {
	for _, c := range clips() {
		for _, name := range append(names(), badNames()...) {
			wantHold(t, c, name)
		}
	}
}

func TestHoldWithAnInvalidNameThatIsThere(t *testing.T) {
	for n := range mostHolds + 1 {
		for _, name := range badNames() {
			c := full()
			c.Holds = slices.Repeat([]string{name}, n)
			wantHold(t, c, name)
		}
	}
}

func TestHoldTakesEveryByteOfANameOnly(t *testing.T) {
	for x := range 256 {
		for _, name := range []string{string([]byte{byte(x)}), "a" + string([]byte{byte(x)}), string([]byte{byte(x)}) + "a"} {
			wantHold(t, full(), name)
		}
	}
}

func TestHoldNamesOfEachLength(t *testing.T) {
	for n := range 300 {
		wantHold(t, full(), strings.Repeat("b", n))
	}
}

func TestHoldSeesTheNameAtEachPlace(t *testing.T) {
	for n := 1; n <= mostHolds; n++ {
		for at := range n {
			c := full()
			c.Holds = []string{"w", "x", "y", "z"}[:n]
			got, code := keep.Hold(c, c.Holds[at])
			if code != api.ErrTwice || !equal(got, c) {
				t.Errorf("Hold(%v, %q) = %v, %d", c, c.Holds[at], got, code)
			}
		}
	}
}

func TestReleaseExamples(t *testing.T) {
	for _, x := range []struct {
		holds []string
		name  string
		want  []string
		code  api.Code
	}{
		{nil, "court", nil, api.ErrNone},
		{nil, "", nil, api.ErrNone},
		{[]string{}, "court", nil, api.ErrNone},
		{[]string{"court"}, "court", nil, api.OK},
		{[]string{"court"}, "cour", []string{"court"}, api.ErrNone},
		{[]string{"court"}, "courts", []string{"court"}, api.ErrNone},
		{[]string{"court"}, "Court", []string{"court"}, api.ErrNone},
		{[]string{"court", "tax"}, "court", []string{"tax"}, api.OK},
		{[]string{"court", "tax"}, "tax", []string{"court"}, api.OK},
		{[]string{"tax", "a", "court", "-"}, "tax", []string{"a", "court", "-"}, api.OK},
		{[]string{"tax", "a", "court", "-"}, "a", []string{"tax", "court", "-"}, api.OK},
		{[]string{"tax", "a", "court", "-"}, "court", []string{"tax", "a", "-"}, api.OK},
		{[]string{"tax", "a", "court", "-"}, "-", []string{"tax", "a", "court"}, api.OK},
		{[]string{"tax", "a", "court", "-"}, "b", []string{"tax", "a", "court", "-"}, api.ErrNone},
		{[]string{"a", "tax", "a", "court"}, "a", []string{"tax", "a", "court"}, api.OK},
		{[]string{"tax", "a", "court", "a"}, "a", []string{"tax", "court", "a"}, api.OK},
		{[]string{"a", "a", "a", "a"}, "a", []string{"a", "a", "a"}, api.OK},
		{[]string{"A", ""}, "A", []string{""}, api.OK},
		{[]string{"A", ""}, "", []string{"A"}, api.OK},
	} {
		c, want := full(), full()
		c.Holds, want.Holds = slices.Clone(x.holds), x.want
		got, code := keep.Release(c, x.name)
		if code != x.code || !equal(got, want) {
			t.Errorf("Release(%v, %q) = %v, %d, want %v, %d", c, x.name, got, code, want, x.code)
		}
		if !slices.Equal(c.Holds, x.holds) {
			t.Errorf("Release(%v, %q) changed the holds to %v", x.holds, x.name, c.Holds)
		}
	}
}

func TestReleaseEveryClip(t *testing.T) {
	for _, c := range clips() {
		for _, name := range append(names(), badNames()...) {
			wantRelease(t, c, name)
		}
	}
}

func TestReleaseUndoesHold(t *testing.T) {
	for _, c := range clips() {
		for _, name := range names() {
			held, code := keep.Hold(c, name)
			if code != api.OK {
				continue
			}
			if got, code := keep.Release(held, name); code != api.OK || !equal(got, c) {
				t.Fatalf("Release(%v, %q) = %v, %d, want %v", held, name, got, code, c)
			}
		}
	}
}

// Any holds may be taken and given back in any order, and the event may happen between.
func TestCallsAtRandom(t *testing.T) {
	r := rand.New(rand.NewSource(2))
	met := map[string]int{}
	for range 2000 {
		c := api.Clip{Created: r.Intn(20), Note: "x", Texts: []int{1}}
		k := classes(r.Intn(20))[r.Intn(4)]
		want := twin(c)
		for now := range 40 {
			what, code, wanted := "", api.OK, api.OK
			name := []string{"a", "b", "c", "d", "e", "f", "-", "", "A"}[r.Intn(9)]
			switch r.Intn(5) {
			case 0:
				what = "Fire"
				c, code = keep.Fire(c, k, now)
				want, wanted = fired(want, k, now)
			case 1, 2:
				what = "Hold"
				c, code = keep.Hold(c, name)
				want, wanted = holding(want, name)
			default:
				what = "Release"
				c, code = keep.Release(c, name)
				want, wanted = released(want, name)
			}
			if code != wanted || !equal(c, want) {
				t.Fatalf("%s(%q) at %d = %v, %d, want %v, %d", what, name, now, c, code, want, wanted)
			}
			met[what+" "+strconv.Itoa(int(code))]++
			wantTimes(t, c, k, now)
		}
	}
	for _, s := range []string{"Fire 0", "Fire 9", "Fire 13", "Hold 0", "Hold 7", "Hold 9", "Hold 10", "Release 0", "Release 8"} {
		if met[s] == 0 {
			t.Errorf("%s was not met", s)
		}
	}
}

// What is returned shares nothing with what was given, whatever the code.

// behind returns a clip with memory behind its holds and its texts, and that memory.
func behind(c api.Clip) (api.Clip, []string, []int) {
	holds := append(slices.Clone(c.Holds), "h1", "h2", "h3")
	texts := append(slices.Clone(c.Texts), 101, 102, 103)
	c.Holds, c.Texts = holds[:len(c.Holds)], texts[:len(c.Texts)]
	return c, holds, texts
}

// calls calls every function that returns a clip, and returns these clips.
func calls(c api.Clip) []api.Clip {
	var l []api.Clip
	add := func(x api.Clip, code api.Code) { l = append(l, x) }
	for _, k := range classes(10) {
		add(keep.Fire(c, k, 20))
	}
	for _, name := range append(names(), "", "A", "h1", "h2", "h3") {
		add(keep.Hold(c, name))
		add(keep.Release(c, name))
	}
	return l
}

func TestArgumentsStay(t *testing.T) {
	for _, x := range clips() {
		c, holds, texts := behind(x)
		oldHolds, oldTexts := slices.Clone(holds), slices.Clone(texts)
		for _, k := range classes(10) {
			keep.Until(c, k)
			keep.Left(c, k, 12)
			keep.Delete(c, k, 12)
			keep.Privileged(c, k)
		}
		for _, y := range calls(c) {
			for i := range y.Holds {
				y.Holds[i] = "changed"
			}
			for i := range y.Texts {
				y.Texts[i] = -1
			}
			_ = append(y.Holds, "changed")
			_ = append(y.Texts, -1)
		}
		if !slices.Equal(holds, oldHolds) || !slices.Equal(texts, oldTexts) {
			t.Fatalf("%v and %v became %v and %v", oldHolds, oldTexts, holds, texts)
		}
	}
}

func TestResultsStay(t *testing.T) {
	for _, x := range clips() {
		c, holds, texts := behind(x)
		got := calls(c)
		var want []api.Clip
		for _, y := range got {
			want = append(want, twin(y))
		}
		for i := range holds {
			holds[i] = "changed"
		}
		for i := range texts {
			texts[i] = -1
		}
		for i := range got {
			if !equal(got[i], want[i]) {
				t.Fatalf("%v became %v", want[i], got[i])
			}
		}
	}
}

// Two results of one clip are independent, also where one more hold would fit behind it.
func TestHoldTwiceFromOneClip(t *testing.T) {
	for _, x := range clips() {
		if len(x.Holds) >= mostHolds {
			continue
		}
		c, _, _ := behind(x)
		first, _ := keep.Hold(c, "first")
		second, _ := keep.Hold(c, "second")
		third, _ := keep.Hold(first, "third")
		fourth, _ := keep.Hold(first, "fourth")
		less, _ := keep.Release(first, "first")
		wantFirst, _ := holding(x, "first")
		wantSecond, _ := holding(x, "second")
		wantThird, _ := holding(wantFirst, "third")
		wantFourth, _ := holding(wantFirst, "fourth")
		for i, pair := range [][2]api.Clip{{first, wantFirst}, {second, wantSecond}, {third, wantThird}, {fourth, wantFourth}, {less, x}} {
			if !equal(pair[0], pair[1]) {
				t.Fatalf("clip %d of %v is %v, want %v", i, x, pair[0], pair[1])
			}
		}
	}
}

func TestMemoryBehindPlaysNoPart(t *testing.T) {
	for _, x := range clips() {
		c, _, _ := behind(x)
		for _, name := range []string{"h1", "h2", "h3"} {
			wantHold(t, c, name)
			wantRelease(t, c, name)
		}
		for _, k := range classes(10) {
			wantTimes(t, c, k, 13)
			wantFire(t, c, k, 13)
		}
	}
}

// Promise 16.5.

func TestDeletableOnceDeletableLater(t *testing.T) {
	for _, created := range []int{0, 3, 9} {
		for period := range 12 {
			for _, k := range classes(period) {
				for event := -1; event < 10; event++ {
					c := api.Clip{Created: created}
					if event >= 0 {
						c.Fired, c.Event = true, event
					}
					end, ok := keep.Until(c, k)
					before := api.ErrKept
					for now := range 40 {
						code := keep.Delete(c, k, now)
						if code != api.OK && before == api.OK {
							t.Fatalf("%v of %v can be deleted at %d, but not at %d", c, k, now-1, now)
						}
						if code == api.OK && (!ok || now < end) {
							t.Fatalf("%v of %v can be deleted at %d", c, k, now)
						}
						before = code
					}
					if ok && keep.Delete(c, k, mostTime) != api.OK {
						t.Fatalf("%v of %v cannot be deleted at the last time", c, k)
					}
				}
			}
		}
	}
}
