package plan_test

import (
	"math"
	"slices"
	"testing"

	"mortmain/api"
	"mortmain/disk"
	"mortmain/plan"
)

var (
	least    = api.Plan{Slots: 1, Texts: 1, Clips: 1, Audits: 1}
	example  = api.Plan{Slots: 10, Texts: 4, Clips: 3, Audits: 5}
	greatest = api.Plan{Slots: 200, Texts: 40, Clips: 40, Audits: 80}
)

// of returns the layout of a plan, which must succeed.
func of(t *testing.T, p api.Plan) plan.Layout {
	t.Helper()
	l, code := plan.Of(p)
	if code != api.OK {
		t.Fatalf("Of(%v) = %v, %d", p, l, code)
	}
	return l
}

// plans calls f for plans with every number of slots and of texts, and for those with every number of clips and of audits.
func plans(f func(p api.Plan)) {
	for slots := 1; slots <= 200; slots++ {
		for texts := 1; texts <= 40; texts++ {
			f(api.Plan{Slots: slots, Texts: texts, Clips: 1 + slots%40, Audits: 1 + (slots+texts)%80})
		}
	}
	for clips := 1; clips <= 40; clips++ {
		for audits := 1; audits <= 80; audits++ {
			f(api.Plan{Slots: 1 + clips*audits%200, Texts: 1 + audits%40, Clips: clips, Audits: audits})
		}
	}
}

// names returns the names of the parts of all sectors, laid one after the other as the document lists them.
func names(p api.Plan) []string {
	index := 1
	for index*6 < 2*p.Slots {
		index++
	}
	var l []string
	add := func(name string, n int) {
		for range n {
			l = append(l, name)
		}
	}
	add("super", 2)
	add("state", 1)
	add("map", 1)
	add("classes", 1)
	add("index", index)
	add("text", p.Texts)
	add("clip", p.Clips)
	add("audit", p.Audits)
	add("head", 1)
	add("body", index+p.Texts+9)
	add("slot", p.Slots)
	return l
}

// outside returns sector numbers that a disk of n sectors does not have.
func outside(n int) []int {
	return []int{math.MinInt, math.MinInt + 1, -n, -2, -1, n, n + 1, 4096, math.MaxInt - 1, math.MaxInt}
}

// Promise 7.1.

func TestLimits(t *testing.T) {
	got := []int{plan.MaxSlots, plan.MaxTexts, plan.MaxClips, plan.MaxAudits}
	if want := []int{200, 40, 40, 80}; !slices.Equal(got, want) {
		t.Errorf("limits are %v, want %v", got, want)
	}
}

// around returns numbers at, next to and far from the ends of [1, most].
func around(most int) []int {
	return []int{math.MinInt, -most, -1, 0, 1, 2, most / 2, most - 1, most, most + 1, math.MaxInt}
}

func TestCheckTellsPlansOfWhichAllNumbersAreInRange(t *testing.T) {
	in := func(n, most int) bool { return 1 <= n && n <= most }
	for _, slots := range around(200) {
		for _, texts := range around(40) {
			for _, clips := range around(40) {
				for _, audits := range around(80) {
					p := api.Plan{Slots: slots, Texts: texts, Clips: clips, Audits: audits}
					want := api.ErrRange
					if in(slots, 200) && in(texts, 40) && in(clips, 40) && in(audits, 80) {
						want = api.OK
					}
					if code := plan.Check(p); code != want {
						t.Errorf("Check(%v) = %d, want %d", p, code, want)
					}
					// Promise 7.2: the error is that of Check.
					l, code := plan.Of(p)
					if code != want {
						t.Errorf("Of(%v) = %d, want %d", p, code, want)
					}
					if code != api.OK && l != (plan.Layout{}) {
						t.Errorf("Of(%v) gives %v beside %d", p, l, code)
					}
				}
			}
		}
	}
}

func TestCheckAcceptsEveryPlanInRange(t *testing.T) {
	plans(func(p api.Plan) {
		if code := plan.Check(p); code != api.OK {
			t.Errorf("Check(%v) = %d", p, code)
		}
	})
}

func TestCheckHoldsEachNumberAgainstItsOwnLimit(t *testing.T) {
	for _, p := range []api.Plan{
		{},
		{Slots: 201, Texts: 1, Clips: 1, Audits: 1},
		{Slots: 1, Texts: 41, Clips: 1, Audits: 1},
		{Slots: 1, Texts: 1, Clips: 41, Audits: 1},
		{Slots: 1, Texts: 1, Clips: 1, Audits: 81},
		{Slots: 0, Texts: 1, Clips: 1, Audits: 1},
		{Slots: 1, Texts: 0, Clips: 1, Audits: 1},
		{Slots: 1, Texts: 1, Clips: 0, Audits: 1},
		{Slots: 1, Texts: 1, Clips: 1, Audits: 0},
	} {
		if code := plan.Check(p); code != api.ErrRange {
			t.Errorf("Check(%v) = %d, want ErrRange", p, code)
		}
	}
}

// Promise 7.2.

func TestFirstSectors(t *testing.T) {
	got := []int{plan.SuperA, plan.SuperB, plan.State, plan.Map, plan.Classes, plan.First}
	if want := []int{0, 1, 2, 3, 4, 5}; !slices.Equal(got, want) {
		t.Errorf("the first sectors are %v, want %v", got, want)
	}
	if plan.PerSector != 6 {
		t.Errorf("PerSector = %d, want 6", plan.PerSector)
	}
}

func TestOf(t *testing.T) {
	for _, want := range []plan.Layout{
		{Plan: least, Index: 5, Texts: 6, Clips: 7, Audits: 8, Head: 9, Body: 10, Slots: 21, Total: 22, Entries: 6, Room: 11},
		{Plan: example, Index: 5, Texts: 9, Clips: 13, Audits: 16, Head: 21, Body: 22, Slots: 39, Total: 49, Entries: 24, Room: 17},
		{Plan: greatest, Index: 5, Texts: 72, Clips: 112, Audits: 152, Head: 232, Body: 233, Slots: 349, Total: 549, Entries: 402, Room: 116},
	} {
		if l := of(t, want.Plan); l != want {
			t.Errorf("Of(%v) = %+v, want %+v", want.Plan, l, want)
		}
	}
}

func TestIndexHasTheFewestSectorsForTwoEntriesPerSlot(t *testing.T) {
	for _, c := range []struct{ slots, entries int }{
		{1, 6}, {2, 6}, {3, 6}, {4, 12}, {5, 12}, {6, 12}, {7, 18}, {10, 24}, {12, 24}, {13, 30}, {198, 396}, {199, 402}, {200, 402},
	} {
		l := of(t, api.Plan{Slots: c.slots, Texts: 2, Clips: 3, Audits: 4})
		if l.Entries != c.entries || l.Texts != 5+c.entries/6 || l.Room != c.entries/6+2+9 {
			t.Errorf("%d slots: %+v, want %d entries", c.slots, l, c.entries)
		}
	}
	plans(func(p api.Plan) {
		l := of(t, p)
		if l.Entries < 2*p.Slots || l.Entries-6 >= 2*p.Slots || l.Entries%6 != 0 {
			t.Errorf("%v: %d entries", p, l.Entries)
		}
	})
}

// wantPart checks where a part begins and how many sectors it has.
func wantPart(t *testing.T, p api.Plan, all []string, name string, first, n int) {
	t.Helper()
	if slices.Index(all, name) != first {
		t.Errorf("%v: %s begins at %d, want %d", p, name, first, slices.Index(all, name))
	}
	for i := range all {
		if (all[i] == name) != (i >= first && i < first+n) {
			t.Errorf("%v: %s from %d on has %d sectors, but sector %d is %s", p, name, first, n, i, all[i])
			return
		}
	}
}

func TestPartsFollowOneAnother(t *testing.T) {
	plans(func(p api.Plan) {
		l := of(t, p)
		all := names(p)
		if l.Plan != p || l.Total != len(all) {
			t.Errorf("Of(%v) = %+v, want %d sectors", p, l, len(all))
		}
		wantPart(t, p, all, "index", l.Index, l.Entries/6)
		wantPart(t, p, all, "text", l.Texts, p.Texts)
		wantPart(t, p, all, "clip", l.Clips, p.Clips)
		wantPart(t, p, all, "audit", l.Audits, p.Audits)
		wantPart(t, p, all, "head", l.Head, 1)
		wantPart(t, p, all, "body", l.Body, l.Room)
		wantPart(t, p, all, "slot", l.Slots, p.Slots)
	})
}

func TestPartNamesEverySector(t *testing.T) {
	plans(func(p api.Plan) {
		l := of(t, p)
		all := names(p)
		for at, want := range all {
			if got := l.Part(at); got != want {
				t.Errorf("%v: Part(%d) = %q, want %q", p, at, got, want)
			}
		}
		for _, at := range outside(len(all)) {
			if got := l.Part(at); got != "" {
				t.Errorf("%v: Part(%d) = %q, want none", p, at, got)
			}
		}
	})
}

func TestPartAtTheEndsOfEachPart(t *testing.T) {
	l := of(t, example)
	for _, c := range []struct {
		at   int
		want string
	}{
		{-1, ""}, {0, "super"}, {1, "super"}, {2, "state"}, {3, "map"}, {4, "classes"}, {5, "index"}, {8, "index"},
		{9, "text"}, {12, "text"}, {13, "clip"}, {15, "clip"}, {16, "audit"}, {20, "audit"}, {21, "head"},
		{22, "body"}, {38, "body"}, {39, "slot"}, {48, "slot"}, {49, ""},
	} {
		if got := l.Part(c.at); got != c.want {
			t.Errorf("Part(%d) = %q, want %q", c.at, got, c.want)
		}
	}
}

func TestEveryLayoutFitsOnADisk(t *testing.T) {
	for _, p := range []api.Plan{least, example, greatest} {
		l := of(t, p)
		d, code := disk.New(l.Total)
		if code != api.OK || d.Size() != l.Total {
			t.Errorf("%v: a disk of %d sectors: %d", p, l.Total, code)
		}
	}
}

func TestNoLayoutHasNoSectors(t *testing.T) {
	var l plan.Layout
	for _, at := range []int{-1, 0, 1, 2, 5} {
		if l.Part(at) != "" || l.Home(at) {
			t.Errorf("sector %d of no layout: %q, %v", at, l.Part(at), l.Home(at))
		}
	}
}

// Promise 7.3.

func TestHomeIsFromTheStateToTheLastAudit(t *testing.T) {
	home := []string{"state", "map", "classes", "index", "text", "clip", "audit"}
	plans(func(p api.Plan) {
		l := of(t, p)
		all := names(p)
		for at, name := range all {
			if got, want := l.Home(at), slices.Contains(home, name); got != want {
				t.Errorf("%v: Home(%d) = %v, want %v: %s", p, at, got, want, name)
			}
		}
		for _, at := range outside(len(all)) {
			if l.Home(at) {
				t.Errorf("%v: Home(%d) = true, but there is no such sector", p, at)
			}
		}
	})
}

func TestHomeAtItsEnds(t *testing.T) {
	l := of(t, example)
	for _, c := range []struct {
		at   int
		want bool
	}{{0, false}, {1, false}, {2, true}, {3, true}, {20, true}, {21, false}, {22, false}, {39, false}, {48, false}} {
		if got := l.Home(c.at); got != c.want {
			t.Errorf("Home(%d) = %v, want %v", c.at, got, c.want)
		}
	}
}

func TestBoundIsTheSlotsAndOne(t *testing.T) {
	plans(func(p api.Plan) {
		if got := of(t, p).Bound(); got != p.Slots+1 {
			t.Errorf("%v: Bound() = %d, want %d", p, got, p.Slots+1)
		}
	})
}

func TestSameOfOnePlan(t *testing.T) {
	plans(func(p api.Plan) {
		if !plan.Same(of(t, p), of(t, p)) {
			t.Errorf("%v: two layouts of it are not the same", p)
		}
	})
	if !plan.Same(plan.Layout{}, plan.Layout{}) {
		t.Error("no layout is not the same as none")
	}
}

func TestSameLooksAtEveryField(t *testing.T) {
	a := of(t, example)
	for i, change := range []func(l *plan.Layout){
		func(l *plan.Layout) { l.Plan.Slots++ },
		func(l *plan.Layout) { l.Plan.Texts++ },
		func(l *plan.Layout) { l.Plan.Clips++ },
		func(l *plan.Layout) { l.Plan.Audits++ },
		func(l *plan.Layout) { l.Index++ },
		func(l *plan.Layout) { l.Texts++ },
		func(l *plan.Layout) { l.Clips++ },
		func(l *plan.Layout) { l.Audits++ },
		func(l *plan.Layout) { l.Head++ },
		func(l *plan.Layout) { l.Body++ },
		func(l *plan.Layout) { l.Slots++ },
		func(l *plan.Layout) { l.Total++ },
		func(l *plan.Layout) { l.Entries++ },
		func(l *plan.Layout) { l.Room++ },
	} {
		b := a
		change(&b)
		if plan.Same(a, b) || plan.Same(b, a) {
			t.Errorf("change %d: %+v and %+v are the same", i, a, b)
		}
	}
}

func TestSameTellsPlansApart(t *testing.T) {
	a := of(t, example)
	// Each differs from the example in one number by one; the first has the same index.
	for _, p := range []api.Plan{
		{Slots: 11, Texts: 4, Clips: 3, Audits: 5},
		{Slots: 10, Texts: 5, Clips: 3, Audits: 5},
		{Slots: 10, Texts: 4, Clips: 4, Audits: 5},
		{Slots: 10, Texts: 4, Clips: 3, Audits: 6},
	} {
		if plan.Same(a, of(t, p)) || plan.Same(of(t, p), a) {
			t.Errorf("%v and %v have the same layout", example, p)
		}
	}
}
