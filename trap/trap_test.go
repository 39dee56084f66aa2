package trap_test

import (
	"errors"
	"fmt"
	"math"
	"slices"
	"testing"

	"mortmain/api"
	"mortmain/trap"
)

// codes are all codes of api, and numbers beside them that Throw takes as well.
func codes() []api.Code {
	l := []api.Code{-1, 18, 1000, math.MinInt, math.MaxInt}
	for code := api.OK; code <= api.ErrPanic; code++ {
		l = append(l, code)
	}
	return l
}

// recovered calls f and returns the value that it panics with, and whether it returned, without package trap.
func recovered(f func()) (value any, returned bool) {
	defer func() {
		if !returned {
			value = recover()
		}
	}()
	f()
	return nil, true
}

type (
	// likeFault has the fields of a Fault.
	likeFault trap.Fault
	// moreThanFault has a Fault.
	moreThanFault struct{ trap.Fault }
	// faultError is an error that holds a Fault.
	faultError struct{ fault trap.Fault }
)

func (e faultError) Error() string { return fmt.Sprint(e.fault) }

// others are functions that panic with something that is no Fault.
func others() map[string]func() {
	var (
		none    []int
		noMap   map[string]int
		nowhere *trap.Fault
		nothing any
		noCall  func()
		closed  = make(chan int)
		zero    = len(none)
		minus   = zero - 1
	)
	close(closed)
	return map[string]func(){
		"string":             func() { panic("full") },
		"empty string":       func() { panic("") },
		"number":             func() { panic(6) },
		"nought":             func() { panic(0) },
		"code":               func() { panic(api.ErrFull) },
		"code OK":            func() { panic(api.OK) },
		"bool":               func() { panic(false) },
		"error":              func() { panic(errors.New("full")) },
		"error with a fault": func() { panic(faultError{trap.Fault{Code: api.ErrFull}}) },
		"pointer to a fault": func() { panic(&trap.Fault{Code: api.ErrFull}) },
		"nil pointer":        func() { panic(nowhere) },
		"like a fault":       func() { panic(likeFault{api.ErrFull}) },
		"unnamed struct":     func() { panic(struct{ Code api.Code }{api.ErrFull}) },
		"more than a fault":  func() { panic(moreThanFault{trap.Fault{Code: api.ErrFull}}) },
		"faults":             func() { panic([]trap.Fault{{Code: api.ErrFull}}) },
		"function":           func() { panic(func() {}) },
		"nil":                func() { panic(nil) },
		"nil interface":      func() { panic(nothing) },
		"index":              func() { none[zero] = 1 },
		"slice":              func() { none = none[zero : zero+1] },
		"nil map":            func() { noMap["a"] = 1 },
		"nil address":        func() { nowhere.Code = 1 },
		"nil call":           func() { noCall() },
		"division":           func() { none = make([]int, 1/zero) },
		"length":             func() { none = make([]int, minus) },
		"assertion":          func() { _ = nothing.(int) },
		"closed channel":     func() { close(closed) },
	}
}

// Promise 5.1.

func TestThrowPanicsWithFault(t *testing.T) {
	for _, code := range codes() {
		value, returned := recovered(func() { trap.Throw(code) })
		if value != (trap.Fault{Code: code}) || returned {
			t.Errorf("Throw(%d) panics with %#v, returns: %t", code, value, returned)
		}
	}
}

func TestMustPanicsWithFault(t *testing.T) {
	for _, code := range codes() {
		value, returned := recovered(func() { trap.Must(code) })
		switch {
		case code == api.OK:
			if value != nil || !returned {
				t.Errorf("Must(OK) panics with %#v", value)
			}
		case value != trap.Fault{Code: code} || returned:
			t.Errorf("Must(%d) panics with %#v, returns: %t", code, value, returned)
		}
	}
}

func TestCatchOfReturn(t *testing.T) {
	calls := 0
	if code := trap.Catch(func() { calls++ }); code != api.OK || calls != 1 {
		t.Errorf("Catch = %d after %d calls", code, calls)
	}
}

func TestCatchOfNil(t *testing.T) {
	if code := trap.Catch(nil); code != api.ErrArg {
		t.Errorf("Catch(nil) = %d", code)
	}
}

func TestCatchOfFault(t *testing.T) {
	for _, code := range codes() {
		for name, f := range map[string]func(){
			"Throw": func() { trap.Throw(code) },
			"Must":  func() { trap.Must(code) },
			"panic": func() { panic(trap.Fault{Code: code}) },
		} {
			calls := 0
			got := trap.Catch(func() { calls++; f() })
			if got != code || calls != 1 {
				t.Errorf("Catch of %s(%d) = %d after %d calls", name, code, got, calls)
			}
		}
	}
}

func TestCatchOfOtherPanics(t *testing.T) {
	for name, f := range others() {
		if code := trap.Catch(f); code != api.ErrPanic {
			t.Errorf("Catch of %s = %d", name, code)
		}
	}
}

// A program can be set to have recover return nil for a panic of nil, as it does where there is none.
func TestCatchOfNilThatLooksLikeNone(t *testing.T) {
	t.Setenv("GODEBUG", "panicnil=1")
	if value, returned := recovered(func() { panic(nil) }); value != nil || returned {
		t.Skip("this runtime has no such setting")
	}
	if code := trap.Catch(func() { panic(nil) }); code != api.ErrPanic {
		t.Errorf("Catch = %d", code)
	}
	if n, code := trap.Each(2, func(int) { panic(nil) }); n != 0 || code != api.ErrPanic {
		t.Errorf("Each = %d, %d", n, code)
	}
}

func TestCatchStopsWhatThrows(t *testing.T) {
	var steps []int
	deep := func() {
		defer func() { steps = append(steps, 2) }()
		steps = append(steps, 1)
		trap.Must(api.OK)
		trap.Must(api.ErrHeld)
		steps = append(steps, -1)
	}
	code := trap.Catch(func() {
		defer func() { steps = append(steps, 3) }()
		deep()
		steps = append(steps, -2)
	})
	if code != api.ErrHeld || !slices.Equal(steps, []int{1, 2, 3}) {
		t.Errorf("Catch = %d after the steps %d", code, steps)
	}
}

// Of the panics of f, the last one counts, and none that f recovers itself.
func TestCatchOfPanicUponPanic(t *testing.T) {
	for _, c := range []struct {
		last func()
		want api.Code
	}{
		{func() { trap.Throw(api.ErrKept) }, api.ErrKept},
		{func() { panic("again") }, api.ErrPanic},
		{func() { trap.Throw(api.OK) }, api.OK},
		{func() {}, api.ErrFull},
	} {
		code := trap.Catch(func() {
			defer func() { c.last() }()
			trap.Throw(api.ErrFull)
		})
		if code != c.want {
			t.Errorf("Catch = %d, want %d", code, c.want)
		}
	}
	code := trap.Catch(func() {
		defer func() { recover() }()
		trap.Throw(api.ErrFull)
	})
	if code != api.OK {
		t.Errorf("Catch of a panic that was recovered = %d", code)
	}
}

// Each Catch answers for its own function alone, whatever came ahead of it.
func TestCatchAgain(t *testing.T) {
	for range 3 {
		for _, code := range codes() {
			if got := trap.Catch(func() { trap.Throw(code) }); got != code {
				t.Errorf("Catch = %d, want %d", got, code)
			}
			if got := trap.Catch(func() {}); got != api.OK {
				t.Errorf("Catch = %d behind %d", got, code)
			}
		}
	}
}

// Promise 5.2.

// tryAs checks Try for a function that returns want, and for those that return nothing; same compares results.
func tryAs[T any](t *testing.T, want T, same func(a, b T) bool) {
	t.Helper()
	var zero T
	if out, code := trap.Try(func() T { return want }); !same(out, want) || code != api.OK {
		t.Errorf("Try = %v, %d, want %v", out, code, want)
	}
	if out, code := trap.Try[T](nil); !same(out, zero) || code != api.ErrArg {
		t.Errorf("Try(nil) = %v, %d", out, code)
	}
	for _, code := range codes() {
		out, got := trap.Try(func() (out T) {
			// What is set and not returned is no result.
			out = want
			trap.Throw(code)
			return out
		})
		if !same(out, zero) || got != code {
			t.Errorf("Try of Throw(%d) = %v, %d", code, out, got)
		}
	}
	for name, f := range others() {
		out, code := trap.Try(func() (out T) {
			out = want
			f()
			return out
		})
		if !same(out, zero) || code != api.ErrPanic {
			t.Errorf("Try of %s = %v, %d", name, out, code)
		}
	}
}

func equal[T comparable](a, b T) bool { return a == b }

func TestTry(t *testing.T) {
	tryAs(t, 7, equal)
	tryAs(t, 0, equal)
	tryAs(t, "x", equal)
	tryAs(t, "", equal)
	tryAs(t, 0.5, equal)
	tryAs(t, true, equal)
	tryAs(t, api.ErrKept, equal)
	tryAs(t, trap.Fault{Code: api.ErrKept}, equal)
	tryAs(t, api.Plan{Slots: 1, Texts: 2, Clips: 3, Audits: 4}, equal)
	tryAs(t, api.Sector{0: 1, 255: 2}, equal)
	tryAs(t, &api.Text{Size: 3}, equal)
	tryAs(t, struct{}{}, equal)
	tryAs(t, any("x"), equal)
	tryAs(t, any(nil), equal)
	tryAs(t, any(trap.Fault{Code: api.ErrKept}), equal)
	tryAs(t, error(faultError{}), equal)
	tryAs(t, []int{1, 2}, slices.Equal)
	tryAs(t, map[string]int{"a": 1}, func(a, b map[string]int) bool { return len(a) == len(b) && a["a"] == b["a"] })
	tryAs(t, func() {}, func(a, b func()) bool { return (a == nil) == (b == nil) })
}

func TestTryCallsOnce(t *testing.T) {
	calls := 0
	n, code := trap.Try(func() int { calls++; return calls })
	if n != 1 || code != api.OK || calls != 1 {
		t.Errorf("Try = %d, %d after %d calls", n, code, calls)
	}
	n, code = trap.Try(func() int { calls++; trap.Throw(api.ErrFull); return calls })
	if n != 0 || code != api.ErrFull || calls != 2 {
		t.Errorf("Try = %d, %d after %d calls", n, code, calls-1)
	}
}

// A function may set what it returns in a deferred function, even after its own panic.
func TestTryOfRecovered(t *testing.T) {
	s, code := trap.Try(func() (s string) {
		defer func() {
			recover()
			s = "late"
		}()
		trap.Throw(api.ErrFull)
		return "early"
	})
	if s != "late" || code != api.OK {
		t.Errorf("Try = %q, %d", s, code)
	}
}

// Promise 5.3.

// up returns the numbers from 0 to n-1.
func up(n int) []int {
	var l []int
	for i := 0; i < n; i++ {
		l = append(l, i)
	}
	return l
}

func TestEachOfReturns(t *testing.T) {
	for _, n := range []int{math.MinInt, -2, -1, 0, 1, 2, 5, 1000} {
		var seen []int
		got, code := trap.Each(n, func(i int) { seen = append(seen, i) })
		if got != max(n, 0) || code != api.OK || !slices.Equal(seen, up(n)) {
			t.Errorf("Each(%d) = %d, %d after %d", n, got, code, seen)
		}
	}
}

// A thrown OK ends the calls too: it is the panic that does, not its code.
func TestEachUpToFault(t *testing.T) {
	for _, code := range codes() {
		for _, n := range []int{1, 2, 5, 1000} {
			for at := 0; at < min(n, 5); at++ {
				var seen []int
				got, gotCode := trap.Each(n, func(i int) {
					seen = append(seen, i)
					if i >= at {
						trap.Throw(code)
					}
				})
				if got != at || gotCode != code || !slices.Equal(seen, up(at+1)) {
					t.Errorf("Each(%d) with Throw(%d) at %d = %d, %d after %d", n, code, at, got, gotCode, seen)
				}
			}
		}
	}
}

func TestEachUpToOtherPanics(t *testing.T) {
	for name, f := range others() {
		calls := 0
		n, code := trap.Each(5, func(i int) {
			calls++
			if i == 3 {
				f()
			}
		})
		if n != 3 || code != api.ErrPanic || calls != 4 {
			t.Errorf("Each with %s at 3 = %d, %d after %d calls", name, n, code, calls)
		}
	}
}

// The calls end at the panic, however many were still to come.
func TestEachOfMany(t *testing.T) {
	n, code := trap.Each(math.MaxInt, func(i int) {
		if i == 1000 {
			trap.Throw(api.ErrFull)
		}
	})
	if n != 1000 || code != api.ErrFull {
		t.Errorf("Each = %d, %d", n, code)
	}
}

// A function that is nil panics when it is called, and not before.
func TestEachOfNil(t *testing.T) {
	for n, want := range map[int]api.Code{-1: api.OK, 0: api.OK, 1: api.ErrPanic, 5: api.ErrPanic} {
		if got, code := trap.Each(n, nil); got != 0 || code != want {
			t.Errorf("Each(%d, nil) = %d, %d", n, got, code)
		}
	}
}

// steps returns functions that note their places and throw the codes; where a code is OK they return.
func steps(seen *[]int, l ...api.Code) []func() {
	var out []func()
	for i, code := range l {
		out = append(out, func() {
			*seen = append(*seen, i)
			trap.Must(code)
		})
	}
	return out
}

func TestFirst(t *testing.T) {
	for _, c := range []struct {
		codes []api.Code
		want  api.Code
		calls int
	}{
		{nil, api.OK, 0},
		{[]api.Code{api.OK}, api.OK, 1},
		{[]api.Code{api.ErrFull}, api.ErrFull, 1},
		{[]api.Code{api.OK, api.OK, api.OK}, api.OK, 3},
		{[]api.Code{api.OK, api.ErrKept, api.ErrFull}, api.ErrKept, 2},
		{[]api.Code{api.ErrKept, api.OK, api.ErrFull}, api.ErrKept, 1},
		{[]api.Code{api.OK, api.OK, api.ErrPanic}, api.ErrPanic, 3},
		{[]api.Code{api.OK, -1, api.ErrArg}, -1, 2},
	} {
		var seen []int
		l := steps(&seen, c.codes...)
		if code := trap.First(l...); code != c.want || !slices.Equal(seen, up(c.calls)) {
			t.Errorf("First of %d = %d after %d", c.codes, code, seen)
		}
	}
	if code := trap.First(); code != api.OK {
		t.Errorf("First() = %d", code)
	}
}

// To First, a thrown OK is a code like any other OK.
func TestFirstOfThrownOK(t *testing.T) {
	var seen []int
	l := steps(&seen, api.OK, api.OK, api.ErrName, api.ErrFull)
	code := trap.First(l[0], func() { trap.Throw(api.OK) }, l[1], l[2], l[3])
	if code != api.ErrName || !slices.Equal(seen, up(3)) {
		t.Errorf("First = %d after %d", code, seen)
	}
	if code := trap.First(func() { trap.Throw(api.OK) }); code != api.OK {
		t.Errorf("First = %d", code)
	}
}

func TestFirstOfNil(t *testing.T) {
	var seen []int
	l := steps(&seen, api.OK, api.OK)
	if code := trap.First(l[0], nil, l[1]); code != api.ErrArg || !slices.Equal(seen, up(1)) {
		t.Errorf("First = %d after %d", code, seen)
	}
	if code := trap.First(nil, l[0]); code != api.ErrArg || len(seen) != 1 {
		t.Errorf("First = %d after %d", code, seen)
	}
}

func TestFirstOfOtherPanics(t *testing.T) {
	for name, f := range others() {
		var seen []int
		l := steps(&seen, api.OK, api.ErrFull)
		if code := trap.First(l[0], f, l[1]); code != api.ErrPanic || !slices.Equal(seen, up(1)) {
			t.Errorf("First of %s = %d after %d", name, code, seen)
		}
	}
}

// The slice is not changed, and what is behind its length is not called.
func TestFirstLeavesItsSlice(t *testing.T) {
	var seen []int
	l := steps(&seen, api.OK, api.OK, api.ErrFull)
	if code := trap.First(l[:2]...); code != api.OK || !slices.Equal(seen, up(2)) {
		t.Errorf("First = %d after %d", code, seen)
	}
	for _, f := range l {
		trap.Catch(f)
	}
	if !slices.Equal(seen, []int{0, 1, 0, 1, 2}) {
		t.Errorf("the functions have other places: %d", seen)
	}
}

// Promise 5.4.

func TestAlwaysOfReturn(t *testing.T) {
	var seen []string
	value, returned := recovered(func() {
		trap.Always(func() { seen = append(seen, "f") }, func() { seen = append(seen, "last") })
		seen = append(seen, "behind")
	})
	if value != nil || !returned || !slices.Equal(seen, []string{"f", "last", "behind"}) {
		t.Errorf("Always panics with %v after %q", value, seen)
	}
}

func TestAlwaysOfPanic(t *testing.T) {
	mark := errors.New("mark")
	for _, want := range []any{trap.Fault{Code: api.ErrName}, trap.Fault{}, "full", 6, mark, &trap.Fault{}} {
		var seen []string
		value, returned := recovered(func() {
			trap.Always(func() {
				defer func() { seen = append(seen, "deferred") }()
				seen = append(seen, "f")
				panic(want)
			}, func() { seen = append(seen, "last") })
			seen = append(seen, "behind")
		})
		if value != want || returned || !slices.Equal(seen, []string{"f", "deferred", "last"}) {
			t.Errorf("Always of %v panics with %v after %q", want, value, seen)
		}
	}
}

func TestAlwaysOfOtherPanics(t *testing.T) {
	for name, f := range others() {
		calls := 0
		code := trap.Catch(func() { trap.Always(f, func() { calls++ }) })
		if code != api.ErrPanic || calls != 1 {
			t.Errorf("Always of %s throws %d after %d calls of last", name, code, calls)
		}
	}
}

// Whatever last does to find the panic of f: if it returns, the panic continues.
func TestAlwaysIsNotEndedByLast(t *testing.T) {
	for name, last := range map[string]func(){
		"recover":               func() { recover() },
		"recover when deferred": func() { defer func() { recover() }() },
		"recover after a panic": func() { defer func() { recover() }(); panic("own") },
		"Catch of return":       func() { trap.Catch(func() {}) },
		"Catch of recover":      func() { trap.Catch(func() { recover() }) },
		"Catch of a fault":      func() { trap.Catch(func() { trap.Throw(api.ErrFull) }) },
		"Try of a panic":        func() { trap.Try(func() int { panic("own") }) },
		"Each of faults":        func() { trap.Each(3, func(int) { trap.Throw(api.ErrFull) }) },
		"First of returns":      func() { trap.First(func() {}, func() {}) },
		"Always that is caught": func() { trap.Catch(func() { trap.Always(func() { panic("own") }, func() {}) }) },
		"Always that recovers":  func() { trap.Always(func() { recover() }, func() { recover() }) },
		"deferred Catch":        func() { defer trap.Catch(func() {}) },
		"deferred Catch, fault": func() { defer trap.Catch(func() { trap.Throw(api.ErrArg) }) },
	} {
		code := trap.Catch(func() { trap.Always(func() { trap.Throw(api.ErrName) }, last) })
		if code != api.ErrName {
			t.Errorf("last does %s: %d", name, code)
		}
	}
}

// A last that does not return has its own panic continue.
func TestAlwaysOfPanicOfLast(t *testing.T) {
	for name, f := range map[string]func(){
		"returns": func() {},
		"throws":  func() { trap.Throw(api.ErrName) },
		"panics":  func() { panic("f") },
	} {
		code := trap.Catch(func() { trap.Always(f, func() { trap.Throw(api.ErrHeld) }) })
		if code != api.ErrHeld {
			t.Errorf("f %s: %d", name, code)
		}
	}
}

func TestAlwaysWithinAlways(t *testing.T) {
	var seen []int
	note := func(i int) func() { return func() { seen = append(seen, i) } }
	code := trap.Catch(func() {
		trap.Always(func() {
			trap.Always(func() { trap.Throw(api.ErrState) }, note(1))
		}, func() {
			trap.Always(note(2), note(3))
		})
	})
	if code != api.ErrState || !slices.Equal(seen, []int{1, 2, 3}) {
		t.Errorf("%d after %d", code, seen)
	}
}

func TestInnerCatchHidesPanic(t *testing.T) {
	for _, code := range codes() {
		inner := api.Code(-7)
		outer := trap.Catch(func() {
			inner = trap.Catch(func() { trap.Throw(code) })
		})
		if inner != code || outer != api.OK {
			t.Errorf("inner %d, outer %d, want %d and OK", inner, outer, code)
		}
		outer = trap.Catch(func() { trap.Must(trap.Catch(func() { trap.Throw(code) })) })
		if outer != code {
			t.Errorf("thrown on: %d, want %d", outer, code)
		}
	}
	for name, f := range others() {
		inner := api.OK
		outer := trap.Catch(func() { inner = trap.Catch(f) })
		if inner != api.ErrPanic || outer != api.OK {
			t.Errorf("%s: inner %d, outer %d", name, inner, outer)
		}
	}
}

func TestOuterCatchSeesWhatFollows(t *testing.T) {
	outer := trap.Catch(func() {
		trap.Catch(func() { trap.Throw(api.ErrFull) })
		trap.Throw(api.ErrKept)
	})
	if outer != api.ErrKept {
		t.Errorf("outer %d", outer)
	}
}

// Catch does not recover a panic that was there before it was called.
func TestCatchWhilePanicking(t *testing.T) {
	for name, f := range map[string]func(){
		"returns": func() {},
		"throws":  func() { trap.Throw(api.ErrFull) },
		"panics":  func() { panic("own") },
	} {
		value, returned := recovered(func() {
			defer trap.Catch(f)
			defer func() { trap.Catch(f) }()
			panic("outer")
		})
		if value != "outer" || returned {
			t.Errorf("f %s: %v, returned: %t", name, value, returned)
		}
	}
}

// deepest is how many parts may be nested in one another (R7).
const deepest = 1 << 16

func TestNestedDeeply(t *testing.T) {
	calls := 0
	var catches, always func(n int)
	catches = func(n int) {
		if n == 0 {
			trap.Throw(api.ErrFull)
		}
		trap.Must(trap.Catch(func() { catches(n - 1) }))
	}
	always = func(n int) {
		if n == 0 {
			trap.Throw(api.ErrFull)
		}
		trap.Always(func() { always(n - 1) }, func() { calls++ })
	}
	if code := trap.Catch(func() { catches(deepest) }); code != api.ErrFull {
		t.Errorf("Catch = %d", code)
	}
	if code := trap.Catch(func() { always(deepest) }); code != api.ErrFull || calls != deepest {
		t.Errorf("Always throws %d after %d calls of last", code, calls)
	}
}
