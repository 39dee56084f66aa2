package real_test

import (
	"math"
	"math/big"
	"math/rand"
	"slices"
	"testing"

	"mortmain/api"
	"mortmain/real"
)

var (
	inf     = math.Inf(1)
	nan     = math.NaN()
	minus0  = math.Copysign(0, -1)
	tiniest = math.SmallestNonzeroFloat64
	// The least number that is not subnormal, and the greatest one that is.
	least    = math.Ldexp(1, -1022)
	greatest = math.Nextafter(least, 0)
)

// oneNaN is what Bits returns for every NaN.
const oneNaN = 0x7ff8000000000001

// nans are bits of quiet and signalling NaNs with and without a sign: those at the ends of each range, and what 0 / 0 gives.
var nans = []uint64{
	0x7ff0000000000001, 0x7ff7ffffffffffff, 0x7ff8000000000000, oneNaN, 0x7fffffffffffffff,
	0xfff0000000000001, 0xfff7ffffffffffff, 0xfff8000000000000, 0xfff8000000000001, 0xffffffffffffffff,
}

// ascending returns the edges in the order of Compare, each once.
func ascending() []float64 {
	up := []float64{
		0, tiniest, 2 * tiniest, math.Nextafter(greatest, 0), greatest, least, math.Nextafter(least, 1),
		0.1, 0.5, math.Nextafter(1, 0), 1, math.Nextafter(1, 2), 1.5, 2, 3, 7.9, 10,
		1 << 40, math.Nextafter(1<<40, inf), 1 << 53, 1e300, math.Nextafter(math.MaxFloat64, 0), math.MaxFloat64, inf,
	}
	var l []float64
	for _, x := range slices.Backward(up) {
		l = append(l, math.Copysign(x, -1))
	}
	return append(append(l, up...), nan)
}

// samples returns the edges, several NaNs and numbers with random bits.
func samples() []float64 {
	l := ascending()
	for _, bits := range nans {
		l = append(l, math.Float64frombits(bits))
	}
	r := rand.New(rand.NewSource(4))
	for i := 0; i < 100; i++ {
		l = append(l, math.Float64frombits(r.Uint64()), r.NormFloat64(), float64(r.Intn(5)-2))
	}
	return l
}

// same is Same as promise 4.2 words it.
func same(x, y float64) bool {
	return math.IsNaN(x) && math.IsNaN(y) || math.Float64bits(x) == math.Float64bits(y)
}

// compare is Compare as promise 4.2 words it.
func compare(x, y float64) int {
	switch {
	case same(x, y):
		return 0
	case math.IsNaN(x):
		return 1
	case math.IsNaN(y):
		return -1
	case x == 0 && y == 0 && math.Signbit(x):
		return -1
	case x == 0 && y == 0:
		return 1
	case x < y:
		return -1
	}
	return 1
}

// Promise 4.1.

func TestKindsAreNumbered(t *testing.T) {
	if real.None != 0 || real.Endless != 1 || real.Nought != 2 || real.Tiny != 3 || real.Plain != 4 {
		t.Error("a kind has another number")
	}
}

func TestKind(t *testing.T) {
	for _, c := range []struct {
		x    float64
		kind int
	}{
		{inf, real.Endless},
		{0, real.Nought},
		{tiniest, real.Tiny},
		{2 * tiniest, real.Tiny},
		{1e-310, real.Tiny},
		{greatest, real.Tiny},
		{least, real.Plain},
		{math.Nextafter(least, 1), real.Plain},
		{0.1, real.Plain},
		{1, real.Plain},
		{2, real.Plain},
		{1e300, real.Plain},
		{math.MaxFloat64, real.Plain},
	} {
		if kind, below := real.Kind(c.x); kind != c.kind || below {
			t.Errorf("Kind(%g) = %d, %t, want %d", c.x, kind, below, c.kind)
		}
		if kind, below := real.Kind(-c.x); c.x != 0 && (kind != c.kind || !below) {
			t.Errorf("Kind(%g) = %d, %t, want %d", -c.x, kind, below, c.kind)
		}
	}
	if kind, below := real.Kind(minus0); kind != real.Nought || !below {
		t.Errorf("Kind(-0) = %d, %t", kind, below)
	}
}

func TestKindOfNaN(t *testing.T) {
	for _, bits := range nans {
		if kind, _ := real.Kind(math.Float64frombits(bits)); kind != real.None {
			t.Errorf("Kind(%#x) = %d", bits, kind)
		}
	}
}

// Each bit alone, and each exponent with each sign, decides as IEEE 754 says.
func TestKindOfBits(t *testing.T) {
	check := func(bits uint64) {
		exponent, fraction := bits>>52&0x7ff, bits&(1<<52-1)
		want := real.Plain
		switch {
		case exponent == 0x7ff && fraction != 0:
			want = real.None
		case exponent == 0x7ff:
			want = real.Endless
		case exponent == 0 && fraction != 0:
			want = real.Tiny
		case exponent == 0:
			want = real.Nought
		}
		kind, below := real.Kind(math.Float64frombits(bits))
		if kind != want || kind != real.None && below != (bits>>63 == 1) {
			t.Errorf("Kind(%#x) = %d, %t, want %d", bits, kind, below, want)
		}
	}
	for i := 0; i < 64; i++ {
		check(1 << i)
		check(1<<63 | 1<<i)
		check(^uint64(1 << i))
		check(0x7ff<<52 | 1<<i)
	}
	for top := uint64(0); top < 1<<12; top++ {
		check(top << 52)
		check(top<<52 | 1)
		check(top<<52 | (1<<52 - 1))
	}
}

func TestBits(t *testing.T) {
	for _, c := range []struct {
		x    float64
		want uint64
	}{
		{0, 0},
		{minus0, 1 << 63},
		{tiniest, 1},
		{-tiniest, 1<<63 | 1},
		{greatest, 0x000fffffffffffff},
		{least, 0x0010000000000000},
		{1, 0x3ff0000000000000},
		{-2, 0xc000000000000000},
		{0.1, 0x3fb999999999999a},
		{math.MaxFloat64, 0x7fefffffffffffff},
		{inf, 0x7ff0000000000000},
		{-inf, 0xfff0000000000000},
		{nan, oneNaN},
		{-nan, oneNaN},
		{inf - inf, oneNaN},
	} {
		if got := real.Bits(c.x); got != c.want {
			t.Errorf("Bits(%g) = %#x, want %#x", c.x, got, c.want)
		}
	}
}

func TestBitsOfNaN(t *testing.T) {
	for _, bits := range nans {
		if got := real.Bits(math.Float64frombits(bits)); got != oneNaN {
			t.Errorf("Bits(%#x) = %#x", bits, got)
		}
	}
}

func TestBitsOfOthersAreTheirOwn(t *testing.T) {
	for _, x := range samples() {
		if got, want := real.Bits(x), math.Float64bits(x); !math.IsNaN(x) && got != want {
			t.Errorf("Bits(%g) = %#x, want %#x", x, got, want)
		}
	}
}

// Promise 4.2.

func TestSame(t *testing.T) {
	l := samples()
	for _, x := range l {
		for _, y := range l {
			if got, want := real.Same(x, y), same(x, y); got != want {
				t.Errorf("Same(%g, %g) = %t", x, y, got)
			}
		}
	}
	if real.Same(0, minus0) || real.Same(minus0, 0) || real.Same(inf, -inf) || real.Same(inf, nan) {
		t.Error("different numbers are the same")
	}
	if !real.Same(nan, -nan) || !real.Same(minus0, minus0) || !real.Same(0, 0) || !real.Same(-inf, -inf) {
		t.Error("a number is not the same as itself")
	}
}

func TestSameOfNaNs(t *testing.T) {
	for _, a := range nans {
		for _, b := range nans {
			x, y := math.Float64frombits(a), math.Float64frombits(b)
			if !real.Same(x, y) || real.Compare(x, y) != 0 {
				t.Errorf("%#x and %#x are not the same", a, b)
			}
		}
	}
}

func TestCompareEdges(t *testing.T) {
	l := ascending()
	for i, x := range l {
		for k, y := range l {
			want := 0
			if i < k {
				want = -1
			} else if i > k {
				want = 1
			}
			if got := real.Compare(x, y); got != want {
				t.Errorf("Compare(%g, %g) = %d, want %d", x, y, got, want)
			}
		}
	}
}

func TestCompareAsWorded(t *testing.T) {
	l := samples()
	for _, x := range l {
		for _, y := range l {
			if got, want := real.Compare(x, y), compare(x, y); got != want {
				t.Errorf("Compare(%g, %g) = %d, want %d", x, y, got, want)
			}
		}
	}
}

func TestCompareNeighbours(t *testing.T) {
	r := rand.New(rand.NewSource(42))
	for i := 0; i < 10000; i++ {
		x := math.Float64frombits(r.Uint64())
		next := math.Nextafter(x, inf)
		if math.IsNaN(x) || x == inf {
			continue
		}
		if real.Compare(x, next) != -1 || real.Compare(next, x) != 1 {
			t.Errorf("Compare(%g, %g) = %d, and %d the other way round", x, next, real.Compare(x, next), real.Compare(next, x))
		}
	}
}

// Promise 4.3.

func TestPart(t *testing.T) {
	for _, c := range []struct {
		n, of int
		want  float64
	}{
		{1, 2, 0.5},
		{3, 4, 0.75},
		{1, 3, 0.333333333333333333333333333333},
		{10, 5, 2},
		{-1, 4, -0.25},
		{1, -4, -0.25},
		{-6, -4, 1.5},
		{0, 5, 0},
		{0, -5, minus0},
		{0, 0, nan},
		{1, 0, inf},
		{math.MaxInt, 0, inf},
		{-1, 0, -inf},
		{math.MinInt, 0, -inf},
		{api.MaxNum, 1, 1 << 40},
		// Both counts are rounded to float64 ahead of the division.
		{1<<53 + 1, 1, 1 << 53},
		{1<<53 + 3, 1, 1<<53 + 4},
		{1<<53 + 1, 1<<53 + 1, 1},
		{1<<53 + 1, 1 << 53, 1},
		{math.MaxInt, 1, 1 << 63},
		{math.MinInt, 1, -1 << 63},
		{math.MinInt, math.MaxInt, -1},
		{math.MinInt, -1, 1 << 63},
	} {
		if got := real.Part(c.n, c.of); !same(got, c.want) {
			t.Errorf("Part(%d, %d) = %g, want %g", c.n, c.of, got, c.want)
		}
	}
}

// The quotient of counts that float64 holds is the one nearest to their exact quotient.
func TestPartIsRoundedOnce(t *testing.T) {
	r := rand.New(rand.NewSource(43))
	for i := 0; i < 2000; i++ {
		n, of := r.Int63n(1<<53)-1<<52, r.Int63n(1<<(1+i%53))+1
		want, _ := big.NewRat(n, of).Float64()
		if got := real.Part(int(n), int(of)); got != want {
			t.Errorf("Part(%d, %d) = %g, want %g", n, of, got, want)
		}
	}
}

// Promise 4.4.

func TestWhole(t *testing.T) {
	for _, c := range []struct {
		x    float64
		want int
	}{
		{0, 0},
		{minus0, 0},
		{tiniest, 0},
		{-tiniest, 0},
		{0.5, 0},
		{-0.5, 0},
		{math.Nextafter(1, 0), 0},
		{math.Nextafter(-1, 0), 0},
		{1, 1},
		{-1, -1},
		{1.5, 1},
		{-1.5, -1},
		{2.5, 2},
		{7.9, 7},
		{-7.9, -7},
		{1 << 31, 1 << 31},
		{-1<<31 - 1.5, -1<<31 - 1},
		{1<<40 - 1, 1<<40 - 1},
		{1 << 40, 1 << 40},
		{-1 << 40, -1 << 40},
		{math.Nextafter(1<<40, 0), 1<<40 - 1},
		{math.Nextafter(-1<<40, 0), -1<<40 + 1},
	} {
		if n, code := real.Whole(c.x); n != c.want || code != api.OK {
			t.Errorf("Whole(%g) = %d, %d, want %d", c.x, n, code, c.want)
		}
	}
}

func TestWholeRejects(t *testing.T) {
	for _, bits := range nans {
		if n, code := real.Whole(math.Float64frombits(bits)); n != 0 || code != api.ErrArg {
			t.Errorf("Whole(%#x) = %d, %d", bits, n, code)
		}
	}
	for _, x := range []float64{math.Nextafter(1<<40, inf), 1<<40 + 0.5, 1<<40 + 1, 1 << 41, 1 << 62, 1 << 63, 1 << 64, 1e300, math.MaxFloat64, inf} {
		for _, y := range []float64{x, -x} {
			if n, code := real.Whole(y); n != 0 || code != api.ErrRange {
				t.Errorf("Whole(%g) = %d, %d", y, n, code)
			}
		}
	}
}

// Promise 4.5.

func TestSpan(t *testing.T) {
	for _, c := range []struct {
		l      []float64
		lo, hi float64
	}{
		{nil, inf, -inf},
		{[]float64{}, inf, -inf},
		{[]float64{nan}, inf, -inf},
		{[]float64{nan, -nan, nan}, inf, -inf},
		{[]float64{1}, 1, 1},
		{[]float64{-1}, -1, -1},
		{[]float64{inf}, inf, inf},
		{[]float64{-inf}, -inf, -inf},
		{[]float64{inf, nan}, inf, inf},
		{[]float64{nan, -inf}, -inf, -inf},
		{[]float64{inf, -inf}, -inf, inf},
		{[]float64{0}, 0, 0},
		{[]float64{minus0}, minus0, minus0},
		{[]float64{0, minus0}, minus0, 0},
		{[]float64{minus0, 0}, minus0, 0},
		{[]float64{tiniest, 0, -tiniest}, -tiniest, tiniest},
		{[]float64{nan, 3, 1, nan, 2, nan}, 1, 3},
		{[]float64{3, 2, 1}, 1, 3},
		{[]float64{1, 2, 3}, 1, 3},
		{[]float64{-3, -2, -1}, -3, -1},
		{[]float64{5, 5, 5}, 5, 5},
		{[]float64{math.MaxFloat64, -math.MaxFloat64}, -math.MaxFloat64, math.MaxFloat64},
	} {
		if lo, hi := real.Span(c.l); !same(lo, c.lo) || !same(hi, c.hi) {
			t.Errorf("Span(%g) = %g, %g, want %g, %g", c.l, lo, hi, c.lo, c.hi)
		}
	}
}

// The ends do not depend on the order of the elements, NaNs of all kinds among them.
func TestSpanOfAnyOrder(t *testing.T) {
	r := rand.New(rand.NewSource(44))
	all := samples()
	for n := 1; n < len(all); n++ {
		r.Shuffle(len(all), func(i, k int) { all[i], all[k] = all[k], all[i] })
		var numbers []float64
		for _, x := range all[:n] {
			if !math.IsNaN(x) {
				numbers = append(numbers, x)
			}
		}
		slices.SortFunc(numbers, compare)
		wantLo, wantHi := inf, -inf
		if len(numbers) > 0 {
			wantLo, wantHi = numbers[0], numbers[len(numbers)-1]
		}
		if lo, hi := real.Span(all[:n]); !same(lo, wantLo) || !same(hi, wantHi) {
			t.Errorf("Span of %d = %g, %g, want %g, %g", n, lo, hi, wantLo, wantHi)
		}
	}
}

func TestMean(t *testing.T) {
	for _, c := range []struct {
		l    []float64
		want float64
	}{
		{nil, nan},
		{[]float64{}, nan},
		{[]float64{7.5}, 7.5},
		{[]float64{1, 2}, 1.5},
		{[]float64{-1, -2, -3}, -2},
		{[]float64{1, 0, 0}, 0.333333333333333333333333333333},
		{[]float64{0}, 0},
		// 0 + -0 is 0: the sum begins with 0.
		{[]float64{minus0}, 0},
		{[]float64{minus0, minus0}, 0},
		{[]float64{1, -1}, 0},
		// The quotient is too small, and keeps its sign.
		{[]float64{-tiniest, minus0}, minus0},
		{[]float64{tiniest, 0}, 0},
		{[]float64{-tiniest}, -tiniest},
		{[]float64{inf, 1}, inf},
		{[]float64{1, -inf}, -inf},
		{[]float64{inf, -inf}, nan},
		{[]float64{1, nan, 2}, nan},
		{[]float64{nan, inf}, nan},
		// The sum is too large, though the mean would not be.
		{[]float64{math.MaxFloat64, math.MaxFloat64}, inf},
		{[]float64{math.MaxFloat64, math.MaxFloat64, -math.MaxFloat64}, inf},
		{[]float64{math.MaxFloat64, -math.MaxFloat64, math.MaxFloat64}, math.MaxFloat64 / 3},
		{[]float64{-math.MaxFloat64, -math.MaxFloat64, inf}, nan},
		// Each sum is rounded, so that the order counts.
		{[]float64{1 << 53, 1, 1, -1 << 53}, 0},
		{[]float64{1, 1, 1 << 53, -1 << 53}, 0.5},
		{[]float64{1, 1 << 53, -1 << 53, 1}, 0.25},
		{[]float64{0.1, 0.2, 0.3}, 0.20000000000000004},
		{[]float64{0.3, 0.2, 0.1}, 0.19999999999999998},
	} {
		if got := real.Mean(c.l); !same(got, c.want) {
			t.Errorf("Mean(%g) = %g, want %g", c.l, got, c.want)
		}
	}
}

// Each step as IEEE 754 says: the exact result, rounded to 53 bits.
func TestMeanIsRoundedAtEachStep(t *testing.T) {
	r := rand.New(rand.NewSource(45))
	for n := 1; n < 200; n++ {
		sum := new(big.Float).SetPrec(53)
		l := make([]float64, n)
		for i := range l {
			l[i] = math.Ldexp(r.NormFloat64(), r.Intn(60))
			sum.Add(sum, big.NewFloat(l[i]))
		}
		want, _ := sum.Quo(sum, big.NewFloat(float64(n))).Float64()
		if got := real.Mean(l); got != want {
			t.Errorf("Mean of %d = %g, want %g", n, got, want)
		}
	}
}

func TestListsAreReadOnly(t *testing.T) {
	all := []float64{3, 1, nan, 2, -100, 100}
	old := slices.Clone(all)
	if lo, hi := real.Span(all[:4]); lo != 1 || hi != 3 {
		t.Errorf("Span looks behind its argument: %g, %g", lo, hi)
	}
	if got := real.Mean(all[:2]); got != 2 {
		t.Errorf("Mean looks behind its argument: %g", got)
	}
	if !slices.EqualFunc(all, old, same) {
		t.Errorf("the argument was changed to %g", all)
	}
}

// Promise 4.6.

func TestClamp(t *testing.T) {
	for _, c := range []struct{ x, lo, hi, want float64 }{
		{5, 0, 10, 5},
		{-5, 0, 10, 0},
		{15, 0, 10, 10},
		{0, 0, 10, 0},
		{10, 0, 10, 10},
		{math.Nextafter(10, 11), 0, 10, 10},
		{-tiniest, 0, 10, 0},
		{5, 3, 3, 3},
		{1, 3, 3, 3},
		{3, 3, 3, 3},
		{inf, 0, 10, 10},
		{-inf, 0, 10, 0},
		{inf, -inf, inf, inf},
		{-inf, -inf, inf, -inf},
		{1, inf, inf, inf},
		{1, -inf, -inf, -inf},
		// The zeros are two numbers.
		{minus0, 0, 10, 0},
		{0, -10, minus0, minus0},
		{minus0, minus0, 0, minus0},
		{0, minus0, 0, 0},
		{0, minus0, minus0, minus0},
		{minus0, 0, 0, 0},
		{0, 0, minus0, nan},
		{5, 0, minus0, nan},
		// Without a range.
		{5, 10, 0, nan},
		{5, inf, -inf, nan},
		{nan, 10, 0, nan},
		// NaN is above all numbers, as an end of the range too.
		{nan, 0, 10, nan},
		{nan, -inf, inf, nan},
		{nan, 0, nan, nan},
		{nan, nan, nan, nan},
		{5, nan, 10, nan},
		{5, nan, inf, nan},
		{5, nan, nan, nan},
		{inf, nan, nan, nan},
		{5, 0, nan, 5},
		{-5, 0, nan, 0},
		{inf, 0, nan, inf},
		{1, inf, nan, inf},
	} {
		if got := real.Clamp(c.x, c.lo, c.hi); !same(got, c.want) {
			t.Errorf("Clamp(%g, %g, %g) = %g, want %g", c.x, c.lo, c.hi, got, c.want)
		}
	}
}

func TestClampAsWorded(t *testing.T) {
	l := ascending()
	for _, x := range l {
		for _, lo := range l {
			for _, hi := range l {
				want := x
				switch {
				case math.IsNaN(x) || compare(lo, hi) > 0:
					want = nan
				case compare(x, lo) < 0:
					want = lo
				case compare(x, hi) > 0:
					want = hi
				}
				if got := real.Clamp(x, lo, hi); !same(got, want) {
					t.Errorf("Clamp(%g, %g, %g) = %g, want %g", x, lo, hi, got, want)
				}
			}
		}
	}
}

// Promise 4.7.

func TestCompareIsATotalOrder(t *testing.T) {
	l := samples()
	for _, x := range l {
		for _, y := range l {
			c := real.Compare(x, y)
			if c < -1 || c > 1 || (c == 0) != real.Same(x, y) {
				t.Errorf("Compare(%g, %g) = %d", x, y, c)
			}
			if back := real.Compare(y, x); back != -c {
				t.Errorf("Compare(%g, %g) = %d, and %d the other way round", x, y, c, back)
			}
			for _, z := range l {
				if c <= 0 && real.Compare(y, z) <= 0 && real.Compare(x, z) > 0 {
					t.Fatalf("%g, %g, %g: the order is not transitive", x, y, z)
				}
			}
		}
	}
}

// What is the same cannot be told apart by comparing it.
func TestCompareOfTheSame(t *testing.T) {
	for _, a := range nans {
		for _, y := range samples() {
			if got, want := real.Compare(math.Float64frombits(a), y), real.Compare(nan, y); got != want {
				t.Errorf("Compare(%#x, %g) = %d, and %d of another NaN", a, y, got, want)
			}
		}
	}
}

func TestSortedByCompare(t *testing.T) {
	want := ascending()
	l := slices.Clone(want)
	r := rand.New(rand.NewSource(46))
	for i := 0; i < 50; i++ {
		r.Shuffle(len(l), func(i, k int) { l[i], l[k] = l[k], l[i] })
		slices.SortFunc(l, real.Compare)
		if !slices.EqualFunc(l, want, same) {
			t.Fatalf("sorted: %g", l)
		}
	}
}
