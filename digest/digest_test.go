package digest_test

import (
	"bytes"
	"crypto/sha256"
	"encoding/hex"
	"math"
	"math/big"
	"math/rand"
	"strings"
	"testing"

	"mortmain/api"
	"mortmain/digest"
)

// mixed returns n bytes without a pattern.
func mixed(n int) []byte {
	b := make([]byte, n)
	rand.New(rand.NewSource(int64(n) + 3)).Read(b)
	return b
}

// address returns an address with the given first bytes and zeros behind them.
func address(first ...byte) api.Address {
	var a api.Address
	copy(a[:], first)
	return a
}

// reference computes the digest as promise 3.1 words it, with the state words and round constants worked out from primes.
func reference(message []byte) api.Address {
	p := append(bytes.Clone(message), 128)
	for len(p)%64 != 56 {
		p = append(p, 0)
	}
	for shift := 56; shift >= 0; shift -= 8 {
		p = append(p, byte(uint64(8*len(message))>>shift))
	}
	var state [8]uint32
	for i := range state {
		state[i] = rootBits(prime(i), 2)
	}
	for ; len(p) > 0; p = p[64:] {
		referenceBlock(&state, p[:64])
	}
	var out api.Address
	for i := range out {
		out[i] = byte(state[i/4] >> (24 - 8*(i%4)))
	}
	return out
}

func referenceBlock(state *[8]uint32, block []byte) {
	right := func(x uint32, n int) uint32 { return x>>n | x<<(32-n) }
	var w [64]uint32
	for i := range w {
		if i < 16 {
			w[i] = uint32(block[4*i])<<24 | uint32(block[4*i+1])<<16 | uint32(block[4*i+2])<<8 | uint32(block[4*i+3])
			continue
		}
		s0 := right(w[i-15], 7) ^ right(w[i-15], 18) ^ w[i-15]>>3
		s1 := right(w[i-2], 17) ^ right(w[i-2], 19) ^ w[i-2]>>10
		w[i] = w[i-16] + s0 + w[i-7] + s1
	}
	s := *state
	for i := range w {
		a, b, c, e, f, g, h := s[0], s[1], s[2], s[4], s[5], s[6], s[7]
		t := h + (right(e, 6) ^ right(e, 11) ^ right(e, 25)) + ((e & f) ^ (^e & g)) + rootBits(prime(i), 3) + w[i]
		u := (right(a, 2) ^ right(a, 13) ^ right(a, 22)) + ((a & b) ^ (a & c) ^ (b & c))
		copy(s[1:], s[:7])
		s[4] += t
		s[0] = t + u
	}
	for i := range s {
		state[i] += s[i]
	}
}

// prime returns the prime before which there are i others.
func prime(i int) int64 {
	for p := int64(2); ; p++ {
		if big.NewInt(p).ProbablyPrime(10) {
			if i == 0 {
				return p
			}
			i--
		}
	}
}

// rootBits returns the first 32 bits of the fractional part of the root of p of that degree: the lowest 32 bits of the whole root of p * 2^(32 * degree).
func rootBits(p int64, degree int) uint32 {
	goal := new(big.Int).Lsh(big.NewInt(p), uint(32*degree))
	root := new(big.Int)
	for bit := 40; bit >= 0; bit-- {
		more := new(big.Int).SetBit(root, bit, 1)
		if new(big.Int).Exp(more, big.NewInt(int64(degree)), nil).Cmp(goal) <= 0 {
			root = more
		}
	}
	return uint32(root.Uint64())
}

// Promise 3.1.

func TestOf(t *testing.T) {
	for _, c := range []struct{ s, want string }{
		{"abc", "ba7816bf8f01cfea414140de5dae2223b00361a396177a9cb410ff61f20015ad"},
		{"", "e3b0c44298fc1c149afbf4c8996fb92427ae41e4649b934ca495991b7852b855"},
		{"abcdbcdecdefdefgefghfghighijhijkijkljklmklmnlmnomnopnopq", "248d6a61d20638b8e5c026930c3e6039a33ce45964ff2167f6ecedd419db06c1"},
		{strings.Repeat("a", 1000000), "cdc76e5c9914fb9281a1c7e284d73e67f1809a48a497200e046d39ccc7112cd0"},
	} {
		if got := digest.Of([]byte(c.s)); hex.EncodeToString(got[:]) != c.want {
			t.Errorf("Of(%d bytes) = %x, want %s", len(c.s), got, c.want)
		}
	}
}

func TestOfAsWorded(t *testing.T) {
	for _, n := range []int{0, 1, 3, 55, 56, 63, 64, 119, 120, 128, 200} {
		b := mixed(n)
		if got, want := digest.Of(b), reference(b); got != want {
			t.Errorf("Of(%d bytes) = %x, want %x", n, got, want)
		}
	}
}

// The length decides where the padding begins and how many blocks it takes.
func TestOfEveryLength(t *testing.T) {
	for n := 0; n <= 400; n++ {
		for _, b := range [][]byte{mixed(n), make([]byte, n), bytes.Repeat([]byte{255}, n)} {
			if got, want := digest.Of(b), sha256.Sum256(b); got != want {
				t.Errorf("Of(%d bytes) = %x, want %x", n, got, want)
			}
		}
	}
	for _, n := range []int{1023, 2048, 1 << 16, 1<<20 + 1} {
		if got, want := digest.Of(mixed(n)), sha256.Sum256(mixed(n)); got != want {
			t.Errorf("Of(%d bytes) = %x, want %x", n, got, want)
		}
	}
}

// 2^29 bytes are the fewest whose number of bits does not fit in four bytes.
func TestLengthBeyondFourBytes(t *testing.T) {
	if testing.Short() {
		t.Skip("long message")
	}
	h, want := digest.New(), sha256.New()
	part := mixed(1 << 20)
	for range 1 << 9 {
		h.Add(part)
		want.Write(part)
	}
	if got := h.Sum(); !bytes.Equal(got[:], want.Sum(nil)) {
		t.Errorf("Sum of 2^29 bytes = %x", got)
	}
}

func TestOfNothing(t *testing.T) {
	want := sha256.Sum256(nil)
	for _, l := range [][][]byte{nil, {}, {nil}, {{}}, {nil, {}, nil}} {
		if got := digest.Of(l...); got != want {
			t.Errorf("Of(%v) = %x", l, got)
		}
	}
	if got := digest.Of(); got != want {
		t.Errorf("Of() = %x", got)
	}
}

func TestOfConcatenates(t *testing.T) {
	want := sha256.Sum256([]byte("abc"))
	for _, l := range [][][]byte{
		{[]byte("abc")},
		{[]byte("a"), []byte("bc")},
		{[]byte("ab"), []byte("c")},
		{[]byte("a"), []byte("b"), []byte("c")},
		{nil, []byte("a"), {}, []byte("bc"), nil},
	} {
		if got := digest.Of(l...); got != want {
			t.Errorf("Of(%q) = %x", l, got)
		}
	}
	if digest.Of([]byte("bc"), []byte("a")) == want {
		t.Error("Of does not depend on the order of its arguments")
	}
}

func TestOfKeepsItsArguments(t *testing.T) {
	b := []byte("abc and more")
	if got := digest.Of(b[:1], b[1:3]); got != sha256.Sum256([]byte("abc")) {
		t.Errorf("Of of the first three bytes = %x", got)
	}
	if string(b) != "abc and more" {
		t.Errorf("Of changed its argument to %q", b)
	}
}

func TestNewIsEmpty(t *testing.T) {
	if got := digest.New().Sum(); got != sha256.Sum256(nil) {
		t.Errorf("New().Sum() = %x", got)
	}
}

// A digest may be asked for at any length, without an effect on what follows.
func TestSumBetweenAdds(t *testing.T) {
	b := mixed(300)
	h := digest.New()
	for i := range b {
		for range 2 {
			if got, want := h.Sum(), sha256.Sum256(b[:i]); got != want {
				t.Fatalf("Sum after %d bytes = %x, want %x", i, got, want)
			}
		}
		h.Add(b[i : i+1])
	}
}

func TestAddOfNothing(t *testing.T) {
	h := digest.New()
	for _, part := range []string{"", "a", "", "bc", ""} {
		h.Add([]byte(part))
		h.Add(nil)
	}
	if got := h.Sum(); got != sha256.Sum256([]byte("abc")) {
		t.Errorf("Sum = %x", got)
	}
}

func TestAddKeepsNothing(t *testing.T) {
	for _, n := range []int{10, 64, 100, 128} {
		b := mixed(n + 5)
		h := digest.New()
		h.Add(b[:n])
		if !bytes.Equal(b, mixed(n+5)) {
			t.Errorf("Add changed its argument of %d bytes", n)
		}
		clear(b)
		if got, want := h.Sum(), sha256.Sum256(mixed(n + 5)[:n]); got != want {
			t.Errorf("a change of the %d bytes that were added is seen in the sum", n)
		}
	}
}

func TestHashesAreIndependent(t *testing.T) {
	one, other := digest.New(), digest.New()
	for i := range 200 {
		one.Add([]byte{byte(i)})
		other.Add([]byte{byte(i), 7})
	}
	var first, second []byte
	for i := range 200 {
		first = append(first, byte(i))
		second = append(second, byte(i), 7)
	}
	if one.Sum() != sha256.Sum256(first) || other.Sum() != sha256.Sum256(second) {
		t.Error("two hashes affect each other")
	}
}

// Promise 3.2.

func TestLess(t *testing.T) {
	last := address()
	last[31] = 1
	top := api.Address(bytes.Repeat([]byte{255}, 32))
	ordered := []api.Address{address(), last, address(0, 1), address(0, 255), address(1), address(1, 0, 1), address(1, 1), address(127, 255), address(128), address(255), top}
	for i, a := range ordered {
		for j, b := range ordered {
			if got := digest.Less(a, b); got != (i < j) {
				t.Errorf("Less(%x, %x) = %v", a, b, got)
			}
		}
	}
}

// Each byte decides if all before it are equal, whatever is behind it.
func TestLessByEachByte(t *testing.T) {
	for i := range 32 {
		a := api.Address(mixed(32))
		b := a
		a[i], b[i] = 127, 128
		for j := i + 1; j < 32; j++ {
			a[j], b[j] = 255, 0
		}
		if !digest.Less(a, b) || digest.Less(b, a) || digest.Less(a, a) {
			t.Errorf("the order of %x and %x is not that of byte %d", a, b, i)
		}
	}
}

func TestHome(t *testing.T) {
	six := address(1, 2, 3, 4, 5, 6)
	top := api.Address(bytes.Repeat([]byte{255}, 32))
	const number = 0x010203040506
	for _, c := range []struct {
		a        api.Address
		of, want int
	}{
		{six, 1, 0},
		{six, 2, 0},
		{six, 7, number % 7},
		{six, 1000, number % 1000},
		{six, 256, 6},
		{six, 1 << 40, 0x0203040506},
		{six, number - 1, 1},
		{six, number, 0},
		{six, number + 1, number},
		{six, math.MaxInt, number},
		{top, 1 << 48, 1<<48 - 1},
		{top, 1<<48 - 1, 0},
		{top, 10, (1<<48 - 1) % 10},
		{top, math.MaxInt, 1<<48 - 1},
		{address(), 10, 0},
		{address(128), math.MaxInt, 128 << 40},
		{address(0, 0, 0, 0, 0, 9), 10, 9},
		{address(0, 0, 0, 0, 0, 10), 10, 0},
		{address(0, 0, 0, 0, 0, 0, 255), 10, 0},
		{six, 0, 0},
		{six, -1, 0},
		{six, -7, 0},
		{top, -1000, 0},
		{six, math.MinInt, 0},
	} {
		if got := digest.Home(c.a, c.of); got != c.want {
			t.Errorf("Home(%x, %d) = %d, want %d", c.a, c.of, got, c.want)
		}
	}
}

func TestHomeIgnoresTheOtherBytes(t *testing.T) {
	a := api.Address(mixed(32))
	want := digest.Home(a, 1<<50)
	for i := 6; i < 32; i++ {
		b := a
		b[i] ^= 255
		if got := digest.Home(b, 1<<50); got != want {
			t.Errorf("byte %d changes the home from %d to %d", i, want, got)
		}
	}
}

// Promise 3.3.

func TestHex(t *testing.T) {
	var all api.Address
	for i := range all {
		all[i] = byte(8 * i)
	}
	for _, c := range []struct {
		a    api.Address
		want string
	}{
		{address(), strings.Repeat("0", 64)},
		{api.Address(bytes.Repeat([]byte{255}, 32)), strings.Repeat("f", 64)},
		{address(0x01, 0x23, 0x45, 0x67, 0x89, 0xab, 0xcd, 0xef), "0123456789abcdef" + strings.Repeat("0", 48)},
		{address(0x0a, 0xa0, 0x90), "0aa090" + strings.Repeat("0", 58)},
		{all, "0008101820283038404850586068707880889098a0a8b0b8c0c8d0d8e0e8f0f8"},
		{digest.Of([]byte("abc")), "ba7816bf8f01cfea414140de5dae2223b00361a396177a9cb410ff61f20015ad"},
	} {
		if got := digest.Hex(c.a); got != c.want {
			t.Errorf("Hex(%v) = %s, want %s", c.a, got, c.want)
		}
		if got, code := digest.Parse(c.want); got != c.a || code != api.OK {
			t.Errorf("Parse(%s) = %v, %d, want %v", c.want, got, code, c.a)
		}
	}
}

func TestParseIsTheInverseOfHex(t *testing.T) {
	for x := range 256 {
		for _, at := range []int{0, 15, 31} {
			a := api.Address(mixed(32))
			a[at] = byte(x)
			s := digest.Hex(a)
			if s != hex.EncodeToString(a[:]) {
				t.Errorf("Hex(%v) = %s", a, s)
			}
			if got, code := digest.Parse(s); got != a || code != api.OK {
				t.Errorf("Parse(%s) = %v, %d", s, got, code)
			}
		}
	}
}

func TestParseRejects(t *testing.T) {
	abc := digest.Hex(digest.Of([]byte("abc")))
	for _, c := range []struct{ name, s string }{
		{"empty", ""},
		{"two digits", "0a"},
		{"no digit", "0g"},
		{"a digit too few", abc[:63]},
		{"a byte too few", abc[:62]},
		{"a digit too many", abc + "0"},
		{"a byte too many", abc + "00"},
		{"twice", abc + abc},
		{"capitals", strings.ToUpper(abc)},
		{"one capital", "B" + abc[1:]},
		{"a space in front", " " + abc},
		{"a space for a digit", " " + abc[1:]},
		{"a line end", abc + "\n"},
		{"a sign", "+" + abc[1:]},
		{"a prefix", "0x" + abc[2:]},
		{"an underscore", abc[:10] + "_" + abc[11:]},
		{"no ASCII", "é" + abc[2:]},
		{"wide digits", strings.Repeat("０", 64)},
		{"zero bytes", strings.Repeat("\x00", 64)},
		{"high bytes", strings.Repeat("\xff", 64)},
		{"a fault at the end", abc[:63] + "g"},
		{"a fault in the last high digit", abc[:62] + "gd"},
	} {
		if got, code := digest.Parse(c.s); got != (api.Address{}) || code != api.ErrForm {
			t.Errorf("%s: Parse(%q) = %v, %d", c.name, c.s, got, code)
		}
	}
}

// Every byte is tried at every place: only the digits that Hex writes are accepted.
func TestParseEveryByte(t *testing.T) {
	for at := range 64 {
		for x := range 256 {
			s := []byte(digest.Hex(digest.Of([]byte("abc"))))
			s[at] = byte(x)
			a, code := digest.Parse(string(s))
			if strings.IndexByte("0123456789abcdef", byte(x)) >= 0 {
				if code != api.OK || digest.Hex(a) != string(s) {
					t.Errorf("Parse(%q) = %v, %d", s, a, code)
				}
			} else if code != api.ErrForm || a != (api.Address{}) {
				t.Errorf("Parse(%q) = %v, %d", s, a, code)
			}
		}
	}
}

// Promise 3.4.

func TestEverySplitInThree(t *testing.T) {
	b := mixed(150)
	want := sha256.Sum256(b)
	for i := 0; i <= len(b); i++ {
		for j := i; j <= len(b); j++ {
			h := digest.New()
			h.Add(b[:i])
			h.Add(b[i:j])
			h.Add(b[j:])
			if h.Sum() != want || digest.Of(b[:i], b[i:j], b[j:]) != want {
				t.Fatalf("the parts up to %d and %d change the sum", i, j)
			}
		}
	}
}

func TestPartsOfAnySize(t *testing.T) {
	r := rand.New(rand.NewSource(5))
	for range 200 {
		b := mixed(r.Intn(2000))
		h := digest.New()
		var parts [][]byte
		for rest := b; len(rest) > 0; {
			n := r.Intn(min(len(rest), 200) + 1)
			h.Add(rest[:n])
			parts = append(parts, rest[:n])
			rest = rest[n:]
		}
		if want := sha256.Sum256(b); h.Sum() != want || digest.Of(parts...) != want {
			t.Fatalf("parts of %d bytes change the sum", len(b))
		}
	}
}
