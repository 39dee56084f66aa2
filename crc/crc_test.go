package crc_test

import (
	"bytes"
	"hash/crc32"
	"math/rand"
	"strings"
	"testing"

	"mortmain/crc"
)

// exponents are those of the dividing polynomial, as promise 2.1 lists them.
var exponents = []int{32, 26, 23, 22, 16, 12, 11, 10, 8, 7, 5, 4, 2, 1, 0}

// bitsOf returns the bits of b, the lowest of each byte first.
func bitsOf(b []byte) []int {
	var bits []int
	for _, x := range b {
		for i := 0; i < 8; i++ {
			bits = append(bits, int(x>>i)&1)
		}
	}
	return bits
}

// longDivision computes the sum as promise 2.1 words it: one list of bits, divided by hand.
func longDivision(b []byte) uint32 {
	bits := append(bitsOf(b), make([]int, 32)...)
	for i := 0; i < 32; i++ {
		bits[i] ^= 1
	}
	for i := 0; i+32 < len(bits); i++ {
		if bits[i] == 1 {
			for _, e := range exponents {
				bits[i+32-e] ^= 1
			}
		}
	}
	sum := uint32(0)
	for i, bit := range bits[len(bits)-32:] {
		sum |= uint32(bit^1) << i
	}
	return sum
}

// samples are byte strings of all small lengths, some regular and some mixed.
func samples() [][]byte {
	r := rand.New(rand.NewSource(2))
	list := [][]byte{nil, {}, []byte("123456789"), []byte("mortmain"), make([]byte, 256), bytes.Repeat([]byte{255}, 256)}
	for n := 0; n < 40; n++ {
		mixed := make([]byte, n)
		r.Read(mixed)
		list = append(list, mixed, make([]byte, n), bytes.Repeat([]byte{255}, n))
	}
	for _, n := range []int{255, 256, 257, 2048, 5000} {
		mixed := make([]byte, n)
		r.Read(mixed)
		list = append(list, mixed)
	}
	return list
}

// Promise 2.1.

func TestOf(t *testing.T) {
	for _, c := range []struct {
		s    string
		want uint32
	}{
		{"123456789", 0xcbf43926},
		{"", 0},
		{"a", 0xe8b7be43},
		{"abc", 0x352441c2},
		{"\x00", 0xd202ef8d},
		{"\xff", 0xff000000},
		{"\x00\x00\x00\x00", 0x2144df1c},
		{"\xff\xff\xff\xff", 0xffffffff},
		{strings.Repeat("\x00", 32), 0x190a55ad},
		{strings.Repeat("\xff", 32), 0xff6cab0b},
		{"The quick brown fox jumps over the lazy dog", 0x414fa339},
	} {
		if got := crc.Of([]byte(c.s)); got != c.want {
			t.Errorf("Of(%q) = %#x, want %#x", c.s, got, c.want)
		}
	}
}

func TestOfNil(t *testing.T) {
	if got := crc.Of(nil); got != 0 {
		t.Errorf("Of(nil) = %#x", got)
	}
}

func TestOfIsTheDivision(t *testing.T) {
	for _, b := range samples() {
		if got, want := crc.Of(b), longDivision(b); got != want {
			t.Errorf("Of(%v) = %#x, want %#x", b, got, want)
		}
	}
}

func TestOfEveryByte(t *testing.T) {
	for x := 0; x < 256; x++ {
		for _, b := range [][]byte{{byte(x)}, {1, 2, 3, 4, byte(x)}} {
			if got, want := crc.Of(b), longDivision(b); got != want {
				t.Errorf("Of(%v) = %#x, want %#x", b, got, want)
			}
		}
	}
}

func TestOfIsThatOfTheLibrary(t *testing.T) {
	b := make([]byte, 1<<20)
	rand.New(rand.NewSource(3)).Read(b)
	if got, want := crc.Of(b), crc32.ChecksumIEEE(b); got != want {
		t.Errorf("Of(a million bytes) = %#x, want %#x", got, want)
	}
}

func TestOfReadsOnlyItsArgument(t *testing.T) {
	b := []byte("123456789 and more")
	if got := crc.Of(b[:9]); got != 0xcbf43926 {
		t.Errorf("Of of the first nine bytes = %#x", got)
	}
	if string(b) != "123456789 and more" {
		t.Errorf("Of changed its argument to %q", b)
	}
}

// Promise 2.2.

func TestMore(t *testing.T) {
	for _, b := range samples() {
		for i := 0; i <= min(len(b), 40); i++ {
			if got, want := crc.More(crc.Of(b[:i]), b[i:]), crc.Of(b); got != want {
				t.Errorf("More after %d of %v = %#x, want %#x", i, b, got, want)
			}
		}
	}
}

func TestMoreOfNothing(t *testing.T) {
	for _, sum := range []uint32{0, 1, 0xcbf43926, 0x80000000, 0xffffffff} {
		if got := crc.More(sum, nil); got != sum {
			t.Errorf("More(%#x, nil) = %#x", sum, got)
		}
		if got := crc.More(sum, []byte{}); got != sum {
			t.Errorf("More(%#x, empty) = %#x", sum, got)
		}
	}
}

func TestMoreByteByByte(t *testing.T) {
	sum := crc.Of(nil)
	for _, x := range []byte("123456789") {
		sum = crc.More(sum, []byte{x})
	}
	if sum != 0xcbf43926 {
		t.Errorf("byte by byte: %#x", sum)
	}
}

// Every sum is that of some bytes, so More is specified for all of them.
func TestMoreOfAnySum(t *testing.T) {
	r := rand.New(rand.NewSource(4))
	for i := 0; i < 1000; i++ {
		sum, b := r.Uint32(), make([]byte, r.Intn(20))
		r.Read(b)
		if got, want := crc.More(sum, b), crc32.Update(sum, crc32.IEEETable, b); got != want {
			t.Errorf("More(%#x, %v) = %#x, want %#x", sum, b, got, want)
		}
	}
}

func TestMoreKeepsItsArgument(t *testing.T) {
	b := []byte("56789 and more")
	if got := crc.More(crc.Of([]byte("1234")), b[:5]); got != 0xcbf43926 {
		t.Errorf("More of the first five bytes = %#x", got)
	}
	if string(b) != "56789 and more" {
		t.Errorf("More changed its argument to %q", b)
	}
}

// Promise 2.3.

func TestFour(t *testing.T) {
	for _, c := range []struct {
		sum  uint32
		want [4]byte
	}{
		{0, [4]byte{}},
		{1, [4]byte{1, 0, 0, 0}},
		{0x04030201, [4]byte{1, 2, 3, 4}},
		{0xcbf43926, [4]byte{0x26, 0x39, 0xf4, 0xcb}},
		{0x80000000, [4]byte{0, 0, 0, 0x80}},
		{0xffffffff, [4]byte{255, 255, 255, 255}},
	} {
		if got := crc.Four(c.sum); got != c.want {
			t.Errorf("Four(%#x) = %v, want %v", c.sum, got, c.want)
		}
	}
}

func TestSealed(t *testing.T) {
	want := []byte("123456789\x26\x39\xf4\xcb")
	if got := crc.Sealed([]byte("123456789")); !bytes.Equal(got, want) {
		t.Errorf("Sealed = %v, want %v", got, want)
	}
	for _, b := range samples() {
		f := crc.Four(crc.Of(b))
		if got := crc.Sealed(b); len(got) != len(b)+4 || !bytes.Equal(got[:len(b)], b) || !bytes.Equal(got[len(b):], f[:]) {
			t.Errorf("Sealed(%v) = %v", b, got)
		}
	}
}

func TestSealedNothing(t *testing.T) {
	for _, b := range [][]byte{nil, {}} {
		if got := crc.Sealed(b); !bytes.Equal(got, []byte{0, 0, 0, 0}) {
			t.Errorf("Sealed(%v) = %v", b, got)
		}
	}
}

func TestSealedIsNewMemory(t *testing.T) {
	b := []byte("1234567890123")
	s := crc.Sealed(b[:9])
	if string(b) != "1234567890123" {
		t.Errorf("Sealed wrote behind its argument: %q", b)
	}
	s[0] = 'x'
	if b[0] != '1' {
		t.Error("a change of the result is seen in the argument")
	}
	b[1] = 'y'
	if s[1] != '2' {
		t.Error("a change of the argument is seen in the result")
	}
}

func TestHolds(t *testing.T) {
	for _, b := range samples() {
		if !crc.Holds(crc.Sealed(b)) {
			t.Errorf("Holds(Sealed(%v)) is false", b)
		}
	}
	twice := crc.Sealed(crc.Sealed([]byte("mortmain")))
	if !crc.Holds(twice) {
		t.Error("Holds is false for bytes that were sealed twice")
	}
}

func TestHoldsRejects(t *testing.T) {
	sealed := crc.Sealed([]byte("123456789"))
	for _, c := range []struct {
		name string
		b    []byte
	}{
		{"nil", nil},
		{"empty", []byte{}},
		{"one byte", []byte{0}},
		{"two bytes", []byte{0, 0}},
		{"three bytes", []byte{0, 0, 0}},
		{"another sum of nothing", []byte{0, 0, 0, 1}},
		{"a zero byte with sum 0", []byte{0, 0, 0, 0, 0}},
		{"no sum", []byte("123456789")},
		{"the sum alone", sealed[9:]},
		{"a byte too few", sealed[:12]},
		{"a byte too many", append(bytes.Clone(sealed), 0)},
		{"without the first byte", sealed[1:]},
		{"the sum with the highest byte first", []byte("123456789\xcb\xf4\x39\x26")},
		{"the sum in front", []byte("\x26\x39\xf4\xcb123456789")},
		{"the sum inverted", []byte("123456789\xd9\xc6\x0b\x34")},
		{"two bytes exchanged", []byte("213456789\x26\x39\xf4\xcb")},
	} {
		if crc.Holds(c.b) {
			t.Errorf("%s: Holds(%v) is true", c.name, c.b)
		}
	}
}

// Of five bytes, exactly one value of the last four is accepted behind the first.
func TestHoldsOneSum(t *testing.T) {
	for x := 0; x < 256; x++ {
		f := crc.Four(longDivision([]byte{byte(x)}))
		b := append([]byte{byte(x)}, f[:]...)
		if !crc.Holds(b) {
			t.Errorf("Holds(%v) is false", b)
		}
		for i := 1; i < len(b); i++ {
			for d := 1; d < 256; d++ {
				b[i] ^= byte(d)
				if crc.Holds(b) {
					t.Errorf("Holds(%v) is true", b)
				}
				b[i] ^= byte(d)
			}
		}
	}
}

func TestHoldsReadsOnlyItsArgument(t *testing.T) {
	b := append(crc.Sealed([]byte("mortmain")), 1, 2, 3)
	old := bytes.Clone(b)
	if !crc.Holds(b[:12]) || crc.Holds(b) {
		t.Error("Holds looks behind its argument")
	}
	if !bytes.Equal(b, old) {
		t.Error("Holds changed its argument")
	}
}

// Promise 2.4.

// invert inverts the bits of b, counted from the lowest of its first byte, where burst has ones.
func invert(b []byte, at int, burst uint32) []byte {
	out := bytes.Clone(b)
	for i := 0; i < 32; i++ {
		if burst>>i&1 == 1 && at+i < 8*len(b) {
			out[(at+i)/8] ^= 1 << ((at + i) % 8)
		}
	}
	return out
}

func TestBurstsAreSeen(t *testing.T) {
	r := rand.New(rand.NewSource(5))
	for _, b := range [][]byte{nil, []byte("m"), []byte("mortmain"), make([]byte, 20), bytes.Repeat([]byte{255}, 60)} {
		s := crc.Sealed(b)
		for at := 0; at < 8*len(s); at++ {
			// The lowest bit of a burst is set, so that every change is a change.
			bursts := []uint32{1, 3, 1 | 1<<31, 0xffffffff, 0xedb88321, 0x04c11db7, 0x82608edb}
			for i := 0; i < 30; i++ {
				bursts = append(bursts, r.Uint32()|1)
			}
			for _, burst := range bursts {
				if crc.Holds(invert(s, at, burst)) {
					t.Errorf("a change %#x of %v at bit %d is not seen", burst, s, at)
				}
			}
		}
	}
}

// The bound is sharp: the 33 bits of the polynomial itself leave the sum right, so 32 is no accident of a stricter check.
func TestALongerBurstMayPass(t *testing.T) {
	s := crc.Sealed([]byte("mortmain"))
	for _, e := range exponents {
		bit := 8 + 32 - e
		s[bit/8] ^= 1 << (bit % 8)
	}
	if !crc.Holds(s) {
		t.Error("a multiple of the polynomial was added, and Holds is false")
	}
}
