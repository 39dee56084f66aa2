package word_test

import (
	"bytes"
	"math"
	"strings"
	"testing"

	"mortmain/api"
	"mortmain/word"
)

// Promise 1.1.

func TestPut(t *testing.T) {
	for _, c := range []struct {
		n    uint64
		size int
		want []byte
	}{
		{513, 3, []byte{1, 2, 0}},
		{513, 2, []byte{1, 2}},
		{513, 1, []byte{1}},
		{0, 2, []byte{0, 0}},
		{256, 1, []byte{0}},
		{0x0807060504030201, 8, []byte{1, 2, 3, 4, 5, 6, 7, 8}},
		{0x0807060504030201, 7, []byte{1, 2, 3, 4, 5, 6, 7}},
		{0x0807060504030201, 9, []byte{1, 2, 3, 4, 5, 6, 7, 8, 0}},
		{math.MaxUint64, 11, []byte{255, 255, 255, 255, 255, 255, 255, 255, 0, 0, 0}},
		{513, 0, nil},
		{513, -1, nil},
		{513, math.MinInt, nil},
	} {
		if got := word.Put(c.n, c.size); !bytes.Equal(got, c.want) {
			t.Errorf("Put(%d, %d) = %v, want %v", c.n, c.size, got, c.want)
		}
	}
}

func TestPutManyBytes(t *testing.T) {
	b := word.Put(math.MaxUint64, 1000)
	if len(b) != 1000 || !bytes.Equal(b[:8], bytes.Repeat([]byte{255}, 8)) || !word.Zero(b[8:]) {
		t.Errorf("Put(max, 1000) = %v", b)
	}
}

func TestGet(t *testing.T) {
	for _, c := range []struct {
		b    []byte
		want uint64
	}{
		{nil, 0},
		{[]byte{}, 0},
		{[]byte{7}, 7},
		{[]byte{1, 2, 0}, 513},
		{[]byte{0, 0, 255}, 255 << 16},
		{[]byte{1, 2, 3, 4, 5, 6, 7}, 0x07060504030201},
		{[]byte{1, 2, 3, 4, 5, 6, 7, 8}, 0x0807060504030201},
		{[]byte{1, 2, 3, 4, 5, 6, 7, 8, 9}, 0x0807060504030201},
		{[]byte{0, 0, 0, 0, 0, 0, 0, 0, 1, 1}, 0},
		{bytes.Repeat([]byte{255}, 300), math.MaxUint64},
	} {
		if got := word.Get(c.b); got != c.want {
			t.Errorf("Get(%v) = %x, want %x", c.b, got, c.want)
		}
	}
}

func TestGetReadsOnlyItsArgument(t *testing.T) {
	b := []byte{1, 2, 3, 4}
	if got := word.Get(b[:2]); got != 513 {
		t.Errorf("Get of the first two bytes = %x", got)
	}
}

// Promise 1.2.

func TestPad(t *testing.T) {
	for _, c := range []struct {
		s    string
		size int
		want []byte
	}{
		{"ab", 4, []byte{2, 'a', 'b', 0}},
		{"ab", 3, []byte{2, 'a', 'b'}},
		{"", 1, []byte{0}},
		{"", 3, []byte{0, 0, 0}},
		{"", 256, make([]byte, 256)},
		{"\x00", 3, []byte{1, 0, 0}},
		{"é", 4, []byte{2, 0xc3, 0xa9, 0}},
		{"\xff\xfe", 3, []byte{2, 0xff, 0xfe}},
		{strings.Repeat("x", 255), 256, append([]byte{255}, strings.Repeat("x", 255)...)},
	} {
		got, code := word.Pad(c.s, c.size)
		if code != api.OK || !bytes.Equal(got, c.want) {
			t.Errorf("Pad(%q, %d) = %v, %d, want %v", c.s, c.size, got, code, c.want)
		}
	}
}

func TestPadRejects(t *testing.T) {
	long := strings.Repeat("x", 256)
	for _, c := range []struct {
		s    string
		size int
		want api.Code
	}{
		{"", 0, api.ErrRange},
		{"", -1, api.ErrRange},
		{"", math.MinInt, api.ErrRange},
		{"", 257, api.ErrRange},
		{"", math.MaxInt, api.ErrRange},
		// Both codes apply, and the range is mentioned first.
		{"a", 0, api.ErrRange},
		{long + "y", 257, api.ErrRange},
		{"a", 1, api.ErrSize},
		{"ab", 2, api.ErrSize},
		{"abcd", 4, api.ErrSize},
		{long, 255, api.ErrSize},
		{long, 256, api.ErrSize},
		{long + long, 256, api.ErrSize},
	} {
		got, code := word.Pad(c.s, c.size)
		if code != c.want || len(got) != 0 {
			t.Errorf("Pad(%d bytes, %d) = %v, %d, want code %d", len(c.s), c.size, got, code, c.want)
		}
	}
}

func TestUnpad(t *testing.T) {
	long := strings.Repeat("x", 255)
	for _, c := range []struct {
		b    []byte
		want string
	}{
		{[]byte{0}, ""},
		{[]byte{0, 0, 0}, ""},
		{[]byte{2, 'a', 'b'}, "ab"},
		{[]byte{2, 'a', 'b', 0}, "ab"},
		{[]byte{1, 0, 0}, "\x00"},
		{[]byte{2, 0, 'a', 0}, "\x00a"},
		{[]byte{2, 0xff, 0xfe}, "\xff\xfe"},
		{append([]byte{255}, long...), long},
		{append(append([]byte{255}, long...), make([]byte, 100)...), long},
		{make([]byte, 1000), ""},
	} {
		got, code := word.Unpad(c.b)
		if code != api.OK || got != c.want {
			t.Errorf("Unpad(%v) = %q, %d, want %q", c.b, got, code, c.want)
		}
	}
}

func TestUnpadRejects(t *testing.T) {
	for _, b := range [][]byte{
		nil,
		{},
		{1},
		{2, 'a'},
		{255, 'a', 'b'},
		append([]byte{255}, make([]byte, 254)...),
		{0, 1},
		{1, 'a', 1},
		{1, 'a', 0, 0, 1},
		append(make([]byte, 400), 1),
	} {
		if got, code := word.Unpad(b); code != api.ErrForm || got != "" {
			t.Errorf("Unpad(%v) = %q, %d, want ErrForm", b, got, code)
		}
	}
}

func TestUnpadReadsOnlyItsArgument(t *testing.T) {
	b := []byte{2, 'a', 'b', 9}
	if got, code := word.Unpad(b[:3]); code != api.OK || got != "ab" {
		t.Errorf("Unpad of the first three bytes = %q, %d", got, code)
	}
	if got, code := word.Unpad(b[:2]); code != api.ErrForm || got != "" {
		t.Errorf("Unpad of the first two bytes = %q, %d, want ErrForm", got, code)
	}
}

func TestUnpadKeepsItsResult(t *testing.T) {
	b := []byte{2, 'a', 'b'}
	s, _ := word.Unpad(b)
	b[1] = 'x'
	if s != "ab" {
		t.Errorf("the string changed to %q with the bytes", s)
	}
}

// Promise 1.3.

func TestZero(t *testing.T) {
	for _, c := range []struct {
		b    []byte
		want bool
	}{
		{nil, true},
		{[]byte{}, true},
		{[]byte{0}, true},
		{make([]byte, 1000), true},
		{[]byte{1}, false},
		{[]byte{128, 0, 0}, false},
		{[]byte{0, 1, 0}, false},
		{append(make([]byte, 999), 255), false},
		{[]byte{0, 0, 1}[:2], true},
	} {
		if got := word.Zero(c.b); got != c.want {
			t.Errorf("Zero(%v) = %v", c.b, got)
		}
	}
}

// counting returns n bytes, none of which is 0.
func counting(n int) []byte {
	b := make([]byte, n)
	for i := range b {
		b[i] = byte(i%255) + 1
	}
	return b
}

func TestWhole(t *testing.T) {
	for _, n := range []int{0, 1, 3, 255, 256, 257, 600} {
		b := counting(n)
		kept := min(n, api.SectorSize)
		got := word.Whole(b)
		if !bytes.Equal(got[:kept], b[:kept]) || !word.Zero(got[kept:]) {
			t.Errorf("Whole of %d bytes = %v", n, got)
		}
	}
	if word.Whole(nil) != (api.Sector{}) {
		t.Error("Whole(nil) is not all zeros")
	}
	if got := word.Whole(counting(10)[:3]); got != (api.Sector{1, 2, 3}) {
		t.Errorf("Whole of the first three bytes = %v", got)
	}
}

// Promise 1.4.

func TestBytesInOrder(t *testing.T) {
	c := word.From([]byte{1, 2, 3, 4, 5})
	for _, want := range [][]byte{{1, 2}, {}, {3}, {4, 5}, {}} {
		if got := c.Bytes(len(want)); !bytes.Equal(got, want) || !c.Right() {
			t.Fatalf("Bytes(%d) = %v, valid %v, want %v", len(want), got, c.Right(), want)
		}
	}
	if !c.Rest() {
		t.Error("Rest is false at the end")
	}
}

func TestBytesOfManyBytes(t *testing.T) {
	// Only an invalid cursor is bound to 256 bytes.
	b := counting(1000)
	c := word.From(b)
	if got := c.Bytes(700); !bytes.Equal(got, b[:700]) || !c.Right() {
		t.Errorf("Bytes(700) returned %d bytes, valid %v", len(got), c.Right())
	}
	if got := c.Bytes(300); !bytes.Equal(got, b[700:]) || !c.Right() {
		t.Errorf("Bytes(300) returned %d bytes, valid %v", len(got), c.Right())
	}
}

func TestBytesAtTheEnd(t *testing.T) {
	c := word.From([]byte{1, 2, 3})
	if got := c.Bytes(3); !bytes.Equal(got, []byte{1, 2, 3}) || !c.Right() {
		t.Errorf("Bytes of exactly what remains = %v, valid %v", got, c.Right())
	}
	c = word.From([]byte{1, 2, 3})
	if got := c.Bytes(4); !bytes.Equal(got, make([]byte, 4)) || c.Right() {
		t.Errorf("Bytes of one more = %v, valid %v", got, c.Right())
	}
	c = word.From([]byte{1, 2, 3})
	c.Bytes(2)
	if got := c.Bytes(2); !bytes.Equal(got, make([]byte, 2)) || c.Right() {
		t.Errorf("Bytes of one more than the last = %v, valid %v", got, c.Right())
	}
	c = word.From(nil)
	if got := c.Bytes(0); len(got) != 0 || !c.Right() {
		t.Errorf("Bytes(0) of nothing = %v, valid %v", got, c.Right())
	}
	if got := c.Bytes(1); !bytes.Equal(got, []byte{0}) || c.Right() {
		t.Errorf("Bytes(1) of nothing = %v, valid %v", got, c.Right())
	}
}

// sizes are the sizes that an invalid cursor is asked for, and the number of zero bytes that it returns.
var sizes = []struct{ n, want int }{
	{0, 0}, {-1, 0}, {math.MinInt, 0}, {1, 1}, {2, 2}, {255, 255}, {256, 256}, {257, 256}, {1000, 256}, {math.MaxInt, 256},
}

func TestBytesOnInvalidCursor(t *testing.T) {
	b := counting(3)
	for _, s := range sizes {
		c := word.From(b)
		c.Bytes(4)
		if got := c.Bytes(s.n); len(got) != s.want || !word.Zero(got) || c.Right() {
			t.Errorf("Bytes(%d) of an invalid cursor = %v, valid %v", s.n, got, c.Right())
		}
	}
}

func TestBytesMakesCursorInvalid(t *testing.T) {
	b := counting(3)
	for _, s := range sizes {
		if s.n >= 0 && s.n <= len(b) {
			continue
		}
		c := word.From(b)
		if got := c.Bytes(s.n); len(got) != s.want || !word.Zero(got) || c.Right() {
			t.Errorf("Bytes(%d) of three bytes = %v, valid %v", s.n, got, c.Right())
		}
		if got := c.Bytes(1); !bytes.Equal(got, []byte{0}) || c.Right() {
			t.Errorf("after Bytes(%d), Bytes(1) = %v, valid %v", s.n, got, c.Right())
		}
	}
}

func TestNum(t *testing.T) {
	c := word.From([]byte{1, 2, 0, 7, 1, 2, 3, 4, 5, 6, 7, 8, 9, 6, 255})
	for _, s := range []struct {
		size int
		want uint64
	}{{3, 513}, {0, 0}, {1, 7}, {9, 0x0807060504030201}, {1, 6}, {1, 255}} {
		if got := c.Num(s.size); got != s.want || !c.Right() {
			t.Errorf("Num(%d) = %x, valid %v, want %x", s.size, got, c.Right(), s.want)
		}
	}
	if !c.Rest() {
		t.Error("Rest is false at the end")
	}
}

func TestNumInvalid(t *testing.T) {
	for _, size := range []int{-1, math.MinInt, 4, 300, math.MaxInt} {
		c := word.From([]byte{1, 2, 3})
		if got := c.Num(size); got != 0 || c.Right() {
			t.Errorf("Num(%d) of three bytes = %x, valid %v", size, got, c.Right())
		}
		if got := c.Num(1); got != 0 || c.Right() {
			t.Errorf("Num(1) of an invalid cursor = %x, valid %v", got, c.Right())
		}
	}
}

func TestText(t *testing.T) {
	c := word.From([]byte{2, 'a', 'b', 0, 0, 0, 1, 'c', 0})
	for _, s := range []struct {
		size int
		want string
	}{{4, "ab"}, {2, ""}, {2, "c"}, {1, ""}} {
		if got := c.Text(s.size); got != s.want || !c.Right() {
			t.Errorf("Text(%d) = %q, valid %v, want %q", s.size, got, c.Right(), s.want)
		}
	}
}

func TestTextLongerThanAnyPaddedField(t *testing.T) {
	long := strings.Repeat("x", 255)
	field := make([]byte, 300)
	field[0] = 255
	copy(field[1:], long)
	c := word.From(field)
	if got := c.Text(300); got != long || !c.Right() {
		t.Errorf("Text(300) = %q, valid %v", got, c.Right())
	}
}

func TestTextInvalidField(t *testing.T) {
	for _, field := range [][]byte{{}, {1}, {3, 'a', 'b'}, {1, 'a', 1}, {0, 1}} {
		c := word.From(append(bytes.Clone(field), 1, 'z'))
		if got := c.Text(len(field)); got != "" || c.Right() || c.Rest() {
			t.Errorf("Text of %v = %q, valid %v", field, got, c.Right())
		}
		if got := c.Text(2); got != "" || c.Right() {
			t.Errorf("Text behind %v = %q, valid %v", field, got, c.Right())
		}
		if got := c.Bytes(2); !bytes.Equal(got, []byte{0, 0}) {
			t.Errorf("Bytes behind %v = %v", field, got)
		}
	}
}

func TestTextOnInvalidCursor(t *testing.T) {
	for _, size := range []int{math.MinInt, -1, 0, 1, 2, 256, 257, math.MaxInt} {
		c := word.From([]byte{1, 'a'})
		c.Bytes(3)
		if got := c.Text(size); got != "" || c.Right() {
			t.Errorf("Text(%d) of an invalid cursor = %q, valid %v", size, got, c.Right())
		}
	}
}

func TestTextThatIsNotThere(t *testing.T) {
	for _, size := range []int{math.MinInt, -1, 3, 300, math.MaxInt} {
		c := word.From([]byte{1, 'a'})
		if got := c.Text(size); got != "" || c.Right() {
			t.Errorf("Text(%d) of two bytes = %q, valid %v", size, got, c.Right())
		}
	}
}

func TestRest(t *testing.T) {
	for _, c := range []struct {
		b    []byte
		read int
		want bool
	}{
		{nil, 0, true},
		{[]byte{0, 0}, 0, true},
		{[]byte{5, 0, 0}, 1, true},
		{[]byte{5, 0, 0}, 3, true},
		{[]byte{5, 0, 0}, 0, false},
		{[]byte{5, 0, 1}, 1, false},
		{[]byte{5, 0, 1}, 2, false},
		{[]byte{5, 0, 1}, 3, true},
		{[]byte{0, 0, 0}, 4, false},
		{[]byte{0, 0, 0}, -1, false},
		{[]byte{5, 0, 1}[:2], 1, true},
	} {
		cursor := word.From(c.b)
		cursor.Bytes(c.read)
		if got := cursor.Rest(); got != c.want {
			t.Errorf("Rest behind %d bytes of %v = %v", c.read, c.b, got)
		}
	}
}

func TestRestDoesNotAdvance(t *testing.T) {
	c := word.From([]byte{0, 7})
	if c.Rest() || !c.Right() {
		t.Error("Rest of 0, 7")
	}
	if got := c.Bytes(2); !bytes.Equal(got, []byte{0, 7}) || !c.Rest() || !c.Rest() {
		t.Errorf("Bytes(2) = %v after Rest", got)
	}
}

func TestInvalidCursorStaysSo(t *testing.T) {
	c := word.From([]byte{0, 0, 0})
	c.Bytes(-1)
	c.Bytes(0)
	c.Num(1)
	c.Text(1)
	if c.Right() || c.Rest() {
		t.Error("the cursor became valid again")
	}
}

func TestCursorReadsOnlyItsArgument(t *testing.T) {
	b := []byte{1, 2, 3, 4}
	c := word.From(b[:2])
	if got := c.Bytes(3); !word.Zero(got) || c.Right() {
		t.Errorf("Bytes(3) of the first two bytes = %v, valid %v", got, c.Right())
	}
}

// A cursor shares no memory with its argument, and its results share none with it.
func TestCursorSharesNoMemory(t *testing.T) {
	b := []byte{1, 2, 3, 4}
	c := word.From(b)
	b[0], b[2] = 9, 9
	first := c.Bytes(2)
	if !bytes.Equal(first, []byte{1, 2}) {
		t.Errorf("Bytes(2) = %v after a write to the argument", first)
	}
	first[0] = 8
	_ = append(first, 8, 8)
	if got := c.Bytes(2); !bytes.Equal(got, []byte{3, 4}) {
		t.Errorf("Bytes(2) = %v after a write to the result before", got)
	}
	if !bytes.Equal(b, []byte{9, 2, 9, 4}) {
		t.Errorf("the argument became %v", b)
	}
}

func TestArgumentsStayAsTheyAre(t *testing.T) {
	b := []byte{2, 'a', 'b', 0, 7}
	word.Get(b)
	word.Unpad(b)
	word.Zero(b)
	word.Whole(b)
	c := word.From(b)
	c.Text(4)
	c.Num(1)
	c.Bytes(9)
	if !bytes.Equal(b, []byte{2, 'a', 'b', 0, 7}) {
		t.Errorf("the argument became %v", b)
	}
}

// Promise 1.5.

func TestNumbersBack(t *testing.T) {
	for size := 1; size <= 10; size++ {
		top := uint64(math.MaxUint64)
		if size < 8 {
			top = 1<<(8*size) - 1
		}
		for _, n := range []uint64{0, 1, 127, 128, 255, top / 3, top / 2, top - 1, top} {
			if got := word.Get(word.Put(n, size)); got != n {
				t.Errorf("%d in %d bytes came back as %d", n, size, got)
			}
		}
	}
}

func TestStringsBack(t *testing.T) {
	for _, size := range []int{1, 2, 16, 32, 255, 256} {
		for n := range size {
			s := string(counting(n))
			b, code := word.Pad(s, size)
			if code != api.OK || len(b) != size {
				t.Fatalf("Pad(%d bytes, %d): %d bytes, code %d", n, size, len(b), code)
			}
			if got, code := word.Unpad(b); code != api.OK || got != s {
				t.Errorf("a string of %d bytes in %d came back as %q, code %d", n, size, got, code)
			}
		}
	}
}

func TestSequenceBack(t *testing.T) {
	type pair struct {
		n    uint64
		size int
		s    string
		room int
	}
	pairs := []pair{
		{0, 1, "", 1}, {513, 3, "court", 16}, {1 << 40, 6, "\x00\x00", 3},
		{math.MaxUint64, 8, strings.Repeat("y", 255), 256}, {12, 10, "clause", 7}, {255, 1, "", 9},
	}
	var b []byte
	for _, p := range pairs {
		b = append(b, word.Put(p.n, p.size)...)
		field, code := word.Pad(p.s, p.room)
		if code != api.OK {
			t.Fatalf("Pad(%q, %d): %d", p.s, p.room, code)
		}
		b = append(b, field...)
	}
	b = append(b, 0, 0, 0)
	c := word.From(b)
	for _, p := range pairs {
		if got := c.Num(p.size); got != p.n {
			t.Errorf("%d came back as %d", p.n, got)
		}
		if got := c.Text(p.room); got != p.s {
			t.Errorf("%q came back as %q", p.s, got)
		}
	}
	if !c.Right() || !c.Rest() {
		t.Error("the cursor is not valid at the end")
	}
}

// The same bytes are the encoding of one string only: what Unpad accepts, Pad makes.
func TestOneEncoding(t *testing.T) {
	for size := 1; size <= 3; size++ {
		for n := range 1 << (8 * size) {
			if size == 3 && n%7 != 0 {
				continue
			}
			b := word.Put(uint64(n), size)
			s, code := word.Unpad(b)
			if code != api.OK {
				continue
			}
			if again, code := word.Pad(s, size); code != api.OK || !bytes.Equal(again, b) {
				t.Fatalf("%v is %q, whose encoding is %v", b, s, again)
			}
		}
	}
}
