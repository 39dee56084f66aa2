package chunk_test

import (
	"bytes"
	"crypto/sha256"
	"encoding/hex"
	"iter"
	"math"
	"math/rand"
	"slices"
	"testing"

	"mortmain/api"
	"mortmain/chunk"
)

// Limits as the document gives them.
const (
	mostChunks = 8
	mostBytes  = 2048
)

// mixed returns n bytes without a pattern.
func mixed(n int) []byte {
	b := make([]byte, n)
	rand.New(rand.NewSource(int64(n) + 13)).Read(b)
	return b
}

// pieces returns the chunks of b as the document words them: the first 256 bytes, the next ones, and what remains.
func pieces(b []byte) [][]byte {
	var l [][]byte
	for len(b) > 256 {
		l = append(l, bytes.Clone(b[:256]))
		b = b[256:]
	}
	if len(b) > 0 {
		l = append(l, bytes.Clone(b))
	}
	return l
}

// addressOf returns the digest that 13.3 words for a chunk.
func addressOf(c []byte) api.Address {
	return sha256.Sum256(append([]byte("chunk"), c...))
}

// addressesOf returns the digests of the chunks of b.
func addressesOf(b []byte) []api.Address {
	var l []api.Address
	for _, c := range pieces(b) {
		l = append(l, addressOf(c))
	}
	return l
}

// listAddress returns the digest that 13.3 words for a text, whose length in four bytes is given.
func listAddress(length [4]byte, l []api.Address) api.Address {
	b := append([]byte("text"), length[:]...)
	for _, a := range l {
		b = append(b, a[:]...)
	}
	return sha256.Sum256(b)
}

// textAddress returns the digest that 13.3 words for b.
func textAddress(b []byte) api.Address {
	n := len(b)
	return listAddress([4]byte{byte(n), byte(n >> 8), byte(n >> 16), byte(n >> 24)}, addressesOf(b))
}

// sectorsOf returns the sectors of the chunks of b.
func sectorsOf(b []byte) []api.Sector {
	var l []api.Sector
	for _, c := range pieces(b) {
		var x api.Sector
		copy(x[:], c)
		l = append(l, x)
	}
	return l
}

// texts returns texts of every length up to some bytes more than a text may have, and longer ones.
func texts() [][]byte {
	var l [][]byte
	for n := range mostBytes + 300 {
		l = append(l, mixed(n))
	}
	return append(l, mixed(4095), mixed(4096), mixed(4097), mixed(70000))
}

// numbered is what an iterator over chunks gives in one turn.
type numbered struct {
	number int
	bytes  []byte
}

// collect returns what an iterator gives.
func collect(seq iter.Seq2[int, []byte]) []numbered {
	var l []numbered
	for i, c := range seq {
		l = append(l, numbered{i, c})
	}
	return l
}

// wantAll checks that an iterator gives the chunks of b.
func wantAll(t *testing.T, seq iter.Seq2[int, []byte], b []byte) {
	t.Helper()
	wantTurns(t, collect(seq), pieces(b))
}

// wantTurns checks that an iterator gave those chunks, numbered from 0 on.
func wantTurns(t *testing.T, got []numbered, want [][]byte) {
	t.Helper()
	if len(got) != len(want) {
		t.Fatalf("there were %d chunks, want %d", len(got), len(want))
	}
	for i, x := range got {
		if x.number != i || !bytes.Equal(x.bytes, want[i]) {
			t.Fatalf("chunk %d has number %d and bytes %v, want %v", i, x.number, x.bytes, want[i])
		}
	}
}

// wantSplit checks that b is split into its chunks.
func wantSplit(t *testing.T, b []byte) {
	t.Helper()
	if got := chunk.Split(b); !slices.EqualFunc(got, pieces(b), bytes.Equal) {
		t.Fatalf("Split of %d bytes = %v", len(b), got)
	}
}

// wantJoin checks that sectors are joined to b.
func wantJoin(t *testing.T, l []api.Sector, b []byte) {
	t.Helper()
	if got, code := chunk.Join(len(b), l); code != api.OK || !bytes.Equal(got, b) {
		t.Fatalf("Join(%d, %d sectors) = %v, %d, want %v", len(b), len(l), got, code, b)
	}
}

// wantNoJoin checks that Join returns a code and no bytes.
func wantNoJoin(t *testing.T, size int, l []api.Sector, want api.Code) {
	t.Helper()
	if got, code := chunk.Join(size, l); code != want || len(got) != 0 {
		t.Fatalf("Join(%d, %d sectors) = %v, %d, want code %d", size, len(l), got, code, want)
	}
}

// Promise 13.1.

func TestLimits(t *testing.T) {
	if chunk.MaxChunks != mostChunks || chunk.MaxText != mostBytes {
		t.Errorf("MaxChunks, MaxText = %d, %d", chunk.MaxChunks, chunk.MaxText)
	}
}

func TestCheck(t *testing.T) {
	for n := range 2*mostBytes + 2 {
		want := api.OK
		if n == 0 {
			want = api.ErrArg
		} else if n > 2048 {
			want = api.ErrSize
		}
		for _, b := range [][]byte{make([]byte, n), mixed(n)} {
			if got := chunk.Check(b); got != want {
				t.Errorf("Check of %d bytes = %d, want %d", n, got, want)
			}
		}
	}
}

func TestCheckOfNil(t *testing.T) {
	if got := chunk.Check(nil); got != api.ErrArg {
		t.Errorf("Check(nil) = %d, want ErrArg", got)
	}
}

func TestCheckOfManyBytes(t *testing.T) {
	for _, n := range []int{65535, 65536, 65537, 65536 + 2048, 1 << 20} {
		if got := chunk.Check(make([]byte, n)); got != api.ErrSize {
			t.Errorf("Check of %d bytes = %d, want ErrSize", n, got)
		}
	}
}

func TestCheckCountsOnlyItsArgument(t *testing.T) {
	b := mixed(5000)
	for n, want := range map[int]api.Code{0: api.ErrArg, 1: api.OK, 2048: api.OK, 2049: api.ErrSize} {
		if got := chunk.Check(b[:n]); got != want {
			t.Errorf("Check of the first %d bytes = %d, want %d", n, got, want)
		}
	}
}

// Promise 13.2.

func TestCount(t *testing.T) {
	for _, c := range []struct{ size, want int }{
		{math.MinInt, 0}, {math.MinInt + 1, 0}, {-1 << 32, 0}, {-513, 0}, {-512, 0}, {-257, 0}, {-256, 0}, {-255, 0}, {-2, 0}, {-1, 0}, {0, 0},
		{1, 1}, {2, 1}, {255, 1}, {256, 1}, {257, 2}, {300, 2}, {511, 2}, {512, 2}, {513, 3},
		{1792, 7}, {1793, 8}, {2047, 8}, {2048, 8}, {2049, 9}, {2304, 9}, {2305, 10},
		{1<<31 - 1, 1 << 23}, {1 << 31, 1 << 23}, {1<<31 + 1, 1<<23 + 1}, {1 << 40, 1 << 32},
		{math.MaxInt - 256, 1<<55 - 1}, {math.MaxInt - 255, 1<<55 - 1}, {math.MaxInt - 254, 1 << 55}, {math.MaxInt - 1, 1 << 55}, {math.MaxInt, 1 << 55},
	} {
		if got := chunk.Count(c.size); got != c.want {
			t.Errorf("Count(%d) = %d, want %d", c.size, got, c.want)
		}
	}
}

func TestCountOfEachLength(t *testing.T) {
	for _, b := range texts() {
		if got, want := chunk.Count(len(b)), len(pieces(b)); got != want {
			t.Errorf("Count(%d) = %d, want %d", len(b), got, want)
		}
	}
}

func TestPartOfEachChunk(t *testing.T) {
	for _, b := range texts() {
		l := pieces(b)
		for i := range l {
			if got := chunk.Part(len(b), i); got != len(l[i]) {
				t.Errorf("Part(%d, %d) = %d, want %d", len(b), i, got, len(l[i]))
			}
		}
	}
}

func TestPartOfNoChunk(t *testing.T) {
	for size := range 3000 {
		count := (size + 255) / 256
		// Times 256, some of these numbers are 0 or 256 modulo 2^64.
		for _, i := range []int{count, count + 1, 2 * count, 100, 1 << 32, 1 << 55, 1 << 56, 1<<56 + 1, 1 << 62, math.MaxInt, -1, -2, -count, -256, -1 << 55, -1 << 56, 1 - 1<<56, math.MinInt, math.MinInt + 1} {
			if i >= 0 && i < count {
				continue
			}
			if got := chunk.Part(size, i); got != 0 {
				t.Fatalf("Part(%d, %d) = %d, want 0", size, i, got)
			}
		}
	}
}

func TestPartOfNoText(t *testing.T) {
	for _, size := range []int{0, -1, -2, -255, -256, -257, -2048, -1 << 56, math.MinInt, math.MinInt + 1} {
		for _, i := range []int{0, 1, 2, 7, 8, 1 << 55, 1 << 56, math.MaxInt, -1, -2, -8, -1 << 55, -1 << 56, math.MinInt, math.MinInt + 1} {
			if got := chunk.Part(size, i); got != 0 {
				t.Errorf("Part(%d, %d) = %d, want 0", size, i, got)
			}
		}
	}
}

func TestPartOfTheGreatestSizes(t *testing.T) {
	for _, c := range []struct{ size, i, want int }{
		{math.MaxInt, 0, 256}, {math.MaxInt, 1, 256}, {math.MaxInt, 1<<55 - 2, 256}, {math.MaxInt, 1<<55 - 1, 255}, {math.MaxInt, 1 << 55, 0}, {math.MaxInt, 1<<55 + 1, 0},
		{math.MaxInt, 1 << 56, 0}, {math.MaxInt, math.MaxInt, 0}, {math.MaxInt, -1, 0}, {math.MaxInt, math.MinInt, 0},
		{math.MaxInt - 254, 1<<55 - 1, 1}, {math.MaxInt - 255, 1<<55 - 1, 0}, {math.MaxInt - 255, 1<<55 - 2, 256}, {math.MaxInt - 256, 1<<55 - 2, 255},
	} {
		if got := chunk.Part(c.size, c.i); got != c.want {
			t.Errorf("Part(%d, %d) = %d, want %d", c.size, c.i, got, c.want)
		}
	}
}

// The example of the chapter, written out.
func TestThreeHundredBytes(t *testing.T) {
	b := mixed(300)
	l := chunk.Split(b)
	if chunk.Count(300) != 2 || chunk.Part(300, 0) != 256 || chunk.Part(300, 1) != 44 || chunk.Part(300, 2) != 0 {
		t.Errorf("300 bytes have %d chunks of %d, %d and %d bytes", chunk.Count(300), chunk.Part(300, 0), chunk.Part(300, 1), chunk.Part(300, 2))
	}
	if len(l) != 2 || !bytes.Equal(l[0], b[:256]) || !bytes.Equal(l[1], b[256:]) {
		t.Errorf("Split of 300 bytes = %v", l)
	}
}

func TestSplitEachLength(t *testing.T) {
	for _, b := range texts() {
		wantSplit(t, b)
	}
}

func TestSplitOfNothing(t *testing.T) {
	if l := chunk.Split(nil); len(l) != 0 {
		t.Errorf("Split(nil) = %v", l)
	}
}

func TestSplitReadsOnlyItsArgument(t *testing.T) {
	b := mixed(5000)
	for _, n := range []int{0, 1, 255, 256, 257, 512, 700} {
		if got, want := chunk.Split(b[:n]), pieces(mixed(5000)[:n]); !slices.EqualFunc(got, want, bytes.Equal) {
			t.Errorf("Split of the first %d bytes = %v", n, got)
		}
	}
}

// spoil writes to every byte of the chunks, and behind them as far as their memory reaches.
func spoil(l [][]byte) {
	for _, c := range l {
		for i := range c {
			c[i]++
		}
		c = c[:cap(c)]
		for i := range c {
			c[i] ^= 255
		}
	}
}

func TestSplitReturnsNewMemory(t *testing.T) {
	for _, n := range []int{1, 44, 256, 300, 512, 700, 2048} {
		b := mixed(n)
		l := chunk.Split(b)
		spoil(l)
		if !bytes.Equal(b, mixed(n)) {
			t.Errorf("%d bytes changed with their chunks", n)
		}
		wantSplit(t, b)
		l = chunk.Split(b)
		clear(b)
		if !slices.EqualFunc(l, pieces(mixed(n)), bytes.Equal) {
			t.Errorf("the chunks of %d bytes changed with them", n)
		}
	}
}

func TestChunksShareNoMemory(t *testing.T) {
	for i := range 3 {
		l := chunk.Split(mixed(700))
		spoil(l[i : i+1])
		want := pieces(mixed(700))
		for j := range l {
			if j != i && !bytes.Equal(l[j], want[j]) {
				t.Errorf("chunk %d changed with chunk %d", j, i)
			}
		}
	}
}

func TestAllOfEachLength(t *testing.T) {
	for _, b := range texts() {
		wantAll(t, chunk.All(b), b)
	}
}

func TestAllOfNothing(t *testing.T) {
	for _, b := range [][]byte{nil, {}, mixed(10)[:0]} {
		seq := chunk.All(b)
		if seq == nil {
			t.Fatal("All of no bytes is nil")
		}
		wantAll(t, seq, nil)
	}
}

func TestAllEndsWhenItsLoopDoes(t *testing.T) {
	b := mixed(2000)
	for stop := 1; stop <= 8; stop++ {
		var got []numbered
		for i, c := range chunk.All(b) {
			if got = append(got, numbered{i, c}); len(got) == stop {
				break
			}
		}
		wantTurns(t, got, pieces(b)[:stop])
	}
}

// An iterator that goes on behind the end of its loop would make the program panic, so it is called by hand, too.
func TestAllCallsNoEndedLoop(t *testing.T) {
	for stop := 1; stop <= 8; stop++ {
		calls := 0
		chunk.All(mixed(2000))(func(int, []byte) bool {
			calls++
			return calls < stop
		})
		if calls != stop {
			t.Errorf("the loop was called %d times, want %d", calls, stop)
		}
	}
}

func TestAllCanBeRangedAgain(t *testing.T) {
	b := mixed(1000)
	seq := chunk.All(b)
	for range seq {
		break
	}
	for range 3 {
		wantAll(t, seq, b)
	}
}

func TestAllCanBeRangedWithinItsLoop(t *testing.T) {
	b := mixed(1000)
	seq := chunk.All(b)
	var got []numbered
	for i, c := range seq {
		wantAll(t, seq, b)
		got = append(got, numbered{i, c})
	}
	wantTurns(t, got, pieces(b))
}

func TestAllStaysWhenTheTextChanges(t *testing.T) {
	for _, n := range []int{1, 256, 300, 700, 2048} {
		b := mixed(n)
		seq := chunk.All(b)
		clear(b)
		wantAll(t, seq, mixed(n))
	}
}

func TestTheTextMayChangeWithinALoop(t *testing.T) {
	b := mixed(700)
	var got []numbered
	for i, c := range chunk.All(b) {
		clear(b)
		got = append(got, numbered{i, c})
	}
	wantTurns(t, got, pieces(mixed(700)))
}

func TestAllGivesNewMemory(t *testing.T) {
	b := mixed(700)
	seq := chunk.All(b)
	for _, c := range seq {
		spoil([][]byte{c})
	}
	if !bytes.Equal(b, mixed(700)) {
		t.Error("the text changed with its chunks")
	}
	wantAll(t, seq, mixed(700))
	first := collect(seq)
	for _, x := range collect(seq) {
		spoil([][]byte{x.bytes})
	}
	wantTurns(t, first, pieces(mixed(700)))
}

func TestAllReadsOnlyItsArgument(t *testing.T) {
	b := mixed(5000)
	for _, n := range []int{1, 255, 256, 257, 700} {
		wantAll(t, chunk.All(b[:n]), mixed(5000)[:n])
	}
}

// Promise 13.3.

// wantHex checks that an address has those hexadecimal digits.
func wantHex(t *testing.T, what string, got api.Address, want string) {
	t.Helper()
	if hex.EncodeToString(got[:]) != want {
		t.Errorf("%s = %x, want %s", what, got, want)
	}
}

// These digests come from another program.
func TestKnownAddresses(t *testing.T) {
	wantHex(t, "Address of abc", chunk.Address([]byte("abc")), "98952539ec6143255ada2d301c2000b3d1d1d9bd70627aefd1bb3ec881bea9d2")
	wantHex(t, "Text of abc", chunk.Text([]byte("abc")), "de7f78598a70ef1c82493c41501fdda77a877f36069e9812463f3c8f6a06fb41")
}

func TestAddress(t *testing.T) {
	for n := range 700 {
		c := mixed(n)
		if got, want := chunk.Address(c), addressOf(c); got != want {
			t.Errorf("Address of %d bytes = %x, want %x", n, got, want)
		}
	}
	if got, want := chunk.Address(nil), addressOf(nil); got != want {
		t.Errorf("Address(nil) = %x, want %x", got, want)
	}
}

func TestAddressCountsZeros(t *testing.T) {
	seen := map[api.Address]int{}
	for n := range 300 {
		a := chunk.Address(make([]byte, n))
		if m, ok := seen[a]; ok {
			t.Errorf("%d and %d zeros have the same address", m, n)
		}
		seen[a] = n
	}
}

func TestAddressReadsOnlyItsArgument(t *testing.T) {
	b := mixed(100)
	if got, want := chunk.Address(b[:40]), addressOf(mixed(100)[:40]); got != want {
		t.Errorf("Address of the first bytes = %x, want %x", got, want)
	}
	if !bytes.Equal(b, mixed(100)) {
		t.Error("Address changed its argument")
	}
}

func TestAddresses(t *testing.T) {
	for _, b := range texts() {
		if got := chunk.Addresses(b); !slices.Equal(got, addressesOf(b)) {
			t.Fatalf("Addresses of %d bytes = %x", len(b), got)
		}
	}
	if got := chunk.Addresses(nil); len(got) != 0 {
		t.Errorf("Addresses(nil) = %x", got)
	}
}

func TestAddressesOfEqualChunks(t *testing.T) {
	l := chunk.Addresses(bytes.Repeat([]byte{7}, 256*3+5))
	if len(l) != 4 || l[0] != l[1] || l[1] != l[2] || l[2] == l[3] {
		t.Errorf("Addresses = %x", l)
	}
}

func TestAddressesAreNewMemory(t *testing.T) {
	b := mixed(700)
	l := chunk.Addresses(b)
	clear(l)
	_ = append(l, api.Address{})
	if got := chunk.Addresses(b); !slices.Equal(got, addressesOf(mixed(700))) {
		t.Errorf("Addresses = %x", got)
	}
}

func TestOf(t *testing.T) {
	l := addressesOf(mixed(2500))
	for n := range len(l) + 1 {
		for _, c := range []struct {
			size   int
			length [4]byte
		}{
			{0, [4]byte{}}, {1, [4]byte{1}}, {255, [4]byte{255}}, {256, [4]byte{0, 1}}, {300, [4]byte{44, 1}}, {2048, [4]byte{0, 8}}, {2049, [4]byte{1, 8}},
			{0x04030201, [4]byte{1, 2, 3, 4}}, {1<<31 - 1, [4]byte{255, 255, 255, 127}}, {1 << 31, [4]byte{0, 0, 0, 128}}, {1<<32 - 1, [4]byte{255, 255, 255, 255}},
			// Higher bytes than the four are dropped (1.1).
			{1 << 32, [4]byte{}}, {1<<32 + 300, [4]byte{44, 1}}, {math.MaxInt, [4]byte{255, 255, 255, 255}},
			{-1, [4]byte{255, 255, 255, 255}}, {-300, [4]byte{212, 254, 255, 255}}, {math.MinInt, [4]byte{}},
		} {
			if got, want := chunk.Of(c.size, l[:n]), listAddress(c.length, l[:n]); got != want {
				t.Errorf("Of(%d, %d addresses) = %x, want %x", c.size, n, got, want)
			}
		}
	}
	if got, want := chunk.Of(0, nil), listAddress([4]byte{}, nil); got != want {
		t.Errorf("Of(0, nil) = %x, want %x", got, want)
	}
}

func TestOfDependsOnTheOrder(t *testing.T) {
	l := addressesOf(mixed(500))
	turned := []api.Address{l[1], l[0]}
	if chunk.Of(500, l) == chunk.Of(500, turned) {
		t.Error("Of is the same for addresses in another order")
	}
	if got, want := chunk.Of(500, turned), listAddress([4]byte{244, 1}, turned); got != want {
		t.Errorf("Of = %x, want %x", got, want)
	}
}

func TestOfManyAddresses(t *testing.T) {
	l := addressesOf(mixed(256 * 1000))
	if got, want := chunk.Of(7, l), listAddress([4]byte{7}, l); got != want {
		t.Errorf("Of %d addresses = %x, want %x", len(l), got, want)
	}
}

func TestOfKeepsItsArgument(t *testing.T) {
	l := addressesOf(mixed(1000))
	chunk.Of(3, l[:2])
	if !slices.Equal(l, addressesOf(mixed(1000))) {
		t.Error("Of changed the addresses")
	}
}

func TestText(t *testing.T) {
	for _, b := range texts() {
		if got, want := chunk.Text(b), textAddress(b); got != want {
			t.Fatalf("Text of %d bytes = %x, want %x", len(b), got, want)
		}
		if got, want := chunk.Of(len(b), chunk.Addresses(b)), textAddress(b); got != want {
			t.Fatalf("Of %d bytes = %x, want %x", len(b), got, want)
		}
	}
	if got, want := chunk.Text(nil), textAddress(nil); got != want {
		t.Errorf("Text(nil) = %x, want %x", got, want)
	}
}

func TestTextKeepsItsArgument(t *testing.T) {
	b := mixed(1000)
	chunk.Text(b[:600])
	chunk.Addresses(b[:600])
	if !bytes.Equal(b, mixed(1000)) {
		t.Error("the bytes changed")
	}
	if got, want := chunk.Text(b[:600]), textAddress(mixed(1000)[:600]); got != want {
		t.Errorf("Text of the first bytes = %x, want %x", got, want)
	}
}

// Promise 13.4.

func TestSector(t *testing.T) {
	for n := range 600 {
		b := mixed(n)
		var want api.Sector
		for i := range min(n, 256) {
			want[i] = b[i]
		}
		if got := chunk.Sector(b); got != want {
			t.Errorf("Sector of %d bytes = %v", n, got)
		}
	}
	if got := chunk.Sector(nil); got != (api.Sector{}) {
		t.Errorf("Sector(nil) = %v", got)
	}
	if got := chunk.Sector([]byte{1, 2, 3, 4}[:2]); got != (api.Sector{1, 2}) {
		t.Errorf("Sector of the first two bytes = %v", got)
	}
}

func TestJoinEachLength(t *testing.T) {
	for n := 1; n <= mostBytes; n++ {
		b := mixed(n)
		wantJoin(t, sectorsOf(b), b)
	}
}

// Zero bytes belong to a text, also at its end.
func TestJoinZeros(t *testing.T) {
	for n := 1; n <= mostBytes; n++ {
		wantJoin(t, make([]api.Sector, (n+255)/256), make([]byte, n))
	}
}

func TestJoinRejectsSizes(t *testing.T) {
	full := sectorsOf(mixed(mostBytes + 256))
	for _, size := range []int{0, -1, -255, -256, -257, -2048, math.MinInt, 2049, 2050, 2304, 2305, 4096, 65536 + 5, 1<<32 + 5, 1 << 56, math.MaxInt} {
		// The size comes ahead of the number of sectors and of what they hold.
		for n := range len(full) + 1 {
			wantNoJoin(t, size, full[:n], api.ErrSize)
			wantNoJoin(t, size, make([]api.Sector, n), api.ErrSize)
		}
		wantNoJoin(t, size, nil, api.ErrSize)
	}
}

func TestJoinRejectsNumbers(t *testing.T) {
	full := sectorsOf(mixed(3 * mostBytes))
	for size := 1; size <= mostBytes; size++ {
		for n := range 12 {
			if n == (size+255)/256 {
				continue
			}
			// The number of sectors comes ahead of what they hold.
			wantNoJoin(t, size, full[:n], api.ErrArg)
			wantNoJoin(t, size, make([]api.Sector, n), api.ErrArg)
		}
		wantNoJoin(t, size, nil, api.ErrArg)
	}
	wantNoJoin(t, 300, make([]api.Sector, 258), api.ErrArg)
}

func TestJoinRejectsEachByteBehindTheText(t *testing.T) {
	for _, size := range []int{1, 2, 44, 127, 254, 255, 257, 300, 511, 513, 1000, 1793, 2046, 2047} {
		for _, b := range [][]byte{mixed(size), make([]byte, size)} {
			l := sectorsOf(b)
			last := len(l) - 1
			for i := size - 256*last; i < 256; i++ {
				for _, x := range []byte{1, 2, 127, 128, 255} {
					l[last][i] = x
					wantNoJoin(t, size, l, api.ErrBad)
				}
				l[last][i] = 0
			}
			wantJoin(t, l, b)
		}
	}
}

func TestJoinRejectsOneByteOfEachLength(t *testing.T) {
	for size := 1; size <= mostBytes; size++ {
		if size%256 == 0 {
			continue // The text fills its sectors.
		}
		for _, i := range []int{size % 256, 255} {
			l := sectorsOf(mixed(size))
			l[len(l)-1][i] ^= 128
			wantNoJoin(t, size, l, api.ErrBad)
		}
	}
}

func TestJoinTakesEachByteOfTheText(t *testing.T) {
	for _, size := range []int{1, 256, 257, 600} {
		for i := range size {
			b := make([]byte, size)
			b[i] = 255
			wantJoin(t, sectorsOf(b), b)
		}
	}
}

func TestJoinKeepsTheOrder(t *testing.T) {
	b := mixed(700)
	l := sectorsOf(b)
	l[0], l[1] = l[1], l[0]
	wantJoin(t, l, slices.Concat(b[256:512], b[:256], b[512:]))
}

// bytesBehind returns the memory of b behind its length.
func bytesBehind(b []byte) []byte {
	return b[len(b):cap(b)]
}

func TestJoinReturnsNewMemory(t *testing.T) {
	b := mixed(700)
	l := sectorsOf(b)
	a, _ := chunk.Join(700, l)
	c, _ := chunk.Join(700, l)
	clear(a)
	for i := range bytesBehind(a) {
		bytesBehind(a)[i] = 255
	}
	if !bytes.Equal(c, b) || !slices.Equal(l, sectorsOf(b)) {
		t.Error("the second text or the sectors changed with the first text")
	}
	clear(l)
	if !bytes.Equal(c, b) {
		t.Error("the text changed with the sectors")
	}
}

func TestJoinReadsOnlyItsArgument(t *testing.T) {
	l := sectorsOf(mixed(2048))
	wantJoin(t, l[:3], mixed(2048)[:768])
	if !slices.Equal(l, sectorsOf(mixed(2048))) {
		t.Error("Join changed its argument")
	}
}

// Promise 13.5.

// sectors returns the sectors of the chunks of b by the functions of the package alone.
func sectors(b []byte) []api.Sector {
	var l []api.Sector
	for _, c := range chunk.All(b) {
		l = append(l, chunk.Sector(c))
	}
	return l
}

func TestTextsComeBack(t *testing.T) {
	for n := 1; n <= mostBytes; n++ {
		for _, b := range [][]byte{mixed(n), make([]byte, n), bytes.Repeat([]byte{255}, n)} {
			wantJoin(t, sectors(b), b)
		}
	}
}

// What Join accepts is the text of these sectors only.
func TestOneForm(t *testing.T) {
	r := rand.New(rand.NewSource(5))
	for range 3000 {
		size := 1 + r.Intn(mostBytes)
		l := sectors(mixed(size))
		if r.Intn(2) == 0 {
			l[r.Intn(len(l))][r.Intn(256)] ^= 1 << r.Intn(8)
		}
		b, code := chunk.Join(size, l)
		if code == api.OK && !slices.Equal(sectors(b), l) {
			t.Fatalf("the sectors of a joined text of %d bytes differ", size)
		}
	}
}

// Rule R3.

// Each function gets the first bytes of longer ones; neither these nor those behind them may change.
func TestArgumentsStay(t *testing.T) {
	b := mixed(3000)
	for n := range 2100 {
		chunk.Check(b[:n])
		chunk.Split(b[:n])
		for range chunk.All(b[:n]) {
		}
		chunk.Address(b[:n])
		chunk.Addresses(b[:n])
		chunk.Text(b[:n])
		chunk.Sector(b[:n])
		if !bytes.Equal(b, mixed(3000)) {
			t.Fatalf("the bytes changed when the first %d of them were an argument", n)
		}
	}
}
