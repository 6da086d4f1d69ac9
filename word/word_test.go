package word_test

import (
	"bytes"
	"math"
	"slices"
	"testing"

	"bastille/api"
	"bastille/word"
)

// greatest is the greatest number of so many bytes, written out so that it does not rest on the code under test.
var greatest = [9]int{
	1: 0xff,
	2: 0xffff,
	3: 0xffffff,
	4: 0xffffffff,
	5: 0xffffffffff,
	6: 0xffffffffffff,
	7: 0xffffffffffffff,
	8: 0x4000000000000000,
}

// encoded is numbers and their bytes, the highest first.
var encoded = []struct {
	n     int
	bytes []byte
}{
	{0, []byte{0}},
	{1, []byte{1}},
	{127, []byte{0x7f}},
	{128, []byte{0x80}},
	{255, []byte{0xff}},
	{0, []byte{0, 0}},
	{256, []byte{1, 0}},
	{65535, []byte{0xff, 0xff}},
	{258, []byte{0, 1, 2}},
	{65536, []byte{1, 0, 0}},
	{0xffffff, []byte{0xff, 0xff, 0xff}},
	{0x01020304, []byte{1, 2, 3, 4}},
	{0xffffffff, []byte{0xff, 0xff, 0xff, 0xff}},
	{0x0102030405, []byte{1, 2, 3, 4, 5}},
	{0xffffffffff, []byte{0xff, 0xff, 0xff, 0xff, 0xff}},
	{0x010203040506, []byte{1, 2, 3, 4, 5, 6}},
	{0xffffffffffff, []byte{0xff, 0xff, 0xff, 0xff, 0xff, 0xff}},
	{0x01020304050607, []byte{1, 2, 3, 4, 5, 6, 7}},
	{0xffffffffffffff, []byte{0xff, 0xff, 0xff, 0xff, 0xff, 0xff, 0xff}},
	{0, []byte{0, 0, 0, 0, 0, 0, 0, 0}},
	{0x0102030405060708, []byte{1, 2, 3, 4, 5, 6, 7, 8}},
	{0x3fffffffffffffff, []byte{0x3f, 0xff, 0xff, 0xff, 0xff, 0xff, 0xff, 0xff}},
	{0x4000000000000000, []byte{0x40, 0, 0, 0, 0, 0, 0, 0}},
}

func backwards(b []byte) []byte {
	c := slices.Clone(b)
	slices.Reverse(c)
	return c
}

// P1.1: the bytes of a number, and the number of bytes, in both orders.
func TestNumbersAsBytes(t *testing.T) {
	for _, c := range encoded {
		low := backwards(c.bytes)
		if b, e := word.Put(c.n, len(c.bytes)); e != api.OK || !bytes.Equal(b, c.bytes) {
			t.Errorf("Put(%d, %d) = % x, %d", c.n, len(c.bytes), b, e)
		}
		if b, e := word.Low(c.n, len(c.bytes)); e != api.OK || !bytes.Equal(b, low) {
			t.Errorf("Low(%d, %d) = % x, %d", c.n, len(c.bytes), b, e)
		}
		if n, e := word.Get(c.bytes); e != api.OK || n != c.n {
			t.Errorf("Get(% x) = %d, %d", c.bytes, n, e)
		}
		if n, e := word.GetLow(low); e != api.OK || n != c.n {
			t.Errorf("GetLow(% x) = %d, %d", low, n, e)
		}
	}
}

// P1.1: sizes that there are not, and numbers that do not fit.
func TestNumbersThatDoNotFit(t *testing.T) {
	type ask struct{ n, size int }
	var asks []ask
	for size := 1; size <= 8; size++ {
		for _, n := range []int{greatest[size] + 1, -1, -greatest[size], math.MinInt, math.MaxInt} {
			asks = append(asks, ask{n, size})
		}
	}
	for _, size := range []int{0, -1, -8, 9, 16, 64, 1 << 32, math.MinInt, math.MaxInt} {
		for _, n := range []int{0, 1, -1, 1 << 62, math.MaxInt} {
			asks = append(asks, ask{n, size})
		}
	}
	for _, a := range asks {
		if b, e := word.Put(a.n, a.size); e != api.ErrArg || b != nil {
			t.Errorf("Put(%d, %d) = % x, %d", a.n, a.size, b, e)
		}
		if b, e := word.Low(a.n, a.size); e != api.ErrArg || b != nil {
			t.Errorf("Low(%d, %d) = % x, %d", a.n, a.size, b, e)
		}
	}
}

// P1.1: bytes that are no number; more than eight are ErrArg whatever they hold.
func TestBytesWithoutNumber(t *testing.T) {
	cases := []struct {
		high []byte
		err  api.Errno
	}{
		{nil, api.ErrEnd},
		{[]byte{}, api.ErrEnd},
		{make([]byte, 9), api.ErrArg},
		{bytes.Repeat([]byte{0xff}, 9), api.ErrArg},
		{make([]byte, 1000), api.ErrArg},
		{[]byte{0x40, 0, 0, 0, 0, 0, 0, 1}, api.ErrForm},
		{[]byte{0x41, 0, 0, 0, 0, 0, 0, 0}, api.ErrForm},
		{[]byte{0x7f, 0xff, 0xff, 0xff, 0xff, 0xff, 0xff, 0xff}, api.ErrForm},
		{[]byte{0x80, 0, 0, 0, 0, 0, 0, 0}, api.ErrForm},
		{bytes.Repeat([]byte{0xff}, 8), api.ErrForm},
	}
	for _, c := range cases {
		if n, e := word.Get(c.high); e != c.err || n != 0 {
			t.Errorf("Get(% x) = %d, %d", c.high, n, e)
		}
		low := backwards(c.high)
		if n, e := word.GetLow(low); e != c.err || n != 0 {
			t.Errorf("GetLow(% x) = %d, %d", low, n, e)
		}
	}
}

// A wordCase is numbers, and their bytes.
type wordCase[T comparable] struct {
	bytes []byte
	words []T
}

func (c wordCase[T]) check(t *testing.T, read func([]byte) ([]T, api.Errno), write func([]T) []byte) {
	t.Helper()
	if l, e := read(c.bytes); e != api.OK || !slices.Equal(l, c.words) {
		t.Errorf("% x are read as %v, %d, not %v", c.bytes, l, e, c.words)
	}
	if b := write(c.words); !bytes.Equal(b, c.bytes) {
		t.Errorf("%v are written as % x, not % x", c.words, b, c.bytes)
	}
}

// P1.2: numbers of four bytes, the least significant first.
func TestWords32(t *testing.T) {
	cases := []wordCase[uint32]{
		{nil, nil},
		{[]byte{}, nil},
		{[]byte{1, 0, 0, 0}, []uint32{1}},
		{[]byte{0, 0, 0, 0x80}, []uint32{0x80000000}},
		{[]byte{0xff, 0xff, 0xff, 0xff}, []uint32{0xffffffff}},
		{[]byte{1, 2, 3, 4, 0xf5, 6, 7, 0xf8}, []uint32{0x04030201, 0xf80706f5}},
		{[]byte{0, 0, 0, 0, 0, 1, 0, 0, 0, 0, 1, 0}, []uint32{0, 0x100, 0x10000}},
	}
	for _, c := range cases {
		c.check(t, word.Words32, word.Bytes32)
	}
}

// P1.2: numbers of eight bytes, the most significant first.
func TestWords64(t *testing.T) {
	cases := []wordCase[uint64]{
		{nil, nil},
		{[]byte{}, nil},
		{[]byte{0, 0, 0, 0, 0, 0, 0, 1}, []uint64{1}},
		{[]byte{0x80, 0, 0, 0, 0, 0, 0, 0}, []uint64{0x8000000000000000}},
		{bytes.Repeat([]byte{0xff}, 8), []uint64{0xffffffffffffffff}},
		{
			[]byte{1, 2, 3, 4, 5, 6, 7, 8, 0xf9, 0xa, 0xb, 0xc, 0xd, 0xe, 0xf, 0xf0},
			[]uint64{0x0102030405060708, 0xf90a0b0c0d0e0ff0},
		},
	}
	for _, c := range cases {
		c.check(t, word.Words64, word.Bytes64)
	}
}

// P1.2: lengths that are no multiple.
func TestWordsOfOddLengths(t *testing.T) {
	for n := range 130 {
		b := bytes.Repeat([]byte{0xa5}, n)
		l32, e := word.Words32(b)
		if n%4 == 0 && (e != api.OK || len(l32) != n/4) || n%4 != 0 && (e != api.ErrArg || l32 != nil) {
			t.Errorf("Words32 of %d bytes = %x, %d", n, l32, e)
		}
		l64, e := word.Words64(b)
		if n%8 == 0 && (e != api.OK || len(l64) != n/8) || n%8 != 0 && (e != api.ErrArg || l64 != nil) {
			t.Errorf("Words64 of %d bytes = %x, %d", n, l64, e)
		}
	}
}

// P1.2: both pairs are inverse in both directions, for lists of any bytes.
func TestWordsInvert(t *testing.T) {
	b := make([]byte, 256*8)
	for i := range b {
		b[i] = byte(i*i + i/256)
	}
	for n := 0; n <= len(b); n += 8 {
		l32, e := word.Words32(b[:n])
		if e != api.OK || !bytes.Equal(word.Bytes32(l32), b[:n]) {
			t.Fatalf("Bytes32 does not invert Words32 for %d bytes", n)
		}
		l64, e := word.Words64(b[:n])
		if e != api.OK || !bytes.Equal(word.Bytes64(l64), b[:n]) {
			t.Fatalf("Bytes64 does not invert Words64 for %d bytes", n)
		}
		if again, e := word.Words32(word.Bytes32(l32)); e != api.OK || !slices.Equal(again, l32) {
			t.Fatalf("Words32 does not invert Bytes32 for %d words", len(l32))
		}
		if again, e := word.Words64(word.Bytes64(l64)); e != api.OK || !slices.Equal(again, l64) {
			t.Fatalf("Words64 does not invert Bytes64 for %d words", len(l64))
		}
	}
}

// P1.3: reading inverts writing in each size, about every power of two, and one order is the other one reversed.
func TestOrdersInvert(t *testing.T) {
	for size := 1; size <= 8; size++ {
		numbers := []int{0, greatest[size] / 3, greatest[size] - 1, greatest[size]}
		for bit := range 63 {
			numbers = append(numbers, 1<<bit-1, 1<<bit, 1<<bit+1, 0x123456789abcdef>>bit)
		}
		for _, n := range numbers {
			if n <= greatest[size] {
				checkOrders(t, n, size)
			}
		}
	}
}

func checkOrders(t *testing.T, n, size int) {
	t.Helper()
	high, e := word.Put(n, size)
	if e != api.OK || len(high) != size {
		t.Fatalf("Put(%d, %d) = % x, %d", n, size, high, e)
	}
	low, e := word.Low(n, size)
	if e != api.OK || !bytes.Equal(low, backwards(high)) {
		t.Fatalf("Low(%d, %d) = % x, %d, but Put gives % x", n, size, low, e, high)
	}
	if m, e := word.Get(high); e != api.OK || m != n {
		t.Fatalf("Get(% x) = %d, %d, not %d", high, m, e, n)
	}
	if m, e := word.GetLow(low); e != api.OK || m != n {
		t.Fatalf("GetLow(% x) = %d, %d, not %d", low, m, e, n)
	}
}

// P1.1, P1.2: no call changes what it is given (rule 5).
func TestArgumentsStay(t *testing.T) {
	b := []byte{1, 2, 3, 4, 5, 6, 7, 8}
	kept := slices.Clone(b)
	l32, _ := word.Words32(b)
	l64, _ := word.Words64(b)
	word.Get(b)
	word.GetLow(b)
	kept32, kept64 := slices.Clone(l32), slices.Clone(l64)
	word.Bytes32(l32)
	word.Bytes64(l64)
	if !bytes.Equal(b, kept) || !slices.Equal(l32, kept32) || !slices.Equal(l64, kept64) {
		t.Errorf("changed: % x, %x, %x", b, l32, l64)
	}
}
