package scalar_test

import (
	"bytes"
	"crypto/ed25519"
	"crypto/sha512"
	"math/big"
	"slices"
	"testing"

	"bastille/api"
	"bastille/scalar"
)

// order is 2^252 + 27742317777372353535851937790883648493.
func order() *big.Int {
	n, _ := new(big.Int).SetString("27742317777372353535851937790883648493", 10)
	return n.Add(n, power(252))
}

func power(bit uint) *big.Int { return new(big.Int).Lsh(big.NewInt(1), bit) }

// times is a number k times, and a little more, or less.
func times(n *big.Int, k, more int64) *big.Int {
	product := new(big.Int).Mul(n, big.NewInt(k))
	return product.Add(product, big.NewInt(more))
}

// scalarOf is the bytes of a number modulo the order, whatever number it is.
func scalarOf(n *big.Int) [32]byte { return [32]byte(low(new(big.Int).Mod(n, order()), 32)) }

// low is a number as so many bytes, the lowest first.
func low(n *big.Int, size int) []byte {
	b := n.FillBytes(make([]byte, size))
	slices.Reverse(b)
	return b
}

// word is 32 bytes of a number below 2^256.
func word(n *big.Int) [32]byte { return [32]byte(low(n, 32)) }

// numberOf is the number of bytes, the lowest first.
func numberOf(b []byte) *big.Int {
	b = bytes.Clone(b)
	slices.Reverse(b)
	return new(big.Int).SetBytes(b)
}

// A draw is bytes that look like any, the same ones in each run.
type draw uint64

func (d *draw) bytes(size int) []byte {
	b := make([]byte, size)
	for i := range b {
		*d = *d*6364136223846793005 + 1442695040888963407
		b[i] = byte(*d >> 56)
	}
	return b
}

// numbers is numbers below 2^256, scalars and others: about 0, multiples of the order, single bits and the greatest one, and some that look like any.
func numbers() []*big.Int {
	var l []*big.Int
	for n := range int64(6) {
		l = append(l, big.NewInt(n), times(order(), 1, -n), times(order(), 1, n), times(power(256), 1, -1-n))
	}
	for k := range int64(14) {
		l = append(l, times(order(), k+2, -1), times(order(), k+2, 0), times(order(), k+2, 1))
	}
	for _, bit := range []uint{8, 63, 64, 65, 127, 128, 129, 191, 192, 251, 252, 253, 255} {
		l = append(l, times(power(bit), 1, -1), power(bit), times(power(bit), 1, 1))
	}
	half := times(order(), 1, -1)
	half.Rsh(half, 1)
	l = append(l, half, times(half, 1, 1))
	d := draw(6)
	for range 20 {
		n := numberOf(d.bytes(32))
		l = append(l, n, new(big.Int).Mod(n, order()))
	}
	return l
}

// check wants the bytes of a number modulo the order.
func check(t *testing.T, what string, b [32]byte, n *big.Int) {
	t.Helper()
	if want := scalarOf(n); b != want {
		t.Errorf("%s = %x, not %x", what, b, want)
	}
	if !scalar.Right(b) {
		t.Errorf("%s = %x, which is not right", what, b)
	}
}

// checkOf wants the scalar of bytes, which must stay as they are.
func checkOf(t *testing.T, b []byte) {
	t.Helper()
	before := bytes.Clone(b)
	x, e := scalar.Of(b)
	if e != api.OK {
		t.Fatalf("Of(%x) = %x, %d", b, x, e)
	}
	check(t, "Of", x, numberOf(before))
	if !bytes.Equal(b, before) {
		t.Errorf("Of made %x of %x", b, before)
	}
}

// P6.1: the order's bytes, written out and computed, each time anew.
func TestOrder(t *testing.T) {
	want := [32]byte{
		0xed, 0xd3, 0xf5, 0x5c, 0x1a, 0x63, 0x12, 0x58, 0xd6, 0x9c, 0xf7, 0xa2, 0xde, 0xf9, 0xde, 0x14,
		31: 0x10,
	}
	q := scalar.Order()
	if q != want || q != word(order()) {
		t.Errorf("Order = %x", q)
	}
	q[0]++
	if again := scalar.Order(); again != want {
		t.Errorf("Order = %x, after a result of it was changed", again)
	}
}

// P6.1: byte strings of every length up to the limit: the least ones, the greatest ones, single bits, and some that look like any.
func TestOf(t *testing.T) {
	checkOf(t, nil)
	d := draw(1)
	for size := range 129 {
		checkOf(t, make([]byte, size))
		checkOf(t, bytes.Repeat([]byte{0xff}, size))
		checkOf(t, d.bytes(size))
		if size > 0 {
			for bit := range 8 {
				checkOf(t, low(power(uint(8*size-1-bit)), size))
			}
		}
	}
}

// P6.1: byte strings about multiples of the order, small ones and the greatest ones of each length.
func TestOfMultiples(t *testing.T) {
	for _, n := range numbers() {
		for _, size := range []int{32, 33, 64, 127, 128} {
			checkOf(t, low(n, size))
		}
	}
	for size := 32; size <= 128; size++ {
		k := new(big.Int).Div(power(uint(8*size)), order())
		multiple := k.Mul(k, order())
		for more := range int64(5) {
			checkOf(t, low(times(multiple, 1, more-2), size))
		}
	}
}

// P6.1: only the bytes that are given have a part in the scalar.
func TestOfPart(t *testing.T) {
	whole := bytes.Repeat([]byte{0xab}, 200)
	for _, b := range [][]byte{whole[:0], whole[:1], whole[3:35], whole[:64], whole[72:]} {
		checkOf(t, b)
	}
	if x, e := scalar.Of([]byte{1, 2}); x != [32]byte{1, 2} || e != api.OK {
		t.Errorf("Of(01 02) = %x, %d", x, e)
	}
}

// P6.1: what is too long has no scalar, even if only zero bytes are too many.
func TestOfTooLong(t *testing.T) {
	for _, size := range []int{129, 130, 160, 192, 256, 257, 1 << 10, 1 << 20} {
		for _, b := range [][]byte{make([]byte, size), bytes.Repeat([]byte{0xff}, size), append([]byte{7}, make([]byte, size-1)...)} {
			if x, e := scalar.Of(b); x != [32]byte{} || e != api.ErrLimit {
				t.Errorf("Of of %d bytes = %x, %d", size, x, e)
			}
		}
	}
}

// P6.1: the bytes of a scalar, and of no other number.
func TestRight(t *testing.T) {
	for _, n := range numbers() {
		if ok := scalar.Right(word(n)); ok != (n.Cmp(order()) < 0) {
			t.Errorf("Right of %x = %v", n, ok)
		}
	}
	// Each bit turned in the order and in the greatest scalar: those that go up give no scalar.
	for _, n := range []*big.Int{order(), times(order(), 1, -1)} {
		for bit := range 256 {
			turned := new(big.Int).SetBit(n, bit, 1-n.Bit(bit))
			if ok := scalar.Right(word(turned)); ok != (turned.Cmp(order()) < 0) {
				t.Errorf("Right of %x = %v", turned, ok)
			}
		}
	}
}

// P6.1: sum and product of each pair, and the inverse of each number, scalars and others.
func TestArithmetic(t *testing.T) {
	l := numbers()
	for _, x := range l {
		a := word(x)
		check(t, "Neg", scalar.Neg(a), new(big.Int).Neg(x))
		for _, y := range l {
			b := word(y)
			check(t, "Add", scalar.Add(a, b), new(big.Int).Add(x, y))
			check(t, "Mul", scalar.Mul(a, b), new(big.Int).Mul(x, y))
		}
	}
}

// P6.1: a product and a sum, of three numbers; what is done in two steps is the same.
func TestMulAdd(t *testing.T) {
	l := numbers()
	for i, x := range l {
		for j, y := range l {
			z := l[(7*i+3*j)%len(l)]
			a, b, c := word(x), word(y), word(z)
			n := new(big.Int).Mul(x, y)
			got := scalar.MulAdd(a, b, c)
			check(t, "MulAdd", got, n.Add(n, z))
			if two := scalar.Add(scalar.Mul(a, b), c); two != got {
				t.Errorf("MulAdd of %x, %x and %x = %x, but in two steps %x", a, b, c, got, two)
			}
		}
	}
}

// P6.1: results written out; the first one is the document's example.
func TestKnownResults(t *testing.T) {
	q := scalar.Order()
	minus := q // q - 1
	minus[0]--
	above := q // q + 1
	above[0]++
	for _, c := range []struct {
		what      string
		got, want [32]byte
	}{
		{"2 * 3", scalar.Mul([32]byte{2}, [32]byte{3}), [32]byte{6}},
		{"-1 * -1", scalar.Mul(minus, minus), [32]byte{1}},
		{"0 * -1", scalar.Mul([32]byte{}, minus), [32]byte{}},
		{"q * q", scalar.Mul(q, q), [32]byte{}},
		{"(q + 1) * 5", scalar.Mul(above, [32]byte{5}), [32]byte{5}},
		{"2 + 3", scalar.Add([32]byte{2}, [32]byte{3}), [32]byte{5}},
		{"-1 + 1", scalar.Add(minus, [32]byte{1}), [32]byte{}},
		{"-1 + 5", scalar.Add(minus, [32]byte{5}), [32]byte{4}},
		{"255 + 1", scalar.Add([32]byte{255}, [32]byte{1}), [32]byte{0, 1}},
		{"q + q", scalar.Add(q, q), [32]byte{}},
		{"q + 0", scalar.Add(q, [32]byte{}), [32]byte{}},
		{"-0", scalar.Neg([32]byte{}), [32]byte{}},
		{"-q", scalar.Neg(q), [32]byte{}},
		{"-1", scalar.Neg([32]byte{1}), minus},
		{"-(q + 1)", scalar.Neg(above), minus},
		{"-(q - 1)", scalar.Neg(minus), [32]byte{1}},
		{"7 * 8 + 9", scalar.MulAdd([32]byte{7}, [32]byte{8}, [32]byte{9}), [32]byte{65}},
		{"-1 * 1 + 1", scalar.MulAdd(minus, [32]byte{1}, [32]byte{1}), [32]byte{}},
	} {
		if c.got != c.want {
			t.Errorf("%s = %x, not %x", c.what, c.got, c.want)
		}
	}
}

// P6.1: the second half of a signature of Go's own Ed25519 is r + ka, for scalars of hashes and a number that is not one.
func TestSignatures(t *testing.T) {
	d := draw(8)
	for n := range 50 {
		seed, text := d.bytes(32), d.bytes(n)
		private := ed25519.NewKeyFromSeed(seed)
		signature := ed25519.Sign(private, text)
		h := sha512.Sum512(seed)
		a := [32]byte(h[:32])
		a[0], a[31] = a[0]&0xf8, a[31]&0x3f|0x40
		r := scalarOfHash(t, h[32:], text)
		k := scalarOfHash(t, signature[:32], private[32:], text)
		if s := scalar.MulAdd(k, a, r); s != [32]byte(signature[32:]) {
			t.Errorf("%x signs %x with %x, not %x", seed, text, s, signature[32:])
		}
	}
}

func scalarOfHash(t *testing.T, parts ...[]byte) [32]byte {
	t.Helper()
	h := sha512.Sum512(slices.Concat(parts...))
	x, e := scalar.Of(h[:])
	if e != api.OK {
		t.Fatalf("Of a hash: %d", e)
	}
	return x
}

// P6.2: the laws, for each pair and for some third ones.
func TestLaws(t *testing.T) {
	l := numbers()
	same := func(law string, a, b [32]byte) {
		t.Helper()
		if a != b {
			t.Errorf("%s: %x and %x", law, a, b)
		}
	}
	for i, x := range l {
		a := word(x)
		same("a sum with the inverse", scalar.Add(a, scalar.Neg(a)), [32]byte{})
		same("the inverse of the inverse", scalar.Neg(scalar.Neg(a)), scalar.Add(a, [32]byte{}))
		for j, y := range l {
			b, c := word(y), word(l[(11*i+5*j)%len(l)])
			ab, bc, sum := scalar.Mul(a, b), scalar.Mul(b, c), scalar.Add(b, c)
			same("sums commute", scalar.Add(a, b), scalar.Add(b, a))
			same("products commute", ab, scalar.Mul(b, a))
			same("sums associate", scalar.Add(scalar.Add(a, b), c), scalar.Add(a, sum))
			same("products associate", scalar.Mul(ab, c), scalar.Mul(a, bc))
			same("a product of a sum", scalar.Mul(a, sum), scalar.Add(ab, scalar.Mul(a, c)))
			same("a sum times a number", scalar.Mul(sum, a), scalar.Add(ab, scalar.Mul(c, a)))
		}
	}
}
