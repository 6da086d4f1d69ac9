package fe_test

import (
	"math"
	"math/big"
	"slices"
	"testing"

	"bastille/fe"
)

// prime is 2^255 - 19.
func prime() *big.Int { return shifted(255, -19) }

// shifted is 2^bit and a little more, or less.
func shifted(bit uint, more int64) *big.Int {
	n := new(big.Int).Lsh(big.NewInt(1), bit)
	return n.Add(n, big.NewInt(more))
}

// rest is a number modulo the prime.
func rest(n *big.Int) *big.Int { return new(big.Int).Mod(n, prime()) }

// bytesOf is the 32 bytes of a number below 2^256, the lowest first.
func bytesOf(n *big.Int) [32]byte {
	var b [32]byte
	n.FillBytes(b[:])
	slices.Reverse(b[:])
	return b
}

// numberOf is the number of 32 bytes, the lowest first.
func numberOf(b [32]byte) *big.Int {
	slices.Reverse(b[:])
	return new(big.Int).SetBytes(b[:])
}

// element is the element of a number below 2^255.
func element(n *big.Int) fe.Element { return fe.Of(bytesOf(n)) }

// A draw is numbers of 256 bits that look like any, the same ones in each run.
type draw uint64

func (d *draw) number() *big.Int {
	var b [32]byte
	for i := range b {
		*d = *d*6364136223846793005 + 1442695040888963407
		b[i] = byte(*d >> 56)
	}
	return numberOf(b)
}

// edges is numbers below 2^255 about which digits carry or the prime is reached.
func edges() []*big.Int {
	var l []*big.Int
	for n := range int64(40) {
		l = append(l, big.NewInt(n), shifted(255, -1-n))
	}
	for _, bit := range []uint{8, 15, 16, 17, 32, 64, 127, 128, 239, 240, 241, 253, 254} {
		l = append(l, shifted(bit, -1), shifted(bit, 0), shifted(bit, 1))
	}
	return l
}

// numbers is the edges and some others below 2^255.
func numbers() []*big.Int {
	l := edges()
	d := draw(4)
	for range 20 {
		n := d.number()
		l = append(l, n.SetBit(n, 255, 0))
	}
	return l
}

// check wants an element of a number, which may be of any size.
func check(t *testing.T, what string, a fe.Element, n *big.Int) {
	t.Helper()
	want := rest(n)
	if b := a.Bytes(); b != bytesOf(want) {
		t.Errorf("%s = %x, not %x", what, numberOf(b), want)
	}
	if odd := a.Odd(); odd != (want.Bit(0) == 1) {
		t.Errorf("%s = %x: Odd = %v", what, want, odd)
	}
	if same := element(want); !a.Equal(same) || !same.Equal(a) {
		t.Errorf("%s = %x is not equal to the same element", what, want)
	}
	if other := element(rest(new(big.Int).Add(want, big.NewInt(1)))); a.Equal(other) || other.Equal(a) {
		t.Errorf("%s = %x is equal to one more", what, want)
	}
}

// P4.1: the most significant bit has no part in an element, and bytes are those of the number below the prime.
func TestOf(t *testing.T) {
	for _, n := range numbers() {
		check(t, "Of", element(n), n)
		b := bytesOf(n)
		b[31] |= 0x80
		check(t, "Of with the highest bit", fe.Of(b), n)
	}
}

// P4.1: elements written out, about the prime.
func TestBytesAboutThePrime(t *testing.T) {
	full := func(first, last byte) [32]byte {
		b := [32]byte(slices.Repeat([]byte{0xff}, 32))
		b[0], b[31] = first, last
		return b
	}
	for _, c := range []struct{ b, want [32]byte }{
		{[32]byte{}, [32]byte{}},
		{[32]byte{31: 0x80}, [32]byte{}},
		{[32]byte{2, 31: 0x80}, [32]byte{2}},
		{full(0xec, 0x7f), full(0xec, 0x7f)},
		{full(0xec, 0xff), full(0xec, 0x7f)},
		{full(0xed, 0x7f), [32]byte{}},
		{full(0xee, 0x7f), [32]byte{1}},
		{full(0xff, 0x7f), [32]byte{18}},
		{full(0xff, 0xff), [32]byte{18}},
	} {
		if b := fe.Of(c.b).Bytes(); b != c.want {
			t.Errorf("Of(%x) has the bytes %x, not %x", c.b, b, c.want)
		}
	}
}

// P4.1: every small number.
func TestSmall(t *testing.T) {
	for n := range 1 << 16 {
		want := [32]byte{byte(n), byte(n >> 8)}
		if b := fe.Small(n).Bytes(); b != want {
			t.Fatalf("Small(%d) has the bytes %x", n, b)
		}
	}
}

// P4.1: what is no small number.
func TestSmallOfOther(t *testing.T) {
	for _, n := range []int{-1, -2, -1 << 16, math.MinInt, math.MinInt + 1, 1 << 16, 1<<16 + 1, 1 << 32, 1<<32 + 1, 1 << 48, math.MaxInt} {
		check(t, "Small of no small number", fe.Small(n), big.NewInt(0))
	}
}

// P4.1: the zero value is an element like any other.
func TestZeroValue(t *testing.T) {
	var zero fe.Element
	check(t, "the zero value", zero, big.NewInt(0))
	if !zero.Equal(fe.Small(0)) || !zero.Equal(element(prime())) || zero.Equal(fe.Small(1)) {
		t.Error("the zero value is not the element 0")
	}
	check(t, "0 + 5", zero.Add(fe.Small(5)), big.NewInt(5))
	check(t, "0 - 5", zero.Sub(fe.Small(5)), big.NewInt(-5))
	check(t, "0 * 5", zero.Mul(fe.Small(5)), big.NewInt(0))
	check(t, "-0", zero.Neg(), big.NewInt(0))
}

// P4.1: sum, difference, product and additive inverse of each pair.
func TestArithmetic(t *testing.T) {
	l := numbers()
	for _, x := range l {
		a := element(x)
		check(t, "Neg", a.Neg(), new(big.Int).Neg(x))
		for _, y := range l {
			b := element(y)
			check(t, "Add", a.Add(b), new(big.Int).Add(x, y))
			check(t, "Sub", a.Sub(b), new(big.Int).Sub(x, y))
			check(t, "Mul", a.Mul(b), new(big.Int).Mul(x, y))
		}
		check(t, "the first of all pairs", a, x)
	}
}

// P4.1: the document's example.
func TestTwoTimesThree(t *testing.T) {
	if p := fe.Small(2).Mul(fe.Small(3)); !p.Equal(fe.Small(6)) || p.Bytes() != [32]byte{6} {
		t.Errorf("2 * 3 has the bytes %x", p.Bytes())
	}
}

// P4.1: elements are equal by their numbers, however they were computed.
func TestEqual(t *testing.T) {
	l := numbers()
	for _, x := range l {
		for _, y := range l {
			same := rest(x).Cmp(rest(y)) == 0
			if element(x).Equal(element(y)) != same {
				t.Errorf("Equal of %x and %x is not %v", x, y, same)
			}
			if sum := element(x).Add(element(y)).Sub(element(y)); !sum.Equal(element(x)) {
				t.Errorf("%x and %x less %x: not equal to the first", x, y, y)
			}
		}
	}
}

// P4.1: sums alone, differences alone and doublings do not grow beyond what they may, however many they are.
func TestLongSums(t *testing.T) {
	for _, x := range []*big.Int{big.NewInt(1), big.NewInt(19), shifted(254, 0), shifted(255, -20), shifted(255, -19), shifted(255, -1)} {
		a := element(x)
		sum, less, double, minus, twice := a, a, a, a, a
		n, m, k, s := x, x, x, x
		for i := range 5000 {
			sum, n = sum.Add(a), new(big.Int).Add(n, x)
			less, m = less.Sub(a), new(big.Int).Sub(m, x)
			double, k = double.Add(double), rest(new(big.Int).Lsh(k, 1))
			twice = twice.Sub(twice.Neg())
			minus, s = minus.Neg().Sub(a), rest(new(big.Int).Neg(new(big.Int).Add(s, x)))
			if i%64 == 0 || i > 4990 {
				check(t, "a long sum", sum, n)
				check(t, "a long difference", less, m)
				check(t, "many doublings", double, k)
				check(t, "many doublings by differences", twice, k)
				check(t, "many negatives", minus, s)
			}
		}
	}
}

// P4.1: results of every kind are taken up by every kind, in an order that looks like any.
func TestLongComputation(t *testing.T) {
	d := draw(7)
	l := numbers()
	values := make([]fe.Element, len(l))
	for i, n := range l {
		values[i] = element(n)
	}
	for range 30000 {
		pick := d.number().Uint64()
		i, j, k := pick%uint64(len(l)), pick>>16%uint64(len(l)), pick>>32%uint64(len(l))
		n := new(big.Int)
		switch pick >> 48 % 8 {
		case 0, 1:
			values[i], l[i] = values[j].Add(values[k]), rest(n.Add(l[j], l[k]))
		case 2, 3:
			values[i], l[i] = values[j].Sub(values[k]), rest(n.Sub(l[j], l[k]))
		case 4, 5:
			values[i], l[i] = values[j].Neg(), rest(n.Neg(l[j]))
		case 6:
			values[i], l[i] = values[j].Mul(values[k]), rest(n.Mul(l[j], l[k]))
		default: // back to an edge
			l[i] = edges()[j%80]
			values[i] = element(l[i])
		}
		if b := values[i].Bytes(); b != bytesOf(rest(l[i])) {
			t.Fatalf("a result is %x, not %x", numberOf(b), rest(l[i]))
		}
	}
}

// P4.2: the product with the inverse is 1, but for 0.
func TestInverse(t *testing.T) {
	for _, n := range numbers() {
		want := new(big.Int)
		if rest(n).Sign() != 0 {
			want.ModInverse(rest(n), prime())
		}
		check(t, "Inverse", element(n).Inverse(), want)
		product := element(n).Mul(element(n).Inverse())
		if one := product.Equal(fe.Small(1)); one != (rest(n).Sign() != 0) {
			t.Errorf("%x times its inverse is %x", n, numberOf(product.Bytes()))
		}
	}
	check(t, "Inverse of 1 - 1", fe.Small(1).Sub(fe.Small(1)).Inverse(), big.NewInt(0))
	check(t, "Inverse of the prime", element(prime()).Inverse(), big.NewInt(0))
}

// P4.2: exponents of every size, with all bits.
func TestPower(t *testing.T) {
	exponents := []*big.Int{shifted(255, 0), shifted(255, 1), shifted(256, -1), shifted(256, -2), shifted(255, -20), shifted(255, -21)}
	for n := range int64(18) {
		exponents = append(exponents, big.NewInt(n))
	}
	for _, bit := range []uint{7, 8, 9, 64, 128, 247, 248, 254} {
		exponents = append(exponents, shifted(bit, 0))
	}
	d := draw(9)
	for range 8 {
		exponents = append(exponents, d.number())
	}
	bases := []*big.Int{big.NewInt(0), big.NewInt(1), big.NewInt(2), big.NewInt(3), shifted(255, -20), shifted(255, -19), shifted(255, -1), shifted(200, 77)}
	for _, x := range bases {
		for _, n := range exponents {
			check(t, "Power", element(x).Power(bytesOf(n)), new(big.Int).Exp(rest(x), n, prime()))
		}
	}
}

// P4.2: powers written out; what is raised to 0 is 1, even 0.
func TestKnownPowers(t *testing.T) {
	minus := fe.Small(1).Neg()
	for _, c := range []struct {
		a    fe.Element
		n    [32]byte
		want fe.Element
	}{
		{fe.Small(0), [32]byte{}, fe.Small(1)},
		{fe.Element{}, [32]byte{}, fe.Small(1)},
		{element(prime()), [32]byte{}, fe.Small(1)},
		{fe.Small(0), [32]byte{1}, fe.Small(0)},
		{fe.Small(0), [32]byte{31: 0x80}, fe.Small(0)},
		{fe.Small(7), [32]byte{}, fe.Small(1)},
		{fe.Small(7), [32]byte{1}, fe.Small(7)},
		{fe.Small(3), [32]byte{5}, fe.Small(243)},
		{fe.Small(2), [32]byte{15}, fe.Small(1 << 15)},
		{fe.Small(2), [32]byte{255}, fe.Small(19)},
		{fe.Small(2), [32]byte{0, 1}, fe.Small(38)},
		{minus, [32]byte{2}, fe.Small(1)},
		{minus, [32]byte{31: 0x80}, fe.Small(1)},
		{minus, [32]byte{1, 31: 0x80}, minus},
	} {
		if p := c.a.Power(c.n); !p.Equal(c.want) {
			t.Errorf("%x to the power %x is %x", c.a.Bytes(), c.n, p.Bytes())
		}
	}
}

// checkRoot wants the even root of an element, or none.
func checkRoot(t *testing.T, n *big.Int) {
	t.Helper()
	r, ok := element(n).Root()
	want := new(big.Int).ModSqrt(rest(n), prime())
	if want == nil {
		if ok || r != (fe.Element{}) {
			t.Errorf("Root of %x = %x, %v, but there is none", n, r.Bytes(), ok)
		}
		return
	}
	if want.Bit(0) == 1 {
		want.Sub(prime(), want)
	}
	if !ok || r.Odd() || !r.Mul(r).Equal(element(n)) {
		t.Errorf("Root of %x = %x, %v", n, r.Bytes(), ok)
	}
	check(t, "Root", r, want)
}

// P4.2: roots of all kinds, and elements without one; of an element and its double, and of what has a root and its negative, all cases come.
func TestRoot(t *testing.T) {
	for _, n := range numbers() {
		checkRoot(t, n)
		square := rest(new(big.Int).Mul(n, n))
		checkRoot(t, square)
		checkRoot(t, rest(new(big.Int).Neg(square)))
		checkRoot(t, rest(new(big.Int).Lsh(square, 1)))
		checkRoot(t, rest(new(big.Int).Neg(new(big.Int).Lsh(square, 1))))
	}
}

// P4.2: roots written out.
func TestKnownRoots(t *testing.T) {
	for _, c := range []struct{ a, want fe.Element }{
		{fe.Small(0), fe.Small(0)},
		{element(prime()), fe.Small(0)},
		{fe.Small(1), fe.Small(1).Neg()},
		{fe.Small(4), fe.Small(2)},
		{fe.Small(49), fe.Small(7).Neg()},
		{fe.Small(64), fe.Small(8)},
	} {
		if r, ok := c.a.Root(); !ok || r.Bytes() != c.want.Bytes() {
			t.Errorf("Root of %x = %x, %v", c.a.Bytes(), r.Bytes(), ok)
		}
	}
	for _, n := range []int{2, 8, 18, 32, 50} {
		if r, ok := fe.Small(n).Root(); ok || r.Bytes() != [32]byte{} {
			t.Errorf("Root of %d = %x, %v", n, r.Bytes(), ok)
		}
	}
	minus := fe.Small(1).Neg()
	if r, ok := minus.Root(); !ok || r.Odd() || !r.Mul(r).Equal(minus) {
		t.Errorf("Root of -1 = %x, %v", r.Bytes(), ok)
	}
}

// P4.2: either way round.
func TestSwap(t *testing.T) {
	l := numbers()
	for i, x := range l {
		y := l[(i+37)%len(l)]
		a, b := fe.Swap(element(x), element(y), false)
		check(t, "the first of two kept", a, x)
		check(t, "the second of two kept", b, y)
		a, b = fe.Swap(element(x), element(y), true)
		check(t, "the first of two swapped", a, y)
		check(t, "the second of two swapped", b, x)
		a, b = fe.Swap(element(x).Neg(), fe.Small(8).Sub(element(y)), true)
		check(t, "the first of two results swapped", a, new(big.Int).Sub(big.NewInt(8), y))
		check(t, "the second of two results swapped", b, new(big.Int).Neg(x))
	}
	a, b := fe.Small(1).Neg(), fe.Small(3).Neg().Add(fe.Small(2)) // the same, in other ways
	if c, d := fe.Swap(a, b, true); !c.Equal(a) || !d.Equal(a) {
		t.Errorf("two swapped that are the same: %x and %x", c.Bytes(), d.Bytes())
	}
}

// P4.3: the laws, for each pair and for some third ones.
func TestLaws(t *testing.T) {
	l := numbers()
	same := func(law string, a, b fe.Element) {
		t.Helper()
		if !a.Equal(b) || a.Bytes() != b.Bytes() {
			t.Errorf("%s: %x and %x", law, a.Bytes(), b.Bytes())
		}
	}
	for i, x := range l {
		a := element(x)
		same("a sum with the negative", a.Add(a.Neg()), fe.Small(0))
		same("a negative with the sum", a.Neg().Add(a), fe.Element{})
		same("the negative of the negative", a.Neg().Neg(), a)
		for j, y := range l {
			b, c := element(y), element(l[(i*7+j*3)%len(l)])
			same("sums commute", a.Add(b), b.Add(a))
			same("products commute", a.Mul(b), b.Mul(a))
			same("sums associate", a.Add(b).Add(c), a.Add(b.Add(c)))
			same("products associate", a.Mul(b).Mul(c), a.Mul(b.Mul(c)))
			same("a product of a sum", a.Mul(b.Add(c)), a.Mul(b).Add(a.Mul(c)))
			same("a difference and a negative", a.Sub(b), a.Add(b.Neg()))
		}
	}
}
