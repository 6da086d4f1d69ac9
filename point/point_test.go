package point_test

import (
	"crypto/ed25519"
	"crypto/sha512"
	"math/big"
	"slices"
	"testing"

	"bastille/api"
	"bastille/point"
	"bastille/scalar"
)

// A place is a point as the chapter has it: two numbers below the prime.
type place struct{ x, y *big.Int }

// A known is a point, and what it is to be.
type known struct {
	what string
	p    point.Point
	at   place
}

// prime is 2^255 - 19.
func prime() *big.Int { return power(255, -19) }

// order is 2^252 + 27742317777372353535851937790883648493.
func order() *big.Int {
	n, _ := new(big.Int).SetString("27742317777372353535851937790883648493", 10)
	return n.Add(n, power(252, 0))
}

// power is 2^bit and a little more, or less.
func power(bit uint, more int64) *big.Int {
	n := new(big.Int).Lsh(big.NewInt(1), bit)
	return n.Add(n, big.NewInt(more))
}

// times is a number k times, and a little more, or less.
func times(n *big.Int, k, more int64) *big.Int {
	product := new(big.Int).Mul(n, big.NewInt(k))
	return product.Add(product, big.NewInt(more))
}

// rest is a number modulo the prime.
func rest(n *big.Int) *big.Int { return n.Mod(n, prime()) }

// divided is a divided by b, modulo the prime.
func divided(a, b *big.Int) *big.Int {
	n := new(big.Int).ModInverse(rest(new(big.Int).Set(b)), prime())
	return rest(n.Mul(n, a))
}

// factor is the d of the curve.
func factor() *big.Int { return divided(big.NewInt(-121665), big.NewInt(121666)) }

func product(l ...*big.Int) *big.Int {
	n := big.NewInt(1)
	for _, f := range l {
		rest(n.Mul(n, f))
	}
	return n
}

// sum is what the chapter says it is: (xv + uy) / (1 + dxuyv) and (yv + xu) / (1 - dxuyv).
func (a place) sum(b place) place {
	one, all := big.NewInt(1), product(factor(), a.x, b.x, a.y, b.y)
	x := new(big.Int).Add(product(a.x, b.y), product(b.x, a.y))
	y := new(big.Int).Add(product(a.y, b.y), product(a.x, b.x))
	return place{divided(x, new(big.Int).Add(one, all)), divided(y, new(big.Int).Sub(one, all))}
}

// neg is the place with the negative first coordinate.
func (a place) neg() place { return place{rest(new(big.Int).Neg(a.x)), a.y} }

// times is the sum of n copies.
func (a place) times(n *big.Int) place {
	all := nought()
	for bit := n.BitLen() - 1; bit >= 0; bit-- {
		all = all.sum(all)
		if n.Bit(bit) == 1 {
			all = all.sum(a)
		}
	}
	return all
}

func (a place) same(b place) bool { return a.x.Cmp(b.x) == 0 && a.y.Cmp(b.y) == 0 }

// bytes is the bytes of y, with the lowest bit of x as the highest one.
func (a place) bytes() [32]byte {
	b := word(a.y)
	b[31] |= byte(a.x.Bit(0)) << 7
	return b
}

func nought() place { return place{big.NewInt(0), big.NewInt(1)} }

// base has the second coordinate 4 / 5 and an even first one.
func base() place {
	a, _ := beside(divided(big.NewInt(4), big.NewInt(5)))
	return a
}

// beside is the place with this second coordinate and an even first one, if there is one: of yy - xx = 1 + d xx yy, xx is (yy - 1) / (1 + d yy).
func beside(y *big.Int) (place, bool) {
	yy := product(y, y)
	below := product(factor(), yy)
	xx := divided(new(big.Int).Sub(yy, big.NewInt(1)), below.Add(below, big.NewInt(1)))
	x := new(big.Int).ModSqrt(xx, prime())
	if x == nil {
		return place{}, false
	}
	if x.Bit(0) == 1 {
		x.Sub(prime(), x)
	}
	return place{x, y}, true
}

// word is the 32 bytes of a number below 2^256, the lowest first.
func word(n *big.Int) [32]byte {
	var b [32]byte
	n.FillBytes(b[:])
	slices.Reverse(b[:])
	return b
}

// numberOf is the number of 32 bytes, the lowest first.
func numberOf(b [32]byte) *big.Int {
	slices.Reverse(b[:])
	return new(big.Int).SetBytes(b[:])
}

// A draw is bytes that look like any, the same ones in each run.
type draw uint64

func (d *draw) word() [32]byte {
	var b [32]byte
	for i := range b {
		*d = *d*6364136223846793005 + 1442695040888963407
		b[i] = byte(*d >> 56)
	}
	return b
}

// of is the point of bytes that are a point's.
func of(t *testing.T, b [32]byte) point.Point {
	t.Helper()
	p, e := point.Of(b)
	if e != api.OK {
		t.Fatalf("Of(%x): %d", b, e)
	}
	return p
}

// eighth is a place of which 8 times is the neutral point, and no less: what q leaves of a point outside the large group.
func eighth() place {
	for y := big.NewInt(2); ; y = times(y, 1, 1) {
		a, ok := beside(y)
		if !ok {
			continue
		}
		if a = a.times(order()); !a.times(big.NewInt(4)).same(nought()) {
			return a
		}
	}
}

// points is the neutral point and the base, the eight points of the small group, points that look like any, and sums of all these, in several forms.
func points(t *testing.T) []known {
	t.Helper()
	l := []known{{"Nought", point.Nought(), nought()}, {"Base", point.Base(), base()}}
	small := nought()
	for range 8 {
		l = append(l, known{"a point of the small group", of(t, small.bytes()), small})
		small = small.sum(eighth())
	}
	d := draw(7)
	for len(l) < 16 {
		y := numberOf(d.word())
		if a, ok := beside(rest(y.SetBit(y, 255, 0))); ok {
			l = append(l, known{"a point", of(t, a.bytes()), a}, known{"a negative", of(t, a.bytes()).Neg(), a.neg()})
		}
	}
	for i := range 8 {
		a, b := l[i+1], l[15-i]
		l = append(l, known{"a sum", a.p.Add(b.p), a.at.sum(b.at)})
	}
	b := l[1]
	return append(l, known{"the base less itself", b.p.Add(b.p.Neg()), nought()}, known{"the base again", b.p.Add(b.p).Add(b.p.Neg()), base()})
}

// check wants a point at a place, by its bytes and as equal to the one that is read from them.
func check(t *testing.T, what string, p point.Point, at place) {
	t.Helper()
	b := p.Bytes()
	if b != at.bytes() {
		t.Errorf("%s has the bytes %x, not %x", what, b, at.bytes())
		return
	}
	q := of(t, b)
	if !p.Equal(q) || !q.Equal(p) || !p.On() || !q.On() {
		t.Errorf("%s: %x is not on the curve, or not equal to the point of its bytes", what, b)
	}
}

// checkNone wants what is no point.
func checkNone(t *testing.T, what string, p point.Point) {
	t.Helper()
	if p.On() || p.Bytes() != [32]byte{} || p != (point.Point{}) {
		t.Errorf("%s is on the curve (%v), or has the bytes %x, or is not the zero value", what, p.On(), p.Bytes())
	}
}

// P7.1: the neutral point and the base; the latter by its coordinates and as the document writes it.
func TestNoughtAndBase(t *testing.T) {
	check(t, "Nought", point.Nought(), nought())
	check(t, "Base", point.Base(), base())
	if b := point.Nought().Bytes(); b != [32]byte{1} {
		t.Errorf("Nought has the bytes %x", b)
	}
	want := [32]byte(slices.Repeat([]byte{0x66}, 32))
	want[0] = 0x58
	if b := point.Base().Bytes(); b != want {
		t.Errorf("Base has the bytes %x", b)
	}
}

// P7.1: second coordinates with two points, one, and none, small ones, ones about the prime, and some that look like any, with both bits.
func TestOf(t *testing.T) {
	var l []*big.Int
	for n := range int64(80) {
		l = append(l, big.NewInt(n), times(prime(), 1, -1-n))
	}
	for _, bit := range []uint{8, 15, 16, 17, 64, 128, 248, 253, 254} {
		l = append(l, power(bit, -1), power(bit, 0), power(bit, 1))
	}
	d := draw(1)
	for range 60 {
		l = append(l, rest(numberOf(d.word())))
	}
	has := 0
	for _, y := range l {
		even, ok := beside(y)
		if !ok {
			checkOfNone(t, y, 0)
			checkOfNone(t, y, 1)
			continue
		}
		has++
		checkOf(t, y, 0, even)
		if even.x.Sign() == 0 {
			checkOfNone(t, y, 1)
		} else {
			checkOf(t, y, 1, even.neg())
		}
	}
	if has < len(l)/4 || has > len(l)*3/4 {
		t.Errorf("of %d second coordinates, %d have points", len(l), has)
	}
}

// withBit is the bytes of a number below 2^255, and a highest bit.
func withBit(y *big.Int, bit byte) [32]byte {
	b := word(y)
	b[31] |= bit << 7
	return b
}

// checkOf wants the point of a second coordinate and a bit.
func checkOf(t *testing.T, y *big.Int, bit byte, at place) {
	t.Helper()
	check(t, "Of", of(t, withBit(y, bit)), at)
}

// checkOfNone wants no point of a second coordinate and a bit.
func checkOfNone(t *testing.T, y *big.Int, bit byte) {
	t.Helper()
	b := withBit(y, bit)
	if p, e := point.Of(b); e != api.ErrPoint || p != (point.Point{}) {
		t.Errorf("Of(%x): %d, with the bytes %x", b, e, p.Bytes())
	}
}

// P7.1: where the first coordinate is 0, the highest bit must not be 1.
func TestOfFirstCoordinateZero(t *testing.T) {
	minus := times(prime(), 1, -1)
	for _, y := range []*big.Int{big.NewInt(1), minus} {
		checkOf(t, y, 0, place{big.NewInt(0), y})
		checkOfNone(t, y, 1)
	}
	// With the second coordinate 0, there are two points, of which the first ones are the roots of -1.
	root := new(big.Int).ModSqrt(minus, prime())
	if root.Bit(0) == 1 {
		root.Sub(prime(), root)
	}
	for bit, x := range []*big.Int{root, new(big.Int).Sub(prime(), root)} {
		checkOf(t, big.NewInt(0), byte(bit), place{x, big.NewInt(0)})
	}
}

// P7.1: each number from the prime to 2^255 - 1 is none of a point, though many of the numbers with the same elements, 0 to 18, are.
func TestOfNotBelowThePrime(t *testing.T) {
	reduced := 0
	for n := range int64(19) {
		y := times(prime(), 1, n)
		if _, e := point.Of(word(big.NewInt(n))); e == api.OK {
			reduced++
		}
		checkOfNone(t, y, 0)
		checkOfNone(t, y, 1)
	}
	if reduced < 5 {
		t.Errorf("below 19, %d numbers are those of points", reduced)
	}
}

// P7.1: points are equal by their places, in whatever way they were computed.
func TestEqual(t *testing.T) {
	l := points(t)
	// Points that have one coordinate in common, or both but for the sign, are not equal: to each, there are three others.
	half := place{big.NewInt(0), times(prime(), 1, -1)}
	turn := of(t, half.bytes())
	for _, k := range slices.Clone(l) {
		l = append(l, known{"a negative", k.p.Neg(), k.at.neg()}, known{"half a turn on", k.p.Add(turn), k.at.sum(half)}, known{"the negative of that", k.p.Add(turn).Neg(), k.at.sum(half).neg()})
	}
	for _, a := range l {
		for _, b := range l {
			if same := a.at.same(b.at); a.p.Equal(b.p) != same {
				t.Errorf("Equal of %s, %x, and %s, %x, is not %v", a.what, a.p.Bytes(), b.what, b.p.Bytes(), same)
			}
		}
	}
}

// P7.1: each result is on the curve, and has its own bytes.
func TestOnAndBytes(t *testing.T) {
	for _, k := range points(t) {
		check(t, k.what, k.p, k.at)
	}
}

// P7.1: the zero value is no point, nor is anything that is computed from it; it is equal to nothing.
func TestZeroValue(t *testing.T) {
	var zero point.Point
	checkNone(t, "the zero value", zero)
	checkNone(t, "its negative", zero.Neg())
	checkNone(t, "its sum with itself", zero.Add(zero))
	for _, n := range []*big.Int{big.NewInt(0), big.NewInt(1), big.NewInt(2), order(), times(order(), 8, 0), power(255, 0), power(256, -1)} {
		checkNone(t, "a multiple of it", zero.Mul(word(n)))
	}
	if zero.Equal(zero) || zero.Equal(zero.Neg()) {
		t.Error("the zero value is equal to itself")
	}
	for _, k := range points(t) {
		checkNone(t, "its sum with "+k.what, zero.Add(k.p))
		checkNone(t, k.what+" and it", k.p.Add(zero))
		if zero.Equal(k.p) || k.p.Equal(zero) {
			t.Errorf("the zero value is equal to %s, %x", k.what, k.p.Bytes())
		}
	}
}

// P7.2: the sum of each pair, also of a point and itself, of points of the small group, and of results.
func TestAdd(t *testing.T) {
	l := points(t)
	for _, a := range l {
		for _, b := range l {
			check(t, a.what+" and "+b.what, a.p.Add(b.p), a.at.sum(b.at))
		}
		check(t, "the first of all sums", a.p, a.at)
	}
}

// P7.2: the negative has the negative first coordinate and the same second one.
func TestNeg(t *testing.T) {
	for _, k := range points(t) {
		check(t, "the negative of "+k.what, k.p.Neg(), k.at.neg())
		check(t, "the negative twice of "+k.what, k.p.Neg().Neg(), k.at)
		check(t, "a sum with the negative of "+k.what, k.p.Neg().Add(point.Base()), k.at.neg().sum(base()))
	}
}

// numbers is numbers below 2^256 that are about 0, about multiples of the order, and the greatest one, and some that look like any.
func numbers() []*big.Int {
	l := []*big.Int{power(252, 0), power(255, -1), power(255, 0), power(255, 1), power(256, -1), power(256, -2)}
	for n := range int64(18) {
		l = append(l, big.NewInt(n))
	}
	for _, k := range []int64{1, 2, 4, 8, 15} {
		l = append(l, times(order(), k, -1), times(order(), k, 0), times(order(), k, 1))
	}
	d := draw(2)
	for range 6 {
		l = append(l, numberOf(d.word()))
	}
	return l
}

// P7.2: multiples of points of the large group, of the small one and of neither.
func TestMul(t *testing.T) {
	for i, k := range points(t) {
		for j, n := range numbers() {
			if (i+j)%4 == 0 { // a part of all pairs, with every point and every number
				check(t, "a multiple of "+k.what, k.p.Mul(word(n)), k.at.times(n))
			}
		}
	}
}

// P7.2: small multiples are sums of so many copies; 0 times a point is the neutral point.
func TestMulIsManySums(t *testing.T) {
	for _, k := range points(t) {
		all := point.Nought()
		for n := range 20 {
			same(t, "a multiple of "+k.what, k.p.Mul([32]byte{byte(n)}), all)
			all = all.Add(k.p)
		}
	}
}

// P7.2: each of the 256 bits of the number counts, for itself and beside others.
func TestMulEachBit(t *testing.T) {
	whole := draw(3)
	n := whole.word()
	for _, at := range []place{base(), base().sum(eighth())} {
		p := of(t, at.bytes())
		all, double, place := p.Mul(n), p, at
		for bit := range 256 {
			var single [32]byte
			single[bit/8] = 1 << (bit % 8)
			check(t, "a power of 2", p.Mul(single), place)
			turned, more := n, double
			if turned[bit/8]&single[bit/8] != 0 {
				more = more.Neg()
			}
			turned[bit/8] ^= single[bit/8]
			if !p.Mul(turned).Equal(all.Add(more)) {
				t.Errorf("%x times %x, with bit %d turned, is %x", turned, p.Bytes(), bit, p.Mul(turned).Bytes())
			}
			double, place = double.Add(double), place.sum(place)
		}
	}
}

// P7.2: the public keys of Go's own Ed25519 are multiples of the base.
func TestPublicKeys(t *testing.T) {
	d := draw(4)
	for range 100 {
		seed := d.word()
		h := sha512.Sum512(seed[:])
		a := [32]byte(h[:32])
		a[0], a[31] = a[0]&0xf8, a[31]&0x7f|0x40
		want := ed25519.NewKeyFromSeed(seed[:]).Public().(ed25519.PublicKey)
		p := point.Base().Mul(a)
		if b := p.Bytes(); b != [32]byte(want) {
			t.Errorf("the public key of %x is %x, not %x", seed, b, want)
		}
		if q := of(t, [32]byte(want)); !q.Equal(p) {
			t.Errorf("the public key of %x is read as %x", seed, q.Bytes())
		}
	}
}

// same wants two points that are equal, with the same bytes.
func same(t *testing.T, law string, p, q point.Point) {
	t.Helper()
	if !p.Equal(q) || p.Bytes() != q.Bytes() {
		t.Errorf("%s: %x and %x", law, p.Bytes(), q.Bytes())
	}
}

// P7.3: sums commute and associate, and a point and its negative make the neutral point.
func TestLawsOfSums(t *testing.T) {
	l := points(t)
	for i, a := range l {
		same(t, "a sum with the negative", a.p.Add(a.p.Neg()), point.Nought())
		same(t, "a negative with the sum", a.p.Neg().Add(a.p), point.Nought())
		same(t, "a sum with the neutral point", a.p.Add(point.Nought()), a.p)
		same(t, "the neutral point with a sum", point.Nought().Add(a.p), a.p)
		for j, b := range l {
			c := l[(5*i+3*j+1)%len(l)]
			same(t, "sums commute", a.p.Add(b.p), b.p.Add(a.p))
			same(t, "sums associate", a.p.Add(b.p).Add(c.p), a.p.Add(b.p.Add(c.p)))
		}
	}
}

// P7.3: q times the base is the neutral point, and one less is not; 8q times any point is.
func TestOrder(t *testing.T) {
	b, q := point.Base(), scalar.Order()
	same(t, "q times the base", b.Mul(q), point.Nought())
	less := q
	less[0]--
	same(t, "one less", b.Mul(less), b.Neg())
	for _, k := range points(t) {
		same(t, "8q times "+k.what, k.p.Mul(word(times(order(), 8, 0))), point.Nought())
	}
	outside := of(t, eighth().bytes())
	if outside.Mul([32]byte{4}).Equal(point.Nought()) || outside.Mul(q).Equal(point.Nought()) {
		t.Error("a point outside the large group is taken to the neutral point by 4 or by q")
	}
}

// P7.3: a multiple by a sum of numbers is the sum of the multiples, and modulo q for multiples of the base.
func TestLawsOfMultiples(t *testing.T) {
	d := draw(5)
	for i, k := range points(t) {
		for range 3 {
			m, n := d.word(), d.word()
			m[31] &= 0x7f
			n[31] &= 0x7f
			sum := word(new(big.Int).Add(numberOf(m), numberOf(n)))
			same(t, "a multiple by a sum, of "+k.what, k.p.Mul(sum), k.p.Mul(m).Add(k.p.Mul(n)))
		}
		m, n := d.word(), d.word()
		b := point.Base()
		same(t, "a multiple by a sum of scalars", b.Mul(scalar.Add(m, n)), b.Mul(m).Add(b.Mul(n)))
		same(t, "a multiple of a multiple", b.Mul(m).Mul(n), b.Mul(scalar.Mul(m, n)))
		same(t, "a multiple of a sum", k.p.Add(b).Mul(n), k.p.Mul(n).Add(b.Mul(n)))
		same(t, "a sum of multiples", k.p.Mul([32]byte{byte(i)}).Add(k.p), k.p.Mul([32]byte{byte(i + 1)}))
	}
}
