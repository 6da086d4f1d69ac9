package poly_test

import (
	"bytes"
	"encoding/hex"
	"math/big"
	"math/rand/v2"
	"slices"
	"strings"
	"testing"

	"bastille/api"
	"bastille/poly"
)

// P10.1: a Number is an array of 17 bytes, so that any of them are one.
var _ [17]byte = poly.Number{}

func power(bit uint) *big.Int { return new(big.Int).Lsh(big.NewInt(1), bit) }

// times is a number k times, and a little more, or less.
func times(n *big.Int, k, more int64) *big.Int {
	product := new(big.Int).Mul(n, big.NewInt(k))
	return product.Add(product, big.NewInt(more))
}

// prime is 2^130 - 5.
func prime() *big.Int { return times(power(130), 1, -5) }

// low is a number as so many bytes, the lowest first.
func low(n *big.Int, size int) []byte {
	b := n.FillBytes(make([]byte, size))
	slices.Reverse(b)
	return b
}

// numberOf is the number of bytes, the lowest first.
func numberOf(b []byte) *big.Int {
	b = bytes.Clone(b)
	slices.Reverse(b)
	return new(big.Int).SetBytes(b)
}

// bytesOf is a Number of a number below 2^136, as it is.
func bytesOf(n *big.Int) poly.Number { return poly.Number(low(n, 17)) }

// modulo is the Number of any number modulo the prime.
func modulo(n *big.Int) poly.Number { return bytesOf(new(big.Int).Mod(n, prime())) }

// tag is the tag of a text as the chapter says it, in numbers without end.
func tag(key [32]byte, text []byte) [16]byte {
	r := numberOf(key[:16])
	for at := range uint(16) {
		for bit := range uint(8) {
			high := at%4 == 3 && bit >= 4
			below := at%4 == 0 && at > 0 && bit < 2
			if high || below {
				r.SetBit(r, int(8*at+bit), 0)
			}
		}
	}
	a := new(big.Int)
	for block := range slices.Chunk(text, 16) {
		a.Add(a, numberOf(append(bytes.Clone(block), 1)))
		a.Mul(a, r)
		a.Mod(a, prime())
	}
	a.Add(a, numberOf(key[16:]))
	return [16]byte(low(a.Mod(a, power(128)), 16))
}

// A draw is bytes that look like any, the same ones in each run.
type draw struct{ *rand.ChaCha8 }

func newDraw(n byte) draw { return draw{rand.NewChaCha8([32]byte{n})} }

func (d draw) bytes(size int) []byte {
	b := make([]byte, size)
	d.Read(b)
	return b
}

func (d draw) key() [32]byte { return [32]byte(d.bytes(32)) }

// numbers is numbers below 2^136, which Number has room for: small ones and the greatest ones, about multiples of the prime, about each byte's first and last bit, and some that look like any.
func numbers() []*big.Int {
	var l []*big.Int
	for n := range int64(7) {
		l = append(l, big.NewInt(n), times(power(136), 1, -1-n), times(prime(), 1, n), times(prime(), 1, -1-n))
	}
	for _, k := range []int64{2, 3, 4, 5, 8, 31, 32, 33, 63, 64} {
		l = append(l, times(prime(), k, -1), times(prime(), k, 0), times(prime(), k, 1))
	}
	for bit := uint(7); bit < 136; bit += 8 {
		l = append(l, times(power(bit), 1, -1), power(bit), power(bit+1), times(power(bit+1), 1, -1))
	}
	for _, bit := range []uint{129, 130, 131, 132} {
		l = append(l, times(power(bit), 1, -1), power(bit), times(power(bit), 1, 1))
	}
	d := newDraw(1)
	for range 15 {
		n := numberOf(d.bytes(17))
		l = append(l, n, new(big.Int).Mod(n, prime()))
	}
	return slices.DeleteFunc(l, func(n *big.Int) bool { return n.Cmp(power(136)) >= 0 })
}

// check wants the number modulo the prime.
func check(t *testing.T, what string, got poly.Number, n *big.Int) {
	t.Helper()
	if want := modulo(n); got != want {
		t.Errorf("%s = %x, not %x", what, got, want)
	}
}

// checkOf wants the number of bytes, which must stay as they are.
func checkOf(t *testing.T, b []byte) {
	t.Helper()
	before := bytes.Clone(b)
	n, e := poly.Of(b)
	if e != api.OK {
		t.Fatalf("Of(%x) = %x, %d", b, n, e)
	}
	check(t, "Of", n, numberOf(before))
	if !bytes.Equal(b, before) {
		t.Errorf("Of made %x of %x", b, before)
	}
}

// checkTag wants the tag of parts, which must stay as they are.
func checkTag(t *testing.T, key [32]byte, want [16]byte, parts ...[]byte) {
	t.Helper()
	before := slices.Concat(parts...)
	if got := poly.Tag(key, parts...); got != want {
		t.Errorf("Tag(%x) of %d bytes in %d parts = %x, not %x", key, len(before), len(parts), got, want)
	}
	if !bytes.Equal(slices.Concat(parts...), before) {
		t.Errorf("Tag changed its %d bytes", len(before))
	}
}

// P10.1: bytes of every length up to the limit: zero bytes, the greatest ones, single bits, and some that look like any.
func TestOf(t *testing.T) {
	checkOf(t, nil)
	d := newDraw(2)
	for size := range 18 {
		checkOf(t, make([]byte, size))
		checkOf(t, bytes.Repeat([]byte{0xff}, size))
		for bit := range 8 * size {
			checkOf(t, low(power(uint(bit)), size))
		}
		for range 20 {
			checkOf(t, d.bytes(size))
		}
	}
}

// P10.1: every multiple of the prime that has room, and the numbers next to it; 2^136 - 1 is the greatest one.
func TestOfMultiples(t *testing.T) {
	for k := range int64(65) {
		for more := int64(-6); more <= 6; more++ {
			n := times(prime(), k, more)
			if n.Sign() >= 0 {
				checkOf(t, low(n, 17))
			}
		}
	}
	for _, n := range numbers() {
		checkOf(t, low(n, 17))
	}
}

// P10.1: only the bytes that are given have a part in the number.
func TestOfPart(t *testing.T) {
	whole := bytes.Repeat([]byte{0xab}, 40)
	for _, b := range [][]byte{whole[:0], whole[:1], whole[3:19], whole[:17], whole[23:]} {
		checkOf(t, b)
	}
	if n, e := poly.Of([]byte{1, 2}); n != (poly.Number{1, 2}) || e != api.OK {
		t.Errorf("Of(01 02) = %x, %d", n, e)
	}
}

// P10.1: what is too long has no number, even if only zero bytes are too many.
func TestOfTooLong(t *testing.T) {
	for _, size := range []int{18, 19, 20, 32, 33, 34, 256, 273, api.MaxText, api.MaxText + 1} {
		for _, b := range [][]byte{make([]byte, size), bytes.Repeat([]byte{0xff}, size), append([]byte{7}, make([]byte, size-1)...)} {
			if n, e := poly.Of(b); n != (poly.Number{}) || e != api.ErrLimit {
				t.Errorf("Of of %d bytes = %x, %d", size, n, e)
			}
		}
	}
}

// P10.1: any 17 bytes are a number, of which Bytes are those modulo the prime; the number stays as it is.
func TestBytes(t *testing.T) {
	l := numbers()
	for k := range int64(65) {
		l = append(l, times(prime(), k, 0), times(prime(), k, 1), times(prime(), k, 4))
	}
	for _, n := range l {
		a := bytesOf(n)
		check(t, "Bytes", a.Bytes(), n)
		if a != bytesOf(n) {
			t.Errorf("Bytes made %x of %x", a, bytesOf(n))
		}
		if again := poly.Number(a.Bytes()).Bytes(); again != a.Bytes() {
			t.Errorf("Bytes of %x = %x, and of these %x", a, a.Bytes(), again)
		}
	}
}

// P10.1: sum and product of each pair of numbers, below the prime and above it, which stay as they are.
func TestArithmetic(t *testing.T) {
	l := numbers()
	for _, x := range l {
		for _, y := range l {
			a, b := bytesOf(x), bytesOf(y)
			check(t, "Add", a.Add(b), new(big.Int).Add(x, y))
			check(t, "Mul", a.Mul(b), new(big.Int).Mul(x, y))
			if a != bytesOf(x) || b != bytesOf(y) {
				t.Fatalf("%x and %x have become %x and %x", bytesOf(x), bytesOf(y), a, b)
			}
		}
	}
}

// P10.1: sum and product of each pair of bits.
func TestBits(t *testing.T) {
	for i := range uint(136) {
		for j := range uint(136) {
			x, y := power(i), power(j)
			check(t, "Add", bytesOf(x).Add(bytesOf(y)), new(big.Int).Add(x, y))
			check(t, "Mul", bytesOf(x).Mul(bytesOf(y)), power(i+j))
		}
	}
}

// P10.1: results written out.
func TestKnownResults(t *testing.T) {
	// The prime, the number below it, and 2^136 - 1, which is 319 more than 64 times the prime.
	p, minus, most := poly.Number{0: 0xfb, 16: 3}, poly.Number{0: 0xfa, 16: 3}, poly.Number{0: 0xff, 16: 0xff}
	for i := 1; i < 16; i++ {
		p[i], minus[i], most[i] = 0xff, 0xff, 0xff
	}
	for _, c := range []struct {
		what      string
		got, want poly.Number
	}{
		{"2 + 3", poly.Number{2}.Add(poly.Number{3}), poly.Number{5}},
		{"255 + 1", poly.Number{255}.Add(poly.Number{1}), poly.Number{0, 1}},
		{"2 * 3", poly.Number{2}.Mul(poly.Number{3}), poly.Number{6}},
		{"255 * 255", poly.Number{255}.Mul(poly.Number{255}), poly.Number{1, 254}},
		{"-1 + 1", minus.Add(poly.Number{1}), poly.Number{}},
		{"-1 + 0", minus.Add(poly.Number{}), minus},
		{"-1 + 7", minus.Add(poly.Number{7}), poly.Number{6}},
		{"-1 * -1", minus.Mul(minus), poly.Number{1}},
		{"-1 * 1", minus.Mul(poly.Number{1}), minus},
		{"-1 * 0", minus.Mul(poly.Number{}), poly.Number{}},
		{"p + 0", p.Add(poly.Number{}), poly.Number{}},
		{"p + p", p.Add(p), poly.Number{}},
		{"p * p", p.Mul(p), poly.Number{}},
		{"p * 1", p.Mul(poly.Number{1}), poly.Number{}},
		{"2^129 + 2^129", poly.Number{16: 2}.Add(poly.Number{16: 2}), poly.Number{5}},
		{"2^65 * 2^65", poly.Number{8: 2}.Mul(poly.Number{8: 2}), poly.Number{5}},
		{"2^128 * 2^8", poly.Number{16: 1}.Mul(poly.Number{1: 1}), poly.Number{64, 1}},
		{"2^130", poly.Number{16: 4}.Bytes(), poly.Number{5}},
		{"2^136 - 1", most.Bytes(), poly.Number{63, 1}},
		{"p", p.Bytes(), poly.Number{}},
		{"-1", minus.Bytes(), minus},
		{"2^136 - 1 + 2^136 - 1", most.Add(most), poly.Number{126, 2}},
		{"2^136 - 1, squared", most.Mul(most), poly.Number{0x81, 0x8d, 1}},
	} {
		if c.got != c.want {
			t.Errorf("%s = %x, not %x", c.what, c.got, c.want)
		}
	}
}

// P10.1: the bits that Clamp sets to 0 are these, whichever others there are.
func TestClamp(t *testing.T) {
	mask := [16]byte{
		0xff, 0xff, 0xff, 0x0f, 0xfc, 0xff, 0xff, 0x0f,
		0xfc, 0xff, 0xff, 0x0f, 0xfc, 0xff, 0xff, 0x0f,
	}
	d := newDraw(3)
	l := [][16]byte{{}, mask, [16]byte(bytes.Repeat([]byte{0xff}, 16))}
	for range 100 {
		l = append(l, [16]byte(d.bytes(16)))
	}
	for bit := range uint(128) {
		l = append(l, [16]byte(low(power(bit), 16)))
	}
	for _, b := range l {
		want := b
		for i := range want {
			want[i] &= mask[i]
		}
		if got := poly.Clamp(b); got != want {
			t.Errorf("Clamp(%x) = %x, not %x", b, got, want)
		}
		if got := poly.Clamp(want); got != want {
			t.Errorf("Clamp(%x) = %x: it is clamped already", want, got)
		}
	}
}

// zeros is so many zero bytes' digits.
func zeros(n int) string { return strings.Repeat("00", n) }

// ones is the digits of so many bytes that have only ones.
func ones(n int) string { return strings.Repeat("ff", n) }

// digitsOf is a text's bytes' digits.
func digitsOf(text string) string { return hex.EncodeToString([]byte(text)) }

// P10.2: the tags of RFC 8439, 2.5.2 and A.3. From the sixth one on, they are of numbers that are carried in rare ways.
func TestKnownTags(t *testing.T) {
	const half = "36e5f6b5c5e06070f0efca96227a863e"
	const ietf = "Any submission to the IETF intended by the Contributor for publication as all or part of an IETF Internet-Draft or RFC and any statement made within the context of an IETF activity is considered an \"IETF Contribution\". Such statements include oral statements in IETF sessions, as well as written and electronic communications made at any time or place, which are addressed to"
	const brillig = "'Twas brillig, and the slithy toves\nDid gyre and gimble in the wabe:\nAll mimsy were the borogoves,\nAnd the mome raths outgrabe."
	rare := "e33594d7505e43b9" + zeros(8) + "33" + "94d7505e4379cd01" + zeros(7) + zeros(16)
	for i, c := range []struct{ key, text, tag string }{
		{"85d6be7857556d337f4452fe42d506a80103808afb0db2fd4abff6af4149f51b", digitsOf("Cryptographic Forum Research Group"), "a8061dc1305136c6c22b8baf0c0127a9"},
		{zeros(32), zeros(64), zeros(16)},
		{zeros(16) + half, digitsOf(ietf), half},
		{half + zeros(16), digitsOf(ietf), "f3477e7cd95417af89a6b8794c310cf0"},
		{"1c9240a5eb55d38af333888604f6b5f0473917c1402b80099dca5cbc207075c0", digitsOf(brillig), "4541669a7eaaee61e708dc7cbcc5eb62"},
		{"02" + zeros(31), ones(16), "03" + zeros(15)},
		{"02" + zeros(15) + ones(16), "02" + zeros(15), "03" + zeros(15)},
		{"01" + zeros(31), ones(16) + "f0" + ones(15) + "11" + zeros(15), "05" + zeros(15)},
		{"01" + zeros(31), ones(16) + "fb" + strings.Repeat("fe", 15) + strings.Repeat("01", 16), zeros(16)},
		{"02" + zeros(31), "fd" + ones(15), "fa" + ones(15)},
		{"01" + zeros(7) + "04" + zeros(23), rare + "01" + zeros(15), "14" + zeros(7) + "55" + zeros(7)},
		{"01" + zeros(7) + "04" + zeros(23), rare, "13" + zeros(15)},
	} {
		key, text, want := [32]byte(decode(t, c.key)), decode(t, c.text), [16]byte(decode(t, c.tag))
		checkTag(t, key, want, text)
		if own := tag(key, text); own != want {
			t.Errorf("the test's own tag %d is %x, not %x", i, own, want)
		}
	}
}

// decode is the bytes of digits.
func decode(t *testing.T, digits string) []byte {
	t.Helper()
	b, err := hex.DecodeString(digits)
	if err != nil {
		t.Fatal(err)
	}
	return b
}

// P10.2: the tag of the empty text is the last 16 bytes of the key, however it is made of parts.
func TestEmptyText(t *testing.T) {
	d := newDraw(4)
	for range 20 {
		key := d.key()
		want := [16]byte(key[16:])
		checkTag(t, key, want)
		checkTag(t, key, want, nil)
		checkTag(t, key, want, []byte{})
		checkTag(t, key, want, nil, []byte{}, nil)
		checkTag(t, key, want, [][]byte{}...)
	}
}

// P10.2: texts of each length about the first blocks: any bytes, zero bytes (a text with one more has another tag) and ones alone.
func TestTagOfEachLength(t *testing.T) {
	d := newDraw(5)
	same := d.key()
	tags := map[[16]byte]int{}
	for size := range 200 {
		text, key := d.bytes(size), d.key()
		checkTag(t, key, tag(key, text), text)
		for _, b := range []byte{0, 0xff} {
			text := bytes.Repeat([]byte{b}, size)
			checkTag(t, same, tag(same, text), text)
		}
		tags[poly.Tag(same, make([]byte, size))] = size
	}
	if len(tags) != 200 {
		t.Errorf("200 texts of zero bytes have %d tags", len(tags))
	}
}

// P10.2: long texts. There is no limit.
func TestLongTexts(t *testing.T) {
	d := newDraw(6)
	for _, size := range []int{4095, 4096, 4097, api.MaxText - 1, api.MaxText, api.MaxText + 1, 2*api.MaxText + 3} {
		text, key := d.bytes(size), d.key()
		checkTag(t, key, tag(key, text), text)
		checkTag(t, key, tag(key, text), text[:size/3], text[size/3:])
	}
}

// P10.2: each bit of a key, set alone and turned. Those of the first half that are set to 0 have no part in the tag, all others have one.
func TestEachBitOfTheKey(t *testing.T) {
	d := newDraw(7)
	text := d.bytes(40)
	for _, key := range [][32]byte{{}, d.key(), [32]byte(bytes.Repeat([]byte{0xff}, 32))} {
		before := poly.Tag(key, text)
		for bit := range 256 {
			turned := key
			turned[bit/8] ^= 1 << (bit % 8)
			checkTag(t, turned, tag(turned, text), text)
			counts := bit >= 128 || poly.Clamp([16]byte(turned[:16])) != poly.Clamp([16]byte(key[:16]))
			if got := poly.Tag(turned, text); (got != before) != counts {
				t.Errorf("with bit %d of %x turned, the tag is %x, and was %x", bit, key, got, before)
			}
		}
	}
}

// P10.2: each bit of a text has a part in the tag.
func TestEachBitOfTheText(t *testing.T) {
	d := newDraw(8)
	key, text := d.key(), d.bytes(50)
	tags := map[[16]byte]bool{poly.Tag(key, text): true}
	for bit := range 8 * len(text) {
		text[bit/8] ^= 1 << (bit % 8)
		checkTag(t, key, tag(key, text), text)
		tags[poly.Tag(key, text)] = true
		text[bit/8] ^= 1 << (bit % 8)
	}
	if len(tags) != 8*len(text)+1 {
		t.Errorf("%d texts have %d tags", 8*len(text)+1, len(tags))
	}
}

// P10.2: few kinds of blocks in all orders, with keys of few bits, of the most, and such that a sum with s begins again at 0.
func TestCarriedTags(t *testing.T) {
	full := bytes.Repeat([]byte{0xff}, 16)
	blocks := [][]byte{full, make([]byte, 16), append([]byte{0xfb}, full[1:]...), append([]byte{0xfc}, full[1:]...), {0xff}, {0}}
	var texts [][]byte
	for _, a := range blocks {
		texts = append(texts, a)
		for _, b := range blocks {
			texts = append(texts, slices.Concat(a, b))
			for _, c := range blocks {
				texts = append(texts, slices.Concat(a, b, c))
			}
		}
	}
	for _, r := range [][]byte{{}, {1}, {2}, {4}, {0xff}, {8: 4}, {15: 8}, {15: 0x0f}, full} {
		for _, s := range [][]byte{{}, {1}, {0xfb, 15: 0}, {15: 0x80}, append([]byte{0xfe}, full[1:]...), full} {
			var key [32]byte
			copy(key[:16], r)
			copy(key[16:], s)
			for _, text := range texts {
				checkTag(t, key, tag(key, text), text)
			}
		}
	}
}

// P10.3: a text in two parts and in three, wherever it is cut, and with parts of no bytes between.
func TestCuts(t *testing.T) {
	d := newDraw(9)
	key, text := d.key(), d.bytes(53)
	want := tag(key, text)
	for i := range len(text) + 1 {
		checkTag(t, key, want, text[:i], text[i:])
		checkTag(t, key, want, nil, text[:i], []byte{}, nil, text[i:], []byte{})
		for j := i; j <= len(text); j++ {
			checkTag(t, key, want, text[:i], text[i:j], text[j:])
		}
	}
}

// P10.3: texts of each length in parts of each size, and in parts of any.
func TestParts(t *testing.T) {
	d := newDraw(10)
	key := d.key()
	for size := 1; size < 70; size++ {
		text := d.bytes(size)
		want := tag(key, text)
		for part := 1; part <= size; part++ {
			checkTag(t, key, want, slices.Collect(slices.Chunk(text, part))...)
		}
	}
	text := d.bytes(1000)
	want := tag(key, text)
	for range 200 {
		var parts [][]byte
		for rest := text; len(rest) > 0; {
			n := min(int(d.Uint64()%40), len(rest))
			parts = append(parts, rest[:n])
			rest = rest[n:]
		}
		checkTag(t, key, want, parts...)
	}
}

// P10.3: parts may be the same bytes, or overlap; bytes behind a part have no share in the tag.
func TestPartsOfOne(t *testing.T) {
	d := newDraw(11)
	key, whole := d.key(), d.bytes(64)
	for i := range whole {
		a, b := whole[:i], whole[i/2:]
		checkTag(t, key, tag(key, slices.Concat(a, a)), a, a)
		checkTag(t, key, tag(key, slices.Concat(a, b, a)), a, b, a)
	}
}

// P10.3: multiplication distributes over addition, and what else holds of sums and products, for each pair and for some third ones.
func TestLaws(t *testing.T) {
	l := numbers()
	same := func(law string, a, b poly.Number) {
		t.Helper()
		if a != b {
			t.Errorf("%s: %x and %x", law, a, b)
		}
	}
	for i, x := range l {
		a := bytesOf(x)
		same("0 in a sum", a.Add(poly.Number{}), a.Bytes())
		same("1 in a product", a.Mul(poly.Number{1}), a.Bytes())
		for j, y := range l {
			b, c := bytesOf(y), bytesOf(l[(11*i+5*j)%len(l)])
			ab, sum := a.Mul(b), b.Add(c)
			same("sums commute", a.Add(b), b.Add(a))
			same("products commute", ab, b.Mul(a))
			same("sums associate", a.Add(b).Add(c), a.Add(sum))
			same("products associate", ab.Mul(c), a.Mul(b.Mul(c)))
			same("a product of a sum", a.Mul(sum), ab.Add(a.Mul(c)))
			same("a sum times a number", sum.Mul(a), ab.Add(c.Mul(a)))
		}
	}
}
