package ladder_test

import (
	"crypto/ecdh"
	"encoding/hex"
	"slices"
	"testing"

	"bastille/api"
	"bastille/ladder"
)

// bytesOf is the 32 bytes that digits stand for.
func bytesOf(t *testing.T, digits string) [32]byte {
	t.Helper()
	b, err := hex.DecodeString(digits)
	if err != nil || len(b) != 32 {
		t.Fatalf("%q is not 32 bytes", digits)
	}
	return [32]byte(b)
}

// full is 32 bytes of ones alone, but for the first and the last one.
func full(first, last byte) [32]byte {
	b := [32]byte(slices.Repeat([]byte{0xff}, 32))
	b[0], b[31] = first, last
	return b
}

// flipped is bytes with one bit turned.
func flipped(b [32]byte, bit int) [32]byte {
	b[bit/8] ^= 1 << (bit % 8)
	return b
}

// A draw is bytes that look like any, the same ones in each run.
type draw uint64

func (d *draw) bytes() [32]byte {
	var b [32]byte
	for i := range b {
		*d = *d*6364136223846793005 + 1442695040888963407
		b[i] = byte(*d >> 56)
	}
	return b
}

// secrets is secrets with long runs of equal bits, with bits that alternate, and some others.
func secrets() [][32]byte {
	l := [][32]byte{{}, {1}, {8}, {7}, {31: 0x40}, {31: 0x80}, full(0xff, 0xff), full(0xf8, 0x7f), full(0, 0)}
	for _, b := range []byte{0x55, 0xaa, 0x33, 0xf0} {
		l = append(l, [32]byte(slices.Repeat([]byte{b}, 32)))
	}
	d := draw(5)
	for range 6 {
		l = append(l, d.bytes())
	}
	return l
}

// points is points of the curve and of its twist, the prime and numbers about it, and some with the most significant bit; none that vanish.
func points() [][32]byte {
	var l [][32]byte
	for n := range byte(20) {
		l = append(l, [32]byte{2 + n}, full(0xff-n, 0xff))
	}
	l = append(l, [32]byte{15: 1}, [32]byte{31: 0x40}, full(0, 0))
	d := draw(6)
	for range 10 {
		l = append(l, d.bytes())
	}
	return slices.DeleteFunc(l, func(p [32]byte) bool {
		return slices.Contains(vanishing(), flipped(p, 255)) || slices.Contains(vanishing(), p)
	})
}

// vanishing is the points that every secret takes to 0: those of which a small multiple is at infinity, 0, and the same with the prime added.
func vanishing() [][32]byte {
	eighths := [][32]byte{
		{0xe0, 0xeb, 0x7a, 0x7c, 0x3b, 0x41, 0xb8, 0xae, 0x16, 0x56, 0xe3, 0xfa, 0xf1, 0x9f, 0xc4, 0x6a, 0xda, 0x09, 0x8d, 0xeb, 0x9c, 0x32, 0xb1, 0xfd, 0x86, 0x62, 0x05, 0x16, 0x5f, 0x49, 0xb8, 0x00},
		{0x5f, 0x9c, 0x95, 0xbc, 0xa3, 0x50, 0x8c, 0x24, 0xb1, 0xd0, 0xb1, 0x55, 0x9c, 0x83, 0xef, 0x5b, 0x04, 0x44, 0x5c, 0xc4, 0x58, 0x1c, 0x8e, 0x86, 0xd8, 0x22, 0x4e, 0xdd, 0xd0, 0x9f, 0x11, 0x57},
	}
	return append(eighths, [32]byte{}, [32]byte{1}, full(0xec, 0x7f), full(0xed, 0x7f), full(0xee, 0x7f))
}

// other is what Go's own X25519 makes of a secret and a point: nothing, if that is 0.
func other(t *testing.T, secret, point [32]byte) ([32]byte, bool) {
	t.Helper()
	s, err := ecdh.X25519().NewPrivateKey(secret[:])
	if err != nil {
		t.Fatal(err)
	}
	p, err := ecdh.X25519().NewPublicKey(point[:])
	if err != nil {
		t.Fatal(err)
	}
	b, err := s.ECDH(p)
	if err != nil {
		return [32]byte{}, false
	}
	return [32]byte(b), true
}

// check wants a result that is not 0, of Mul and of Shared.
func check(t *testing.T, secret, point, want [32]byte) {
	t.Helper()
	if b := ladder.Mul(secret, point); b != want {
		t.Errorf("Mul(%x, %x) = %x, not %x", secret, point, b, want)
	}
	if b, e := ladder.Shared(secret, point); b != want || e != api.OK {
		t.Errorf("Shared(%x, %x) = %x, %d, not %x", secret, point, b, e, want)
	}
}

// P5.1: RFC 7748, 5.2: single results; the second point has the most significant bit.
func TestKnownResults(t *testing.T) {
	for _, c := range []struct{ secret, point, want string }{
		{
			"a546e36bf0527c9d3b16154b82465edd62144c0ac1fc5a18506a2244ba449ac4",
			"e6db6867583030db3594c1a424b15f7c726624ec26b3353b10a903a6d0ab1c4c",
			"c3da55379de9c6908e94ea4df28d084f32eccf03491c71f754b4075577a28552",
		},
		{
			"4b66e9d4d1b4673c5ad22691957d6af5c11b6421e0ea01d42ca4169e7918ba0d",
			"e5210f12786811d3f4b7959d0538ae2c31dbe7106fc03c3efc4cd549c715a493",
			"95cbde9476e8907d7aade45cb4b873f88b595a68799fa152e6f8f7647aac7957",
		},
	} {
		check(t, bytesOf(t, c.secret), bytesOf(t, c.point), bytesOf(t, c.want))
	}
}

// P5.1: RFC 7748, 5.2: each result is the next secret, and each secret the next point.
func TestKnownIterations(t *testing.T) {
	secret, point := ladder.Base(), ladder.Base()
	for n := 1; n <= 1000; n++ {
		secret, point = ladder.Mul(secret, point), secret
		if n == 1 && secret != bytesOf(t, "422c8e7a6227d7bca1350b3e2bb7279f7897b87bb6854b783c60e80311ae3079") {
			t.Errorf("after one: %x", secret)
		}
	}
	if secret != bytesOf(t, "684cf59ba83309552800ef566f2f4d3c1c3887c49360e3875f2eb94d99532c51") {
		t.Errorf("after 1000: %x", secret)
	}
}

// P5.1: against Go's own X25519, for each secret and each point.
func TestMul(t *testing.T) {
	for _, secret := range secrets() {
		for _, point := range points() {
			want, ok := other(t, secret, point)
			if !ok {
				t.Fatalf("%x vanishes", point)
			}
			check(t, secret, point, want)
		}
	}
}

// P5.1: each bit of a secret that Clamp leaves has its part in the result, and each other bit has none.
func TestEachBitOfTheSecret(t *testing.T) {
	d := draw(7)
	secret, point := d.bytes(), d.bytes()
	whole := ladder.Mul(secret, point)
	for bit := range 256 {
		turned := flipped(secret, bit)
		want, _ := other(t, turned, point)
		check(t, turned, point, want)
		if same := bit < 3 || bit >= 254; same != (want == whole) {
			t.Errorf("bit %d: the result is %x, and without it turned %x", bit, want, whole)
		}
	}
}

// P5.1: a point is a number modulo the prime, without the most significant bit.
func TestPointModuloThePrime(t *testing.T) {
	secret := secrets()[len(secrets())-1]
	for _, point := range points() {
		check(t, secret, flipped(point, 255), ladder.Mul(secret, point))
	}
	for n := byte(2); n < 19; n++ {
		want := ladder.Mul(secret, [32]byte{n})
		check(t, secret, full(0xed+n, 0x7f), want)
		check(t, secret, full(0xed+n, 0xff), want)
	}
}

// P5.1: points of which every result is 0 are none for Shared.
func TestVanishingPoints(t *testing.T) {
	for _, secret := range secrets() {
		for _, point := range vanishing() {
			for _, p := range [][32]byte{point, flipped(point, 255)} {
				if b := ladder.Mul(secret, p); b != [32]byte{} {
					t.Errorf("Mul(%x, %x) = %x, not 0", secret, p, b)
				}
				if b, e := ladder.Shared(secret, p); b != [32]byte{} || e != api.ErrPoint {
					t.Errorf("Shared(%x, %x) = %x, %d", secret, p, b, e)
				}
			}
		}
	}
}

// P5.1: only if all bytes of a result are zero, there is none: for each byte, a result in which no other one is.
func TestResultsOfOneByte(t *testing.T) {
	// In the large group of the curve, each of these secrets takes back what the other one does, but for the sign.
	secret := [32]byte{31: 0x40}
	back := bytesOf(t, "d86a32f241e6f7a27f11bfba4ab520c7052517c0f12ac67af2b90564434e9258")
	for i := range 32 {
		found := false
		for n := byte(1); n < 128 && !found; n++ {
			var want [32]byte
			want[i] = n
			point, _ := other(t, back, want)
			if b, ok := other(t, secret, point); ok && b == want {
				check(t, secret, point, want)
				found = true
			}
		}
		if !found {
			t.Errorf("no result has the byte %d alone", i)
		}
	}
}

// P5.1: the point 9, and what a secret makes of it.
func TestPublic(t *testing.T) {
	if b := ladder.Base(); b != [32]byte{9} {
		t.Errorf("Base = %x", b)
	}
	for _, secret := range secrets() {
		key, err := ecdh.X25519().NewPrivateKey(secret[:])
		if err != nil {
			t.Fatal(err)
		}
		p := ladder.Public(secret)
		if p != [32]byte(key.PublicKey().Bytes()) || p != ladder.Mul(secret, ladder.Base()) {
			t.Errorf("Public(%x) = %x", secret, p)
		}
	}
}

// P5.1: five bits are set, and no other one changes.
func TestClamp(t *testing.T) {
	for _, c := range []struct{ secret, want [32]byte }{
		{[32]byte{}, [32]byte{31: 0x40}},
		{full(0xff, 0xff), full(0xf8, 0x7f)},
		{full(0x07, 0x80), full(0x00, 0x40)},
		{[32]byte{255}, [32]byte{0xf8, 31: 0x40}},
		{[32]byte{8, 31: 0xbf}, [32]byte{8, 31: 0x7f}},
	} {
		if b := ladder.Clamp(c.secret); b != c.want {
			t.Errorf("Clamp(%x) = %x, not %x", c.secret, b, c.want)
		}
	}
	for bit := range 256 {
		want := [32]byte{31: 0x40}
		if bit >= 3 && bit < 254 {
			want = flipped(want, bit)
		}
		if b := ladder.Clamp(flipped([32]byte{}, bit)); b != want {
			t.Errorf("Clamp of bit %d alone = %x", bit, b)
		}
	}
	for _, secret := range secrets() {
		if b := ladder.Clamp(secret); ladder.Clamp(b) != b {
			t.Errorf("Clamp(%x) = %x, and of that another one", secret, b)
		}
	}
}

// P5.2: RFC 7748, 6.1: two parties and what they compute.
func TestKnownParties(t *testing.T) {
	alice := bytesOf(t, "77076d0a7318a57d3c16c17251b26645df4c2f87ebc0992ab177fba51db92c2a")
	bob := bytesOf(t, "5dab087e624a8a4b79e17f8b83800ee66f3bb1292618b6fd1c2f8b27ff88e0eb")
	a, b := ladder.Public(alice), ladder.Public(bob)
	if a != bytesOf(t, "8520f0098930a754748b7ddcb43ef75a0dbf3a0d26381af4eba4a98eaa9b4e6a") {
		t.Errorf("the public key of a is %x", a)
	}
	if b != bytesOf(t, "de9edb7d7b7dc1b4d35b61c2ece435373f8343c85b78674dadfc7e146f882b4f") {
		t.Errorf("the public key of b is %x", b)
	}
	want := bytesOf(t, "4a5d9d5ba4ce2de1728e3bf480350f25e07e21c947d19e3376f09b3c1e161742")
	check(t, alice, b, want)
	check(t, bob, a, want)
}

// P5.2: each two secrets come to the same, from the base and from any other point.
func TestSameForBoth(t *testing.T) {
	l := secrets()
	for i, a := range l {
		for _, b := range l[:i+1] {
			x, e := ladder.Shared(a, ladder.Public(b))
			y, f := ladder.Shared(b, ladder.Public(a))
			if x != y || e != api.OK || f != api.OK {
				t.Errorf("%x and %x come to %x and %x, %d and %d", a, b, x, y, e, f)
			}
		}
		b, point := l[(i+5)%len(l)], points()[i]
		if x, y := ladder.Mul(a, ladder.Mul(b, point)), ladder.Mul(b, ladder.Mul(a, point)); x != y {
			t.Errorf("%x and %x come from %x to %x and %x", a, b, point, x, y)
		}
	}
}

// P5.2: secrets that differ in bits that Clamp sets have the same public key.
func TestSameAfterClamp(t *testing.T) {
	for _, secret := range secrets() {
		want := ladder.Public(ladder.Clamp(secret))
		for n := range byte(32) {
			s := secret
			s[0] = s[0]&0xf8 | n&7
			s[31] = s[31]&0x3f | n>>3<<6
			if ladder.Clamp(s) != ladder.Clamp(secret) {
				t.Fatalf("Clamp(%x) and Clamp(%x) differ", s, secret)
			}
			if p := ladder.Public(s); p != want {
				t.Errorf("Public(%x) = %x, not %x", s, p, want)
			}
		}
	}
}
