package sha_test

import (
	"bytes"
	"crypto/sha512"
	"math"
	"math/big"
	"slices"
	"strings"
	"testing"

	"bastille/api"
	"bastille/sha"
)

// hashes is strings and their hashes, as FIPS 180-4's examples have them.
func hashes() map[string]string {
	return map[string]string{
		"":    "cf83e1357eefb8bdf1542850d66d8007d620e4050b5715dc83f4a921d36ce9ce47d0d13c5d85f2b0ff8318d2877eec2f63b931bd47417a81a538327af927da3e",
		"abc": "ddaf35a193617abacc417349ae20413112e6fa4e89a97ea20a9eeee64b55d39a2192992a274fc1a836ba3c23a3feebbd454d4423643ce80e2a9ac94fa54ca49f",
		"abcdefghbcdefghicdefghijdefghijkefghijklfghijklmghijklmnhijklmnoijklmnopjklmnopqklmnopqrlmnopqrsmnopqrstnopqrstu": "8e959b75dae313da8cf4f72814fc143f8f7779c6eb9f7fa17299aeadb6889018501d289e4900f7e4331b99dec4b5433ac7d329eeb6dd26545e96e55b874be909",
		strings.Repeat("a", 1000000): "e718483d0ce769644e2e42c7bc15b4638e1f98b13b2044285632a803afa973ebde0ff244877ea60a4cb0432ce577c31beb009c5c2c49aa2e4eadb217ad8cc09b",
	}
}

// text is so many bytes, no two neighbours the same.
func text(n int) []byte {
	b := make([]byte, n)
	for i := range b {
		b[i] = byte(i*i + 3*i)
	}
	return b
}

// check wants a hash of parts, by both calls.
func check(t *testing.T, want [64]byte, parts ...[]byte) {
	t.Helper()
	if s := sha.Sum(parts...); s != want {
		t.Errorf("Sum of %d parts = %x, not %x", len(parts), s, want)
	}
	if h := sha.Half(parts...); !bytes.Equal(h[:], want[:32]) {
		t.Errorf("Half of %d parts = %x, not %x", len(parts), h, want[:32])
	}
}

// P3.1: the hashes of known strings, and their digits.
func TestKnownHashes(t *testing.T) {
	for text, want := range hashes() {
		s, h := sha.Sum([]byte(text)), sha.Half([]byte(text))
		if got := sha.Hex(s[:]); got != want {
			t.Errorf("Sum of %d bytes = %s, not %s", len(text), got, want)
		}
		if got := sha.Hex(h[:]); got != want[:64] {
			t.Errorf("Half of %d bytes = %s, not %s", len(text), got, want[:64])
		}
	}
}

// P3.1: strings of each length around the first blocks, and a long one, against Go's own hash.
func TestHashOfEachLength(t *testing.T) {
	for n := range 520 {
		b := text(n)
		check(t, sha512.Sum512(b), b)
		b = bytes.Repeat([]byte{0xff}, n)
		check(t, sha512.Sum512(b), b)
	}
	b := text(1<<20 + 1)
	check(t, sha512.Sum512(b), b)
}

// P3.1: no parts are an empty string.
func TestHashOfNothing(t *testing.T) {
	want := sha512.Sum512(nil)
	check(t, want)
	check(t, want, nil)
	check(t, want, []byte{}, nil, []byte{})
}

// P3.3: every division into two parts, with empty ones between, and bytes one by one.
func TestPartsDoNotMatter(t *testing.T) {
	for _, n := range []int{1, 2, 3, 111, 112, 127, 128, 129, 240, 256, 257} {
		b := text(n)
		want := sha512.Sum512(b)
		for i := range n + 1 {
			check(t, want, b[:i], b[i:])
			check(t, want, nil, b[:i], []byte{}, b[i:i+(n-i)/2], b[i+(n-i)/2:], nil)
		}
		check(t, want, slices.Collect(slices.Chunk(b, 1))...)
	}
}

// P3.1: hashing leaves the parts as they were.
func TestPartsAreKept(t *testing.T) {
	room := bytes.Repeat([]byte{7}, 400)
	parts := [][]byte{room[:100:400], room[200:300:400]}
	sha.Sum(parts...)
	sha.Half(parts...)
	if !bytes.Equal(room, bytes.Repeat([]byte{7}, 400)) || len(parts[0]) != 100 || len(parts[1]) != 100 {
		t.Error("the parts have been changed")
	}
}

// padding is what must follow n bytes: 80, so many zero bytes, and the number of bits.
func padding(zeros int, bits ...byte) []byte {
	return slices.Concat([]byte{0x80}, make([]byte, zeros+16-len(bits)), bits)
}

// P3.1: the padding of the lengths at which it becomes shortest and longest, and at the limit.
func TestPad(t *testing.T) {
	for n, want := range map[int][]byte{
		0:         padding(111),
		1:         padding(110, 8),
		31:        padding(80, 248),
		32:        padding(79, 1, 0),
		110:       padding(1, 3, 0x70),
		111:       padding(0, 3, 0x78),
		112:       padding(127, 3, 0x80),
		113:       padding(126, 3, 0x88),
		127:       padding(112, 3, 0xf8),
		128:       padding(111, 4, 0),
		239:       padding(0, 7, 0x78),
		240:       padding(127, 7, 0x80),
		1 << 20:   padding(111, 0x80, 0, 0),
		1<<29 - 1: padding(112, 0xff, 0xff, 0xff, 0xf8),
		1 << 29:   padding(111, 1, 0, 0, 0, 0),
		1<<40 - 1: padding(112, 7, 0xff, 0xff, 0xff, 0xff, 0xf8),
		1 << 40:   padding(111, 8, 0, 0, 0, 0, 0),
	} {
		if b := sha.Pad(n); !bytes.Equal(b, want) {
			t.Errorf("Pad(%d) = % x, not % x", n, b, want)
		}
	}
}

// P3.1: lengths that have no padding.
func TestPadOfNoLength(t *testing.T) {
	for _, n := range []int{-1, -17, -128, -1 << 40, math.MinInt, 1<<40 + 1, 1<<40 + 128, 1 << 61, 1<<61 + 1, math.MaxInt} {
		if b := sha.Pad(n); len(b) != 0 {
			t.Errorf("Pad(%d) = % x", n, b)
		}
	}
}

// P3.3: string and padding together are whole blocks, and no padding is longer than it has to be.
func TestPadFillsBlocks(t *testing.T) {
	for _, from := range []int{0, 1<<20 - 7, 1<<31 - 300, 1<<40 - 1023} {
		for n := from; n < from+1024; n++ {
			p := len(sha.Pad(n))
			if (n+p)%128 != 0 || p < 17 || p > 144 {
				t.Errorf("Pad(%d) has %d bytes", n, p)
			}
		}
	}
}

// P3.1: a caller's bytes of a padding are its own.
func TestPadIsNew(t *testing.T) {
	clear(sha.Pad(111))
	if b := sha.Pad(111); b[0] != 0x80 {
		t.Errorf("Pad(111) = % x after another one was changed", b)
	}
}

// rooted is whether x stands behind the point of the k-th root of p: the number cut there is at most the root, and the next one is more.
func rooted(x uint64, p, k int) bool {
	for whole := range 24 {
		low := new(big.Int).Lsh(big.NewInt(int64(whole)), 64)
		low.Add(low, new(big.Int).SetUint64(x))
		next := new(big.Int).Add(low, big.NewInt(1))
		power := big.NewInt(int64(k))
		limit := new(big.Int).Lsh(big.NewInt(int64(p)), uint(64*k))
		if low.Exp(low, power, nil).Cmp(limit) <= 0 && next.Exp(next, power, nil).Cmp(limit) > 0 {
			return true
		}
	}
	return false
}

// P3.2: all roots that there are.
func TestEachRoot(t *testing.T) {
	for k := 2; k <= 3; k++ {
		for p := 2; p <= 500; p++ {
			if x, e := sha.Root(p, k); e != api.OK || !rooted(x, p, k) {
				t.Errorf("Root(%d, %d) = %x, %d", p, k, x, e)
			}
		}
	}
}

// P3.2: roots written out; of squares and cubes nothing is behind the point.
func TestKnownRoots(t *testing.T) {
	for _, c := range []struct {
		p, k int
		want uint64
	}{
		{2, 2, 0x6a09e667f3bcc908},
		{3, 2, 0xbb67ae8584caa73b},
		{5, 2, 0x3c6ef372fe94f82b},
		{19, 2, 0x5be0cd19137e2179},
		{2, 3, 0x428a2f98d728ae22},
		{3, 3, 0x7137449123ef65cd},
		{409, 3, 0x6c44198c4a475817},
		{4, 2, 0}, {9, 2, 0}, {16, 2, 0}, {441, 2, 0}, {484, 2, 0},
		{8, 3, 0}, {27, 3, 0}, {64, 3, 0}, {343, 3, 0},
	} {
		if x, e := sha.Root(c.p, c.k); e != api.OK || x != c.want {
			t.Errorf("Root(%d, %d) = %x, %d, not %x", c.p, c.k, x, e, c.want)
		}
	}
}

// P3.2: arguments of which there is no root.
func TestNoRoot(t *testing.T) {
	for _, p := range []int{math.MinInt, -2, -1, 0, 1, 501, 502, 1 << 32, 1<<32 + 2, math.MaxInt} {
		for k := 1; k <= 4; k++ {
			checkNoRoot(t, p, k)
		}
	}
	for _, k := range []int{math.MinInt, -3, -2, -1, 0, 1, 4, 5, 6, 64, 1<<32 + 2, math.MaxInt} {
		for _, p := range []int{1, 2, 4, 500, 501} {
			checkNoRoot(t, p, k)
		}
	}
}

func checkNoRoot(t *testing.T, p, k int) {
	t.Helper()
	if x, e := sha.Root(p, k); e != api.ErrArg || x != 0 {
		t.Errorf("Root(%d, %d) = %x, %d", p, k, x, e)
	}
}

// P3.1: K(t) belongs to the t-th prime.
func TestKinds(t *testing.T) {
	p := int64(1)
	for i, x := range sha.Kinds() {
		for p++; !big.NewInt(p).ProbablyPrime(0); p++ {
		}
		if !rooted(x, int(p), 3) {
			t.Errorf("K(%d) = %x does not belong to %d", i, x, p)
		}
	}
	k := sha.Kinds()
	if k[0] != 0x428a2f98d728ae22 || k[79] != 0x6c44198c4a475817 {
		t.Errorf("K(0) = %x, K(79) = %x", k[0], k[79])
	}
}

// P3.1: a caller's numbers are its own.
func TestKindsAreNew(t *testing.T) {
	k := sha.Kinds()
	clear(k[:])
	if sha.Kinds()[0] == 0 {
		t.Error("Kinds answers what a caller has changed")
	}
}

// P3.1: two digits for each byte.
func TestHex(t *testing.T) {
	for _, c := range []struct {
		b    []byte
		want string
	}{
		{nil, ""},
		{[]byte{}, ""},
		{[]byte{0}, "00"},
		{[]byte{0x0f, 0xf0, 0xff}, "0ff0ff"},
		{[]byte{0, 0, 1}, "000001"},
		{[]byte{0x01, 0x23, 0x45, 0x67, 0x89, 0xab, 0xcd, 0xef}, "0123456789abcdef"},
		{[]byte("abc"), "616263"},
	} {
		if h := sha.Hex(c.b); h != c.want {
			t.Errorf("Hex(% x) = %s", c.b, h)
		}
	}
	const digits = "0123456789abcdef"
	for i := range 256 {
		if h := sha.Hex([]byte{byte(i)}); h != digits[i/16:i/16+1]+digits[i%16:i%16+1] {
			t.Errorf("Hex of %d = %s", i, h)
		}
	}
}
