package sign_test

import (
	"bytes"
	"crypto/ed25519"
	"crypto/sha512"
	"encoding/hex"
	"math/big"
	"slices"
	"testing"

	"bastille/api"
	"bastille/point"
	"bastille/scalar"
	"bastille/sign"
)

// A draw is bytes that look like any, the same ones in each run.
type draw uint64

func (d *draw) bytes(size int) []byte {
	b := make([]byte, size)
	for i := range b {
		*d = *d*6364136223846793005 + 1442695040888963407
		b[i] = byte(*d >> 56)
	}
	return b
}

func (d *draw) word() [32]byte { return [32]byte(d.bytes(32)) }

// seeds is seeds of single bytes and bits, and some that look like any.
func seeds() [][32]byte {
	l := [][32]byte{{}, {1}, {31: 1}, {31: 0x80}, [32]byte(bytes.Repeat([]byte{0xff}, 32))}
	d := draw(8)
	for range 8 {
		l = append(l, d.word())
	}
	return l
}

// bytesOf is the bytes that digits stand for.
func bytesOf(t *testing.T, digits string) []byte {
	t.Helper()
	b, err := hex.DecodeString(digits)
	if err != nil {
		t.Fatal(err)
	}
	return b
}

// flipped is a copy of bytes with one bit turned.
func flipped(b []byte, bit int) []byte {
	b = bytes.Clone(b)
	b[bit/8] ^= 1 << (bit % 8)
	return b
}

// order is 2^252 + 27742317777372353535851937790883648493.
func order() *big.Int {
	n, _ := new(big.Int).SetString("27742317777372353535851937790883648493", 10)
	return n.SetBit(n, 252, 1)
}

// low is the 32 bytes of a number below 2^256, the lowest first.
func low(n *big.Int) [32]byte {
	var b [32]byte
	n.FillBytes(b[:])
	slices.Reverse(b[:])
	return b
}

// numberOf is the number of bytes, the lowest first.
func numberOf(b []byte) *big.Int {
	b = bytes.Clone(b)
	slices.Reverse(b)
	return new(big.Int).SetBytes(b)
}

// scalarOf is the bytes of the number of the hash of parts, modulo the order.
func scalarOf(parts ...[]byte) [32]byte {
	h := sha512.Sum512(slices.Concat(parts...))
	return low(new(big.Int).Mod(numberOf(h[:]), order()))
}

// together is a signature of its two halves.
func together(first, second [32]byte) []byte { return slices.Concat(first[:], second[:]) }

// check wants a public key and a signature of all who give them: Public and Sign, and a signer that is new and one that has signed.
func check(t *testing.T, seed [32]byte, text []byte, public [32]byte, signature [64]byte) {
	t.Helper()
	before := bytes.Clone(text)
	if p := sign.Public(seed); p != public {
		t.Errorf("Public(%x) = %x, not %x", seed, p, public)
	}
	if x := sign.Sign(seed, text); x != signature {
		t.Errorf("Sign(%x) of %d bytes = %x, not %x", seed, len(text), x, signature)
	}
	s := sign.Key(seed)
	for range 2 {
		if x, e := s.Sign(text); x != signature || e != api.OK {
			t.Errorf("the signer of %x: Sign of %d bytes = %x, %d, not %x", seed, len(text), x, e, signature)
		}
		if p, e := s.Public(); p != public || e != api.OK {
			t.Errorf("the signer of %x: Public = %x, %d, not %x", seed, p, e, public)
		}
	}
	checkVerify(t, "a signature", public, text, signature[:], api.OK)
	if !bytes.Equal(text, before) {
		t.Errorf("a text of %d bytes was changed", len(text))
	}
}

// checkVerify wants an error of Verify, and its arguments as they are.
func checkVerify(t *testing.T, what string, public [32]byte, text, signature []byte, want api.Errno) {
	t.Helper()
	x, b := bytes.Clone(text), bytes.Clone(signature)
	if e := sign.Verify(public, text, signature); e != want {
		t.Errorf("Verify of %s, %x, with the key %x: %d, not %d", what, signature, public, e, want)
	}
	if !bytes.Equal(text, x) || !bytes.Equal(signature, b) {
		t.Errorf("Verify of %s changed the text or the signature", what)
	}
}

// checkAsGo wants Verify to take what Go's own Ed25519 takes. They differ only in keys that are not the bytes of a point.
func checkAsGo(t *testing.T, what string, public [32]byte, text, signature []byte) bool {
	t.Helper()
	ok := ed25519.Verify(public[:], text, signature)
	want := api.ErrSign
	if ok {
		want = api.OK
	}
	checkVerify(t, what, public, text, signature, want)
	return ok
}

// P8.1, P8.3: RFC 8032, 7.1: tests 1, 2, 3 and SHA(abc).
func TestKnownSignatures(t *testing.T) {
	abc := sha512.Sum512([]byte("abc"))
	for _, c := range []struct{ seed, public, text, signature string }{
		{
			"9d61b19deffd5a60ba844af492ec2cc44449c5697b326919703bac031cae7f60",
			"d75a980182b10ab7d54bfed3c964073a0ee172f3daa62325af021a68f707511a",
			"",
			"e5564300c360ac729086e2cc806e828a84877f1eb8e5d974d873e065224901555fb8821590a33bacc61e39701cf9b46bd25bf5f0595bbe24655141438e7a100b",
		},
		{
			"4ccd089b28ff96da9db6c346ec114e0f5b8a319f35aba624da8cf6ed4fb8a6fb",
			"3d4017c3e843895a92b70aa74d1b7ebc9c982ccf2ec4968cc0cd55f12af4660c",
			"72",
			"92a009a9f0d4cab8720e820b5f642540a2b27b5416503f8fb3762223ebdb69da085ac1e43e15996e458f3613d0f11d8c387b2eaeb4302aeeb00d291612bb0c00",
		},
		{
			"c5aa8df43f9f837bedb7442f31dcb7b166d38535076f094b85ce3a2e0b4458f7",
			"fc51cd8e6218a1a38da47ed00230f0580816ed13ba3303ac5deb911548908025",
			"af82",
			"6291d657deec24024827e69c3abe01a30ce548a284743a445e3680d7db5ac3ac18ff9b538d16f290ae67f760984dc6594a7c15e9716ed28dc027beceea1ec40a",
		},
		{
			"833fe62409237b9d62ec77587520911e9a759cec1d19755b7da901b96dca3d42",
			"ec172b93ad5e563bf4932c70e1245034c35467ef2efd4d64ebf819683467e2bf",
			hex.EncodeToString(abc[:]),
			"dc2a4459e7369633a52b1bf277839a00201009a3efbf3ecb69bea2186c26b58909351fc9ac90b3ecfdfbc7c66431e0303dca179c138ac17ad9bef1177331a704",
		},
	} {
		check(t, [32]byte(bytesOf(t, c.seed)), bytesOf(t, c.text), [32]byte(bytesOf(t, c.public)), [64]byte(bytesOf(t, c.signature)))
	}
}

// checkByGo wants what Go's own Ed25519 makes of a seed and a text.
func checkByGo(t *testing.T, seed [32]byte, text []byte) {
	t.Helper()
	private := ed25519.NewKeyFromSeed(seed[:])
	check(t, seed, text, [32]byte(private[32:]), [64]byte(ed25519.Sign(private, text)))
}

// P8.1, P8.3: texts of lengths about those at which a hash has one block more.
func TestLengths(t *testing.T) {
	d := draw(1)
	for _, n := range []int{0, 1, 2, 31, 32, 33, 46, 47, 48, 63, 64, 65, 78, 79, 80, 95, 96, 97, 127, 128, 129, 175, 176, 207, 208, 255, 256, 1000, api.MaxText, api.MaxText + 1} {
		checkByGo(t, d.word(), d.bytes(n))
	}
	checkByGo(t, d.word(), nil)
	checkByGo(t, d.word(), make([]byte, 500))
}

// P8.1, P8.3: each seed, with some texts; every bit of a seed counts.
func TestSeeds(t *testing.T) {
	for i, seed := range seeds() {
		checkByGo(t, seed, []byte{byte(i)})
		checkByGo(t, seed, []byte("a text"))
	}
	d := draw(2)
	seed := d.bytes(32)
	for bit := range 256 {
		turned := [32]byte(flipped(seed, bit))
		if p := sign.Public(turned); p != [32]byte(ed25519.NewKeyFromSeed(turned[:])[32:]) {
			t.Errorf("Public(%x) = %x", turned, p)
		}
	}
}

// P8.1: a signer signs one text after the other, each as if it were the first, and two signers do not disturb each other.
func TestSigners(t *testing.T) {
	d := draw(3)
	a, b := d.word(), d.word()
	x, y := sign.Key(a), sign.Key(b)
	for n := range 20 {
		text := d.bytes(n * 7)
		for i, s := range []*sign.Signer{x, y, x} {
			seed := [][32]byte{a, b, a}[i]
			got, e := s.Sign(text)
			if want := ed25519.Sign(ed25519.NewKeyFromSeed(seed[:]), text); e != api.OK || !bytes.Equal(got[:], want) {
				t.Errorf("text %d: %x, %d, not %x", n, got, e, want)
			}
			if p, e := s.Public(); p != sign.Public(seed) || e != api.OK {
				t.Errorf("text %d: the public key is %x, %d", n, p, e)
			}
		}
	}
}

// P8.1: what Key did not make is no signer, before and after it was asked.
func TestNoSigner(t *testing.T) {
	for _, s := range []*sign.Signer{nil, {}, new(sign.Signer)} {
		for range 2 {
			if p, e := s.Public(); p != [32]byte{} || e != api.ErrNil {
				t.Errorf("Public = %x, %d", p, e)
			}
			for _, text := range [][]byte{nil, {}, []byte("a text")} {
				if x, e := s.Sign(text); x != [64]byte{} || e != api.ErrNil {
					t.Errorf("Sign(%x) = %x, %d", text, x, e)
				}
			}
		}
	}
}

// P8.1: only the bytes of a text have a part in its signature, and those behind it stay as they are.
func TestPartOfAText(t *testing.T) {
	d := draw(4)
	whole, seed := d.bytes(300), d.word()
	before := bytes.Clone(whole)
	for _, text := range [][]byte{whole[:0], whole[:1], whole[5:100], whole[100:228], whole[:300]} {
		checkByGo(t, seed, text)
	}
	signature := sign.Sign(seed, whole[:100])
	long := append(signature[:], whole...)
	checkVerify(t, "a part of bytes", sign.Public(seed), whole[:100], long[:64], api.OK)
	if !bytes.Equal(whole, before) || !bytes.Equal(long[64:], before) {
		t.Error("bytes behind a text or a signature were changed")
	}
}

// P8.2: signatures of all other lengths, ahead of whatever else is wrong.
func TestWrongLength(t *testing.T) {
	seed, text := [32]byte{5}, []byte("a text")
	public, signature := sign.Public(seed), sign.Sign(seed, text)
	for n := range 200 {
		if n == 64 {
			continue
		}
		cut := append(signature[:min(n, 64):64], make([]byte, max(0, n-64))...)
		checkVerify(t, "bytes of another length", public, text, cut, api.ErrArg)
		checkVerify(t, "bytes of another length", [32]byte{2}, text, cut, api.ErrArg)
	}
	checkVerify(t, "nothing", public, text, nil, api.ErrArg)
	checkVerify(t, "nothing", [32]byte{2}, nil, nil, api.ErrArg)
	checkVerify(t, "two signatures", public, text, append(signature[:], signature[:]...), api.ErrArg)
	checkVerify(t, "many bytes", public, text, make([]byte, 1<<20), api.ErrArg)
}

// noPoints is keys that are not the bytes of a point: without a first coordinate, with the first coordinate 0 and the highest bit, and with the numbers from the prime to 2^255 - 1.
func noPoints() [][32]byte {
	l := [][32]byte{{2}, {2, 31: 0x80}, {7}, {1, 31: 0x80}}
	full := [32]byte(bytes.Repeat([]byte{0xff}, 32))
	for n := range byte(19) {
		full[0] = 0xed + n
		full[31] = 0x7f
		l = append(l, full)
		full[31] = 0xff
		l = append(l, full)
	}
	full[0] = 0xec // -1 with the highest bit
	return append(l, full)
}

// P8.2: keys that are not the bytes of a point, with all kinds of signatures.
func TestNoPoint(t *testing.T) {
	seed, text := [32]byte{6}, []byte("a text")
	signature := sign.Sign(seed, text)
	most := [32]byte(bytes.Repeat([]byte{0xff}, 32))
	for _, public := range noPoints() {
		checkVerify(t, "a signature of another", public, text, signature[:], api.ErrPoint)
		checkVerify(t, "zero bytes", public, text, make([]byte, 64), api.ErrPoint)
		checkVerify(t, "a number above the order", public, text, together([32]byte{1}, most), api.ErrPoint)
		checkVerify(t, "no point and 0", public, nil, together(public, [32]byte{}), api.ErrPoint)
		checkVerify(t, "the neutral point and 0", public, text, together([32]byte{1}, [32]byte{}), api.ErrPoint)
	}
}

// P8.2: keys that are the bytes of no point, though Go's own Ed25519 takes them for the neutral one, and so takes signatures of them.
func TestNoPointThatOthersTake(t *testing.T) {
	second := scalarOf([]byte("any"))
	first := point.Base().Mul(second).Bytes()
	high := [32]byte{1, 31: 0x80}
	more := [32]byte(bytes.Repeat([]byte{0xff}, 32))
	more[0], more[31] = 0xee, 0x7f
	for _, public := range [][32]byte{high, more} {
		if !ed25519.Verify(public[:], nil, together(first, second)) {
			t.Fatalf("Go does not take %x", public)
		}
		checkVerify(t, "a signature of the neutral point", public, nil, together(first, second), api.ErrPoint)
	}
	checkVerify(t, "a signature of the neutral point", [32]byte{1}, nil, together(first, second), api.OK)
}

// P8.2: each bit of a signature, of a text and of a key.
func TestEachBit(t *testing.T) {
	d := draw(5)
	seed, text := d.word(), d.bytes(20)
	public, signature := sign.Public(seed), sign.Sign(seed, text)
	for bit := range 512 {
		checkVerify(t, "a signature with a bit turned", public, text, flipped(signature[:], bit), api.ErrSign)
	}
	for bit := range 8 * len(text) {
		checkVerify(t, "a signature of a text with a bit turned", public, flipped(text, bit), signature[:], api.ErrSign)
	}
	none := 0
	for bit := range 256 {
		turned := [32]byte(flipped(public[:], bit))
		want := api.ErrSign
		if _, e := point.Of(turned); e != api.OK {
			none++
			want = api.ErrPoint
		}
		checkVerify(t, "a signature of a key with a bit turned", turned, text, signature[:], want)
	}
	if none < 64 || none > 192 {
		t.Errorf("%d keys with a bit turned are no points", none)
	}
}

// P8.2, P8.3: a signature is valid for its text and its key, and for no others.
func TestOthers(t *testing.T) {
	texts := [][]byte{nil, {0}, {0, 0}, []byte("a"), []byte("b"), []byte("ab")}
	l := seeds()[:6]
	for i, seed := range l {
		s := sign.Key(seed)
		for j, text := range texts {
			x, _ := s.Sign(text)
			for k, other := range texts {
				want := api.ErrSign
				if j == k {
					want = api.OK
				}
				checkVerify(t, "a signature of one text", sign.Public(seed), other, x[:], want)
			}
			checkVerify(t, "a signature of one key", sign.Public(l[(i+1)%len(l)]), text, x[:], api.ErrSign)
		}
	}
}

// P8.2: a first half or a second one of another signature, both exchanged, and none.
func TestHalves(t *testing.T) {
	seed, text := [32]byte{7}, []byte("a text")
	public, x, y := sign.Public(seed), sign.Sign(seed, text), sign.Sign(seed, []byte("another"))
	z := sign.Sign([32]byte{8}, text)
	for _, other := range [][64]byte{y, z, {}, {1}} {
		checkVerify(t, "a first half of another", public, text, append(other[:32:32], x[32:]...), api.ErrSign)
		checkVerify(t, "a second half of another", public, text, append(x[:32:32], other[32:]...), api.ErrSign)
	}
	checkVerify(t, "halves the other way round", public, text, append(x[32:64:64], x[:32]...), api.ErrSign)
	checkVerify(t, "zero bytes", public, text, make([]byte, 64), api.ErrSign)
	checkVerify(t, "ones alone", public, text, bytes.Repeat([]byte{0xff}, 64), api.ErrSign)
}

// P8.2: the second half of a signature with the order added, as often as there is room, is not the bytes of a scalar.
func TestNotBelowTheOrder(t *testing.T) {
	for i, seed := range seeds() {
		text := []byte{byte(i)}
		public, signature := sign.Public(seed), sign.Sign(seed, text)
		n := numberOf(signature[32:])
		for k := 0; ; k++ {
			if n.BitLen() > 256 {
				if k < 15 {
					t.Errorf("the order was added only %d times", k)
				}
				break
			}
			want := api.ErrSign
			if k == 0 {
				want = api.OK
			}
			checkVerify(t, "a number not below the order", public, text, together([32]byte(signature[:32]), low(n)), want)
			n.Add(n, order())
		}
	}
}

// P8.2: with the neutral point as the key, a signature is any multiple of the base with its number, for each scalar up to one below the order and for no greater number.
func TestEdgesOfTheOrder(t *testing.T) {
	for _, k := range []int64{0, 1, 2, 8, 15} {
		for more := int64(-3); more <= 3; more++ {
			n := new(big.Int).Mul(order(), big.NewInt(k))
			if n.Add(n, big.NewInt(more)); n.Sign() < 0 {
				continue
			}
			want := api.ErrSign
			if n.Cmp(order()) < 0 {
				want = api.OK
			}
			second := low(n)
			first := point.Base().Mul(second).Bytes()
			checkVerify(t, "a multiple of the base", [32]byte{1}, []byte("a text"), together(first, second), want)
			first[31] ^= 0x80
			checkVerify(t, "one with the other bit", [32]byte{1}, []byte("a text"), together(first, second), api.ErrSign)
		}
	}
}

// P8.2: the first half is compared by its bytes: others that stand for the neutral point are not those of it.
func TestFirstHalfIsBytes(t *testing.T) {
	neutral := [32]byte{1}
	more := [32]byte(bytes.Repeat([]byte{0xff}, 32))
	more[0], more[31] = 0xee, 0x7f
	checkVerify(t, "the neutral point", neutral, nil, together(neutral, [32]byte{}), api.OK)
	for _, first := range [][32]byte{{1, 31: 0x80}, more, {}, {31: 0x80}} {
		checkVerify(t, "other bytes of it", neutral, nil, together(first, [32]byte{}), api.ErrSign)
	}
}

// eighth is a point of which 8 times is the neutral point, and no less.
func eighth(t *testing.T) point.Point {
	t.Helper()
	for n := byte(2); n < 100; n++ {
		p, e := point.Of([32]byte{n})
		if e != api.OK {
			continue
		}
		if p = p.Mul(scalar.Order()); !p.Mul([32]byte{4}).Equal(point.Nought()) {
			return p
		}
	}
	t.Fatal("no such point")
	return point.Point{}
}

// P8.2: keys outside the large group: a signature of a key and a point of the small group is valid only where the number takes that point to the neutral one, or its first half has what is missing. The order less that number would take it elsewhere.
func TestKeysOutsideTheLargeGroup(t *testing.T) {
	turn := eighth(t)
	secret, draws := scalarOf([]byte("a key")), scalarOf([]byte("a draw"))
	for _, own := range [][32]byte{{}, secret} { // with 0, the key is of the small group
		for times := range byte(8) {
			public := point.Base().Mul(own).Add(turn.Mul([32]byte{times})).Bytes()
			valid, not := 0, 0
			for n := range byte(32) {
				text := []byte{n}
				first := point.Base().Mul(draws).Add(turn.Mul([32]byte{n % 8})).Bytes()
				k := scalarOf(first[:], public[:], text)
				second := scalar.MulAdd(k, own, draws)
				ok := (k[0]*times+n)%8 == 0
				if got := checkAsGo(t, "a signature", public, text, together(first, second)); got != ok {
					t.Errorf("Go takes %x: %v", public, got)
				}
				if ok {
					valid++
				} else {
					not++
				}
			}
			if valid == 0 || not == 0 {
				t.Errorf("of %x, %d signatures are valid and %d are not", public, valid, not)
			}
		}
	}
}

// P8.2: any bytes at all, as Go's own Ed25519 judges them.
func TestAnyBytes(t *testing.T) {
	d := draw(9)
	public := sign.Public(d.word())
	for range 100 {
		b := d.bytes(64)
		b[63] &= 0x0f // below the order
		checkAsGo(t, "any bytes", public, d.bytes(10), b)
	}
}
