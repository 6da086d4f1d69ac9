package box_test

import (
	"bytes"
	"crypto/ecdh"
	"crypto/hmac"
	"crypto/sha512"
	"encoding/binary"
	"encoding/hex"
	"math"
	"math/rand/v2"
	"slices"
	"strings"
	"testing"

	"bastille/aead"
	"bastille/api"
	"bastille/box"
	"bastille/ladder"
)

// A draw is bytes that look like any, the same ones in each run.
type draw struct{ *rand.ChaCha8 }

func newDraw(n byte) draw { return draw{rand.NewChaCha8([32]byte{n})} }

func (d draw) bytes(size int) []byte {
	b := make([]byte, size)
	d.Read(b)
	return b
}

func (d draw) secret() [32]byte { return [32]byte(d.bytes(32)) }

// bytesOf is the bytes that digits stand for.
func bytesOf(t *testing.T, digits string) []byte {
	t.Helper()
	b, err := hex.DecodeString(digits)
	if err != nil {
		t.Fatal(err)
	}
	return b
}

// full is 32 bytes of ones alone, but for the first and the last one.
func full(first, last byte) [32]byte {
	b := [32]byte(slices.Repeat([]byte{0xff}, 32))
	b[0], b[31] = first, last
	return b
}

// flipped is a copy of bytes with one bit turned.
func flipped(b []byte, bit int) []byte {
	b = bytes.Clone(b)
	b[bit/8] ^= 1 << (bit % 8)
	return b
}

// topped is a public key with its most significant bit turned, which X25519 does not look at.
func topped(public [32]byte) [32]byte { return [32]byte(flipped(public[:], 255)) }

// vanishing is the public keys of which every shared secret is 0: points of which a small multiple is at infinity, 0, the same with the prime added, and all of them with the most significant bit.
func vanishing(t *testing.T) [][32]byte {
	t.Helper()
	l := [][32]byte{
		{}, {1}, full(0xec, 0x7f), full(0xed, 0x7f), full(0xee, 0x7f),
		[32]byte(bytesOf(t, "e0eb7a7c3b41b8ae1656e3faf19fc46ada098deb9c32b1fd866205165f49b800")),
		[32]byte(bytesOf(t, "5f9c95bca3508c24b1d0b1559c83ef5b04445cc4581c8e86d8224eddd09f1157")),
	}
	for _, p := range l[:len(l):len(l)] {
		l = append(l, topped(p))
	}
	return l
}

// shared is the shared secret of Go's own X25519.
func shared(t *testing.T, secret, public [32]byte) []byte {
	t.Helper()
	s, err := ecdh.X25519().NewPrivateKey(secret[:])
	if err != nil {
		t.Fatal(err)
	}
	p, err := ecdh.X25519().NewPublicKey(public[:])
	if err != nil {
		t.Fatal(err)
	}
	x, err := s.ECDH(p)
	if err != nil {
		t.Fatal(err)
	}
	return x
}

// publicOf is the public key of Go's own X25519.
func publicOf(t *testing.T, secret [32]byte) [32]byte {
	t.Helper()
	s, err := ecdh.X25519().NewPrivateKey(secret[:])
	if err != nil {
		t.Fatal(err)
	}
	return [32]byte(s.PublicKey().Bytes())
}

// wrap is a wrapped text as the chapter says it, with the shared secret and the key by Go's own X25519 and HMAC.
func wrap(t *testing.T, seed, public [32]byte, text []byte) []byte {
	t.Helper()
	e := publicOf(t, seed)
	h := hmac.New(sha512.New, shared(t, seed, public))
	h.Write([]byte("\x03box"))
	for _, context := range [][32]byte{e, public} {
		h.Write(binary.BigEndian.AppendUint32(nil, 32))
		h.Write(context[:])
	}
	sealed, errno := aead.Seal([32]byte(h.Sum(nil)[:32]), [12]byte{}, nil, text)
	if errno != api.OK {
		t.Fatal(errno)
	}
	return append(e[:], sealed...)
}

// checkWrapped wants a text to be wrapped, and the text to stay as it was.
func checkWrapped(t *testing.T, seed, public [32]byte, text, want []byte) {
	t.Helper()
	before := bytes.Clone(text)
	got, e := box.Wrap(seed, public, text)
	if e != api.OK || !bytes.Equal(got, want) {
		t.Errorf("Wrap with %x for %x of %d bytes = %.100x, %d, not %.100x", seed, public, len(text), got, e, want)
	}
	if n := box.Size(len(text)); n != len(want) {
		t.Errorf("Size(%d) = %d, not %d", len(text), n, len(want))
	}
	if !bytes.Equal(text, before) {
		t.Errorf("a text of %d bytes was changed", len(text))
	}
}

// checkUnwrapped wants a text to be unwrapped, and the wrapped one to stay as it was.
func checkUnwrapped(t *testing.T, secret [32]byte, b, want []byte) {
	t.Helper()
	before := bytes.Clone(b)
	got, e := box.Unwrap(secret, b)
	if e != api.OK || !bytes.Equal(got, want) {
		t.Errorf("Unwrap with %x of %d bytes = %.100x, %d, not %.100x", secret, len(b), got, e, want)
	}
	if !bytes.Equal(b, before) {
		t.Errorf("%d wrapped bytes were changed", len(b))
	}
}

// checkBoth wants a text to be wrapped for the public key of a secret as the chapter says, and unwrapped with that secret.
func checkBoth(t *testing.T, seed, secret [32]byte, text []byte) {
	t.Helper()
	want := wrap(t, seed, publicOf(t, secret), text)
	checkWrapped(t, seed, ladder.Public(secret), text, want)
	checkUnwrapped(t, secret, want, text)
}

// checkNotWrapped wants an error, and nothing beside it.
func checkNotWrapped(t *testing.T, want api.Errno, seed, public [32]byte, text []byte) {
	t.Helper()
	if b, e := box.Wrap(seed, public, text); e != want || b != nil {
		t.Errorf("Wrap with %x for %x of %d bytes = %.100x, %d, not %d", seed, public, len(text), b, e, want)
	}
}

// checkShut wants bytes not to be unwrapped.
func checkShut(t *testing.T, want api.Errno, secret [32]byte, b []byte) {
	t.Helper()
	if text, e := box.Unwrap(secret, b); e != want || text != nil {
		t.Errorf("Unwrap with %x of %d bytes = %.100x, %d, not %d", secret, len(b), text, e, want)
	}
}

// P13.1, P13.2: texts that were wrapped beside this program (by Python's cryptography, which has OpenSSL's X25519 and ChaCha20-Poly1305).
func TestKnownTexts(t *testing.T) {
	rising := [32]byte(bytesOf(t, "000102030405060708090a0b0c0d0e0f101112131415161718191a1b1c1d1e1f"))
	further := [32]byte(bytesOf(t, "202122232425262728292a2b2c2d2e2f303132333435363738393a3b3c3d3e3f"))
	for _, c := range []struct {
		seed, secret  [32]byte
		text, wrapped string
	}{
		{[32]byte{7}, [32]byte{1, 2, 3}, "hello", "2fe57da347cd62431528daac5fbb290730fff684afc4cfc2ed90995f58cb3b740ffb39ffdfb1a7b0e0ce0cf3d5913b58ab409bb428"},
		{[32]byte{7}, [32]byte{1, 2, 3}, "", "2fe57da347cd62431528daac5fbb290730fff684afc4cfc2ed90995f58cb3b74f2d46db8c36b014a4a2e11ca2075ff5b"},
		{[32]byte{}, [32]byte{1, 2, 3}, "\x00", "2fe57da347cd62431528daac5fbb290730fff684afc4cfc2ed90995f58cb3b7467672b71a3389eb3386770f89116e80ef2"},
		{rising, full(0xff, 0xff), "for you alone, and nobody else: the key of the folder and its state, of more than 64 bytes", "8f40c5adb68f25624ae5b214ea767a6ec94d829d3d7b5e1ad1ba6f3e2138285fda24a430363e7fe355952cad0072092112080d0854e053b9a83b8281220cdff873f93ea6a08b7b4ccb124f81ca5e0ed198961dea78ebce8ffa5213f038eb1f55b8689b0a6dd78b8e56907d90c5f8874449c06cdc4931d4a48443d829206d2856547da08b40b44568af98"},
		{full(0xff, 0xff), further, strings.Repeat("x", 64), "847c0d2c375234f365e660955187a3735a0f7613d1609d3a6a4d8c53aeaa5a220c586407894341a9d04d1f51b3868d1e0cdcd5d4126764a39aeb4d46cacdc516325ea57a0ed269365be486ca0a5aca55188da8153164f662d7e0f97ce6afb9bc5e8b74927656a9a1451352dffae7ef9a"},
	} {
		wrapped := bytesOf(t, c.wrapped)
		checkWrapped(t, c.seed, ladder.Public(c.secret), []byte(c.text), wrapped)
		checkUnwrapped(t, c.secret, wrapped, []byte(c.text))
	}
}

// P13.1, P13.3: texts of each length about the first blocks, and long ones.
func TestEachLength(t *testing.T) {
	d := newDraw(1)
	for size := range 140 {
		checkBoth(t, d.secret(), d.secret(), d.bytes(size))
	}
	for _, size := range []int{255, 256, 257, 1000, 4096, 65535, 65536, 65537, api.MaxText - 49, api.MaxText - 48} {
		checkBoth(t, d.secret(), d.secret(), d.bytes(size))
	}
	checkBoth(t, d.secret(), d.secret(), nil)
}

// P13.1, P13.3: seeds and secrets of zero bytes, of ones, with single bits, and the same one as both.
func TestSeedsAndSecrets(t *testing.T) {
	d := newDraw(2)
	l := [][32]byte{{}, {1}, {7}, {8}, {31: 0x40}, {31: 0x80}, full(0xff, 0xff), full(0xf8, 0x7f), full(0, 0), d.secret(), d.secret()}
	text := d.bytes(40)
	for _, seed := range l {
		for _, secret := range l {
			checkBoth(t, seed, secret, text)
		}
	}
}

// P13.1: each bit of a seed and of a public key has a part in a wrapped text: the five bits of a seed that X25519 sets have none, and the bit of a public key that it does not look at has one, for the public key is in the key as it was given.
func TestEachBit(t *testing.T) {
	d := newDraw(3)
	seed, secret, text := d.secret(), d.secret(), d.bytes(40)
	public := publicOf(t, secret)
	seeds, publics := map[string]int{}, map[string]int{}
	for bit := range 256 {
		turned := [32]byte(flipped(seed[:], bit))
		want := wrap(t, turned, public, text)
		checkWrapped(t, turned, public, text, want)
		checkUnwrapped(t, secret, want, text)
		seeds[string(want)]++
		turned = [32]byte(flipped(public[:], bit))
		want = wrap(t, seed, turned, text)
		checkWrapped(t, seed, turned, text, want)
		checkShut(t, api.ErrKey, secret, want)
		publics[string(want)]++
	}
	if same := seeds[string(wrap(t, seed, public, text))]; same != 5 || len(seeds) != 252 {
		t.Errorf("%d of 256 turned bits of a seed change nothing, the others make %d wrapped texts", same, len(seeds)-1)
	}
	if len(publics) != 256 {
		t.Errorf("256 turned bits of a public key make %d wrapped texts", len(publics))
	}
}

// P13.1: public keys that are no least numbers modulo the prime, and points of the curve's twist, are taken as they are.
func TestOtherPublicKeys(t *testing.T) {
	d := newDraw(4)
	seed, text := d.secret(), d.bytes(10)
	for n := byte(2); n < 40; n++ {
		for _, public := range [][32]byte{{n}, topped([32]byte{n}), full(0xff-n, 0x7f), full(0xff-n, 0xff)} {
			if !slices.Contains(vanishing(t), public) {
				checkWrapped(t, seed, public, text, wrap(t, seed, public, text))
			}
		}
	}
}

// P13.1: without a shared secret the error is ErrPoint, whatever the seed and however long the text.
func TestNotWrapped(t *testing.T) {
	d := newDraw(5)
	b := d.bytes(api.MaxText + 1)
	for _, public := range vanishing(t) {
		for _, seed := range [][32]byte{{}, {7}, full(0xff, 0xff), d.secret()} {
			for _, size := range []int{0, 1, 100, api.MaxText - 48, api.MaxText - 47, api.MaxText, api.MaxText + 1} {
				checkNotWrapped(t, api.ErrPoint, seed, public, b[:size])
			}
		}
	}
	checkNotWrapped(t, api.ErrPoint, d.secret(), [32]byte{}, nil)
}

// P13.1: the longest text is wrapped, longer ones are not: neither those that could still be sealed nor those that could not.
func TestLimits(t *testing.T) {
	d := newDraw(6)
	seed, secret, b := d.secret(), d.secret(), d.bytes(2*api.MaxText)
	public := publicOf(t, secret)
	w, e := box.Wrap(seed, public, b[:api.MaxText-48])
	if e != api.OK || len(w) != api.MaxText {
		t.Fatalf("Wrap of MaxText - 48 bytes = %d bytes, %d", len(w), e)
	}
	checkUnwrapped(t, secret, w, b[:api.MaxText-48])
	for _, size := range []int{api.MaxText - 47, api.MaxText - 46, api.MaxText - 33, api.MaxText - 32, api.MaxText - 31, api.MaxText - 17, api.MaxText - 16, api.MaxText - 15, api.MaxText - 1, api.MaxText, api.MaxText + 1, 2 * api.MaxText} {
		checkNotWrapped(t, api.ErrLimit, seed, public, b[:size])
	}
	// What is one byte too long is wrapped as it would be.
	checkShut(t, api.ErrLimit, secret, wrap(t, seed, public, b[:api.MaxText-47]))
	checkShut(t, api.ErrLimit, secret, wrap(t, seed, public, b[:api.MaxText-16]))
}

// P13.1: sizes, and numbers of bytes that no wrapped text has, or of which a sum would begin again below 0.
func TestSize(t *testing.T) {
	for _, c := range []struct{ n, size int }{
		{0, 48}, {1, 49}, {5, 53}, {16, 64}, {32, 80}, {1000, 1048},
		{api.MaxText - 49, api.MaxText - 1}, {api.MaxText - 48, api.MaxText},
		{api.MaxText - 47, 0}, {api.MaxText - 32, 0}, {api.MaxText - 16, 0}, {api.MaxText, 0}, {api.MaxText + 1, 0},
		{-1, 0}, {-16, 0}, {-47, 0}, {-48, 0}, {-49, 0}, {-api.MaxText, 0},
		{1<<32 + 5, 0}, {math.MaxInt - 48, 0}, {math.MaxInt, 0}, {math.MinInt, 0}, {math.MinInt + 5, 0},
	} {
		if size := box.Size(c.n); size != c.size {
			t.Errorf("Size(%d) = %d, not %d", c.n, size, c.size)
		}
	}
}

// P13.2: of several errors, the first one that the chapter names: too few bytes or too many, no shared secret, another key.
func TestOrderOfErrors(t *testing.T) {
	d := newDraw(7)
	secret, b := d.secret(), d.bytes(api.MaxText+1)
	whole := wrap(t, d.secret(), publicOf(t, secret), nil)
	checkShut(t, api.ErrEnd, secret, nil)
	for size := range 48 {
		checkShut(t, api.ErrEnd, secret, whole[:size])
		checkShut(t, api.ErrEnd, secret, make([]byte, size))
	}
	for _, public := range vanishing(t) {
		for _, size := range []int{48, 49, 100, api.MaxText} {
			checkShut(t, api.ErrPoint, secret, append(bytes.Clone(public[:]), b[:size-32]...))
		}
		for _, size := range []int{api.MaxText + 1, api.MaxText + 32} {
			checkShut(t, api.ErrLimit, secret, append(bytes.Clone(public[:]), b[:size-32]...))
		}
	}
	for _, size := range []int{48, 49, 100, api.MaxText - 1, api.MaxText} {
		checkShut(t, api.ErrKey, secret, b[:size])
	}
	checkShut(t, api.ErrLimit, secret, b)
	checkShut(t, api.ErrLimit, secret, append(bytes.Clone(b), b...))
}

// P13.2: with a bit turned, a byte more or a byte less, nothing is unwrapped; neither with the bit of the public key that X25519 does not look at.
func TestChanged(t *testing.T) {
	d := newDraw(8)
	for _, size := range []int{0, 1, 16, 40} {
		secret := d.secret()
		w := wrap(t, d.secret(), publicOf(t, secret), d.bytes(size))
		for bit := range 8 * len(w) {
			checkShut(t, api.ErrKey, secret, flipped(w, bit))
		}
		for _, more := range []byte{0, 1, 0xff} {
			checkShut(t, api.ErrKey, secret, append(bytes.Clone(w), more))
			checkShut(t, api.ErrKey, secret, append([]byte{more}, w...))
			checkShut(t, api.ErrKey, secret, slices.Insert(bytes.Clone(w), 32, more))
		}
		if size > 0 {
			checkShut(t, api.ErrKey, secret, w[1:])
			checkShut(t, api.ErrKey, secret, w[:len(w)-1])
			checkShut(t, api.ErrKey, secret, slices.Delete(bytes.Clone(w), 32, 33))
		}
	}
}

// P13.2: nobody else unwraps a text: no secret with another bit, but for the five bits that X25519 sets, and not the sender.
func TestOtherSecrets(t *testing.T) {
	d := newDraw(9)
	seed, secret, text := d.secret(), d.secret(), d.bytes(20)
	w := wrap(t, seed, publicOf(t, secret), text)
	for bit := range 256 {
		turned := [32]byte(flipped(secret[:], bit))
		if bit < 3 || bit > 253 {
			checkUnwrapped(t, turned, w, text)
		} else {
			checkShut(t, api.ErrKey, turned, w)
		}
	}
	checkShut(t, api.ErrKey, seed, w)
}

// P13.2: the public key of one wrapped text and the sealed bytes of another one are no wrapped text.
func TestExchanged(t *testing.T) {
	d := newDraw(10)
	secret, text := d.secret(), d.bytes(20)
	public := publicOf(t, secret)
	v, w := wrap(t, d.secret(), public, text), wrap(t, d.secret(), public, text)
	checkUnwrapped(t, secret, v, text)
	checkUnwrapped(t, secret, w, text)
	checkShut(t, api.ErrKey, secret, append(bytes.Clone(v[:32]), w[32:]...))
	checkShut(t, api.ErrKey, secret, append(bytes.Clone(w[:32]), v[32:]...))
}

// P13.3: what is wrapped here is unwrapped here; the bytes hang on what is given alone, and on all of it.
func TestThereAndBack(t *testing.T) {
	d := newDraw(11)
	texts := map[string]bool{}
	const n = 100
	for size := range n {
		seed, secret, text := d.secret(), d.secret(), d.bytes(size)
		w, e := box.Wrap(seed, ladder.Public(secret), text)
		if e != api.OK || len(w) != size+48 {
			t.Fatalf("Wrap of %d bytes = %d bytes, %d", size, len(w), e)
		}
		checkUnwrapped(t, secret, w, text)
		checkWrapped(t, seed, ladder.Public(secret), text, w)
		other, _ := box.Wrap(d.secret(), ladder.Public(secret), text)
		checkUnwrapped(t, secret, other, text)
		third, _ := box.Wrap(seed, ladder.Public(d.secret()), text)
		checkShut(t, api.ErrKey, secret, third)
		for _, b := range [][]byte{w, other, third} {
			texts[string(b)] = true
		}
	}
	if len(texts) != 3*n {
		t.Errorf("%d texts were wrapped as %d", 3*n, len(texts))
	}
}

// P13.1, P13.2: results share no memory with what they were made of (LANGUAGE, rule 7), and bytes behind that stay as they are.
func TestOwnMemory(t *testing.T) {
	d := newDraw(12)
	whole := d.bytes(300)
	for size := range 80 {
		seed, secret := d.secret(), d.secret()
		public := ladder.Public(secret)
		w, _ := box.Wrap(seed, public, whole[:size])
		room := append(w, whole...)
		before := slices.Concat(whole, room)
		text, e := box.Unwrap(secret, room[:len(w)])
		if e != api.OK {
			t.Fatalf("Unwrap of %d bytes: %d", len(w), e)
		}
		clear(text[:cap(text)])
		again, _ := box.Wrap(seed, public, whole[:size])
		clear(again[:cap(again)])
		if !bytes.Equal(slices.Concat(whole, room), before) {
			t.Fatalf("with %d bytes, those given or those behind them were changed", size)
		}
	}
}
