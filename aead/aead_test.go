package aead_test

import (
	"bytes"
	"crypto/ecdh"
	"crypto/hkdf"
	"crypto/hpke"
	"crypto/sha256"
	"encoding/binary"
	"encoding/hex"
	"math"
	"math/rand/v2"
	"slices"
	"testing"

	"bastille/aead"
	"bastille/api"
	"bastille/chacha"
	"bastille/poly"
)

// A draw is bytes that look like any, the same ones in each run.
type draw struct{ *rand.ChaCha8 }

func newDraw(n byte) draw { return draw{rand.NewChaCha8([32]byte{n})} }

func (d draw) bytes(size int) []byte {
	b := make([]byte, size)
	d.Read(b)
	return b
}

func (d draw) key() [32]byte { return [32]byte(d.bytes(32)) }

func (d draw) nonce() [12]byte { return [12]byte(d.bytes(12)) }

// bytesOf is the bytes that digits stand for.
func bytesOf(t *testing.T, digits string) []byte {
	t.Helper()
	b, err := hex.DecodeString(digits)
	if err != nil {
		t.Fatal(err)
	}
	return b
}

// flipped is a copy of bytes with one bit turned.
func flipped(b []byte, bit int) []byte {
	b = bytes.Clone(b)
	b[bit/8] ^= 1 << (bit % 8)
	return b
}

// tagged is the text whose tag the chapter says.
func tagged(beside, hidden []byte) []byte {
	var l []byte
	for _, part := range [][]byte{beside, hidden} {
		l = append(l, part...)
		for len(l)%16 != 0 {
			l = append(l, 0)
		}
	}
	l = binary.LittleEndian.AppendUint64(l, uint64(len(beside)))
	return binary.LittleEndian.AppendUint64(l, uint64(len(hidden)))
}

// tag is the tag as the chapter says it.
func tag(key [32]byte, nonce [12]byte, beside, hidden []byte) [16]byte {
	block := chacha.Block(key, nonce, 0)
	return poly.Tag([32]byte(block[:32]), tagged(beside, hidden))
}

// seal is a sealed text as the chapter says it.
func seal(key [32]byte, nonce [12]byte, beside, text []byte) []byte {
	var hidden []byte
	for part := range slices.Chunk(text, 64) {
		block := chacha.Block(key, nonce, uint32(1+len(hidden)/64))
		for i, c := range part {
			hidden = append(hidden, c^block[i])
		}
	}
	end := tag(key, nonce, beside, hidden)
	return append(hidden, end[:]...)
}

// checkSealed wants a text to be sealed, its tag to be told by Tag, the text to come back, and all that is given to stay as it was.
func checkSealed(t *testing.T, key [32]byte, nonce [12]byte, beside, text, want []byte) {
	t.Helper()
	besideBefore, textBefore, wantBefore := bytes.Clone(beside), bytes.Clone(text), bytes.Clone(want)
	got, e := aead.Seal(key, nonce, beside, text)
	if e != api.OK || !bytes.Equal(got, want) {
		t.Errorf("Seal of %d bytes with %d beside = %.100x, %d, not %.100x", len(text), len(beside), got, e, want)
	}
	if n := aead.Size(len(text)); n != len(want) {
		t.Errorf("Size(%d) = %d, not %d", len(text), n, len(want))
	}
	end := len(want) - 16
	if got := aead.Tag(key, nonce, beside, want[:end]); !bytes.Equal(got[:], want[end:]) {
		t.Errorf("Tag of %d bytes with %d beside = %x, not %x", end, len(beside), got, want[end:])
	}
	got, e = aead.Open(key, nonce, beside, want)
	if e != api.OK || !bytes.Equal(got, text) {
		t.Errorf("Open of %d bytes with %d beside = %.100x, %d, not %.100x", len(want), len(beside), got, e, text)
	}
	if !bytes.Equal(beside, besideBefore) || !bytes.Equal(text, textBefore) || !bytes.Equal(want, wantBefore) {
		t.Errorf("the %d bytes of a text, the %d beside, or the sealed ones were changed", len(text), len(beside))
	}
}

// checkShut wants bytes not to be opened.
func checkShut(t *testing.T, want api.Errno, key [32]byte, nonce [12]byte, beside, sealed []byte) {
	t.Helper()
	if text, e := aead.Open(key, nonce, beside, sealed); e != want || text != nil {
		t.Errorf("Open of %d bytes with %d beside = %.100x, %d, not %d", len(sealed), len(beside), text, e, want)
	}
}

// P11.1, P11.2: RFC 8439, 2.8.2 and A.5, and texts of few bytes or of none.
func TestKnownTexts(t *testing.T) {
	const draft = "Internet-Drafts are draft documents valid for a maximum of six months and may be updated, replaced, or obsoleted by other documents at any time. It is inappropriate to use Internet-Drafts as reference material or to cite them other than as /\xe2\x80\x9cwork in progress./\xe2\x80\x9d"
	const zeros, ones = "0000000000000000000000000000000000000000000000000000000000000000", "ffffffffffffffffffffffffffffffffffffffffffffffffffffffffffffffff"
	for _, c := range []struct{ key, nonce, beside, text, sealed string }{
		{
			"808182838485868788898a8b8c8d8e8f909192939495969798999a9b9c9d9e9f", "070000004041424344454647", "50515253c0c1c2c3c4c5c6c7",
			"Ladies and Gentlemen of the class of '99: If I could offer you only one tip for the future, sunscreen would be it.",
			"d31a8d34648e60db7b86afbc53ef7ec2a4aded51296e08fea9e2b5a736ee62d63dbea45e8ca9671282fafb69da92728b1a71de0a9e060b2905d6a5b67ecd3b3692ddbd7f2d778b8c9803aee328091b58fab324e4fad675945585808b4831d7bc3ff4def08e4b7a9de576d26586cec64b61161ae10b594f09e26a7e902ecbd0600691",
		},
		{
			"1c9240a5eb55d38af333888604f6b5f0473917c1402b80099dca5cbc207075c0", "000000000102030405060708", "f33388860000000000004e91",
			draft,
			"64a0861575861af460f062c79be643bd5e805cfd345cf389f108670ac76c8cb24c6cfc18755d43eea09ee94e382d26b0bdb7b73c321b0100d4f03b7f355894cf332f830e710b97ce98c8a84abd0b948114ad176e008d33bd60f982b1ff37c8559797a06ef4f0ef61c186324e2b3506383606907b6a7c02b0f9f6157b53c867e4b9166c767b804d46a59b5216cde7a4e99040c5a40433225ee282a1b0a06c523eaf4534d7f83fa1155b0047718cbc546a0d072b04b3564eea1b422273f548271a0bb2316053fa76991955ebd63159434ecebb4e466dae5a1073a6727627097a1049e617d91d361094fa68f0ff77987130305beaba2eda04df997b714d6c6f2c29a6ad5cb4022b02709beead9d67890cbb22392336fea1851f38",
		},
		{zeros, zeros[:24], "", "", "4eb972c9a8fb3a1b382bb4d36f5ffad1"},
		{zeros, zeros[:24], "", "hello", "f7628bd23adce962340b6fd6a0a4d1fe736f29456f"},
		{zeros, zeros[:24], "68656c6c6f", "", "cab4f25a980de907daa6eee3b520efe0"},
		{ones, ones[:24], ones[:32], string(bytes.Repeat([]byte{0xff}, 16)), "22d8bfc313e141bd692c82cec7785b29d8ae4f8a6eb98f32471e5fcb147b5e40"},
	} {
		key, nonce := [32]byte(bytesOf(t, c.key)), [12]byte(bytesOf(t, c.nonce))
		checkSealed(t, key, nonce, bytesOf(t, c.beside), []byte(c.text), bytesOf(t, c.sealed))
	}
}

// P11.1, P11.2: texts and associated data of each length about the first blocks, as the chapter puts them together.
func TestEachLength(t *testing.T) {
	d := newDraw(1)
	for size := range 150 {
		key, nonce, text := d.key(), d.nonce(), d.bytes(size)
		for _, n := range []int{0, 1, 7, 15, 16, 17, 31, 32, 33, size} {
			beside := d.bytes(n)
			checkSealed(t, key, nonce, beside, text, seal(key, nonce, beside, text))
		}
	}
	for n := range 150 {
		key, nonce, beside := d.key(), d.nonce(), d.bytes(n)
		for _, size := range []int{0, 1, 15, 16, 17, 33} {
			text := d.bytes(size)
			checkSealed(t, key, nonce, beside, text, seal(key, nonce, beside, text))
		}
	}
}

// P11.1, P11.2: each bit of a key and of a nonce has a part in a sealed text, and so have zero bytes and the greatest ones.
func TestEachBitOfTheKey(t *testing.T) {
	d := newDraw(2)
	beside, text := d.bytes(20), d.bytes(70)
	for _, in := range [][]byte{make([]byte, 44), bytes.Repeat([]byte{0xff}, 44), d.bytes(44)} {
		key, nonce := [32]byte(in), [12]byte(in[32:])
		sealed := seal(key, nonce, beside, text)
		checkSealed(t, key, nonce, beside, text, sealed)
		for bit := range 8 * len(in) {
			turned := flipped(in, bit)
			key, nonce := [32]byte(turned), [12]byte(turned[32:])
			checkSealed(t, key, nonce, beside, text, seal(key, nonce, beside, text))
			checkShut(t, api.ErrKey, key, nonce, beside, sealed)
		}
	}
}

// A label is what HPKE (RFC 9180) makes of the name of a step, of its KEM or of the whole suite.
func label(whole bool, name string, b []byte) []byte {
	suite := "KEM\x00\x20" // X25519
	if whole {
		suite = "HPKE\x00\x20\x00\x01\x00\x03" // and SHA-256, and ChaCha20-Poly1305
	}
	return append([]byte("HPKE-v1"+suite+name), b...)
}

// A schedule is the steps by which HPKE comes to a key.
type schedule struct{ t *testing.T }

func (s schedule) extract(whole bool, salt []byte, name string, b []byte) []byte {
	s.t.Helper()
	k, err := hkdf.Extract(sha256.New, label(whole, name, b), salt)
	if err != nil {
		s.t.Fatal(err)
	}
	return k
}

func (s schedule) expand(whole bool, secret []byte, name string, info []byte, size int) []byte {
	s.t.Helper()
	info = append([]byte{0, byte(size)}, label(whole, name, info)...)
	k, err := hkdf.Expand(sha256.New, secret, string(info), size)
	if err != nil {
		s.t.Fatal(err)
	}
	return k
}

// recipient is Go's own: one who opens what is sealed with this key, and with this nonce for the first text.
func recipient(t *testing.T, d draw) (*hpke.Recipient, [32]byte, [12]byte) {
	t.Helper()
	mine, err := ecdh.X25519().NewPrivateKey(d.bytes(32))
	if err != nil {
		t.Fatal(err)
	}
	theirs, err := ecdh.X25519().NewPrivateKey(d.bytes(32))
	if err != nil {
		t.Fatal(err)
	}
	shared, err := mine.ECDH(theirs.PublicKey())
	if err != nil {
		t.Fatal(err)
	}
	sent, info := mine.PublicKey().Bytes(), d.bytes(10)
	s := schedule{t}
	keys := slices.Concat(sent, theirs.PublicKey().Bytes())
	shared = s.expand(false, s.extract(false, nil, "eae_prk", shared), "shared_secret", keys, 32)
	context := slices.Concat([]byte{0}, s.extract(true, nil, "psk_id_hash", nil), s.extract(true, nil, "info_hash", info))
	secret := s.extract(true, shared, "secret", nil)
	key, nonce := s.expand(true, secret, "key", context, 32), s.expand(true, secret, "base_nonce", context, 12)
	k, err := hpke.NewDHKEMPrivateKey(theirs)
	if err != nil {
		t.Fatal(err)
	}
	r, err := hpke.NewRecipient(sent, k, hpke.HKDFSHA256(), hpke.ChaCha20Poly1305(), info)
	if err != nil {
		t.Fatal(err)
	}
	return r, [32]byte(key), [12]byte(nonce)
}

// P11.1, P11.3: Go's own ChaCha20-Poly1305, which its HPKE opens with, opens what is sealed here.
func TestGoOpens(t *testing.T) {
	d := newDraw(3)
	sizes := []int{0, 1, 2, 5, 15, 16, 17, 31, 32, 33, 47, 48, 63, 64, 65, 127, 128, 129, 191, 192, 193, 255, 256, 257, 1000, 4096, 65535, 65536, 65537, api.MaxText - 16}
	for i, size := range sizes {
		for _, n := range []int{0, 1, 15, 16, 17, 100, 300, sizes[(i+7)%len(sizes)]} {
			r, key, nonce := recipient(t, d)
			beside, text := d.bytes(n), d.bytes(size)
			sealed, e := aead.Seal(key, nonce, beside, text)
			if e != api.OK {
				t.Fatalf("Seal of %d bytes with %d beside: %d", size, n, e)
			}
			got, err := r.Open(beside, sealed)
			if err != nil || !bytes.Equal(got, text) {
				t.Errorf("%d bytes with %d beside are opened as %.100x, %v, not %.100x", size, n, got, err, text)
			}
		}
	}
}

// P11.1, P11.2: the longest text and the longest associated data, and one byte more of each, whatever the other one has.
func TestLimits(t *testing.T) {
	d := newDraw(4)
	key, nonce, b := d.key(), d.nonce(), d.bytes(api.MaxText+20)
	const most, mostText = api.MaxText, api.MaxText - 16
	for _, c := range []struct{ text, beside int }{{mostText, 0}, {mostText - 1, most - 1}, {mostText, most}, {0, most}} {
		text, beside := b[:c.text], b[:c.beside]
		checkSealed(t, key, nonce, beside, text, seal(key, nonce, beside, text))
	}
	for _, c := range []struct{ text, beside int }{
		{mostText + 1, 0}, {mostText + 2, 1}, {most, 0}, {most + 1, 0}, {mostText + 1, most},
		{0, most + 1}, {mostText, most + 1}, {mostText + 1, most + 1}, {most + 20, most + 20},
	} {
		if s, e := aead.Seal(key, nonce, b[:c.beside], b[:c.text]); e != api.ErrLimit || s != nil {
			t.Errorf("Seal of %d bytes with %d beside = %d bytes, %d", c.text, c.beside, len(s), e)
		}
		sealed := seal(key, nonce, b[:c.beside], b[:c.text])
		checkShut(t, api.ErrLimit, key, nonce, b[:c.beside], sealed)
		checkShut(t, api.ErrLimit, key, nonce, b[:c.beside], flipped(sealed, 0))
	}
}

// P11.2: of several errors, the first one that the chapter names: too many bytes, too few, another tag.
func TestOrderOfErrors(t *testing.T) {
	d := newDraw(5)
	key, nonce, b := d.key(), d.nonce(), d.bytes(api.MaxText+1)
	for size := range 16 {
		checkShut(t, api.ErrEnd, key, nonce, nil, b[:size])
		checkShut(t, api.ErrEnd, key, nonce, b[:api.MaxText], b[:size])
		checkShut(t, api.ErrLimit, key, nonce, b, b[:size])
	}
	checkShut(t, api.ErrEnd, key, nonce, nil, nil)
	for _, size := range []int{16, 17, 100, api.MaxText} {
		checkShut(t, api.ErrKey, key, nonce, nil, b[:size])
		checkShut(t, api.ErrKey, key, nonce, b[:api.MaxText], b[:size])
		checkShut(t, api.ErrLimit, key, nonce, b, b[:size])
	}
	checkShut(t, api.ErrLimit, key, nonce, nil, b)
	checkShut(t, api.ErrLimit, key, nonce, b, b)
}

// P11.1: Tag has no limit.
func TestTagOfMore(t *testing.T) {
	d := newDraw(6)
	key, nonce, b := d.key(), d.nonce(), d.bytes(2*api.MaxText+3)
	for _, c := range []struct{ beside, hidden int }{
		{0, api.MaxText - 15}, {0, api.MaxText}, {5, api.MaxText + 1}, {api.MaxText + 1, 5}, {len(b), len(b)},
	} {
		beside, hidden := b[:c.beside], b[:c.hidden]
		if got, want := aead.Tag(key, nonce, beside, hidden), tag(key, nonce, beside, hidden); got != want {
			t.Errorf("Tag of %d bytes with %d beside = %x, not %x", c.hidden, c.beside, got, want)
		}
	}
}

// P11.1: sizes, and numbers of bytes that no sealed text has, or of which a sum would begin again below 0.
func TestSize(t *testing.T) {
	for _, c := range []struct{ n, size int }{
		{0, 16}, {1, 17}, {5, 21}, {16, 32}, {1000, 1016},
		{api.MaxText - 17, api.MaxText - 1}, {api.MaxText - 16, api.MaxText},
		{api.MaxText - 15, 0}, {api.MaxText - 1, 0}, {api.MaxText, 0}, {api.MaxText + 1, 0},
		{-1, 0}, {-15, 0}, {-16, 0}, {-17, 0}, {-api.MaxText, 0},
		{1<<32 + 5, 0}, {math.MaxInt - 16, 0}, {math.MaxInt, 0}, {math.MinInt, 0}, {math.MinInt + 5, 0},
	} {
		if size := aead.Size(c.n); size != c.size {
			t.Errorf("Size(%d) = %d, not %d", c.n, size, c.size)
		}
	}
}

// checkEqual wants the same of both orders.
func checkEqual(t *testing.T, want bool, a, b []byte) {
	t.Helper()
	if aead.Equal(a, b) != want || aead.Equal(b, a) != want {
		t.Errorf("Equal(%.40x, %.40x) is not %t", a, b, want)
	}
}

// P11.2: bytes of each length, with each bit turned, without the last one or the first one, and with one more.
func TestEqual(t *testing.T) {
	d := newDraw(7)
	checkEqual(t, true, nil, nil)
	checkEqual(t, true, nil, []byte{})
	for size := 1; size < 40; size++ {
		for _, b := range [][]byte{make([]byte, size), bytes.Repeat([]byte{0xff}, size), d.bytes(size)} {
			checkEqual(t, true, b, b)
			checkEqual(t, true, b, bytes.Clone(b))
			for bit := range 8 * size {
				checkEqual(t, false, b, flipped(b, bit))
			}
			checkEqual(t, false, b, b[1:])
			checkEqual(t, false, b, b[:size-1])
			checkEqual(t, false, b, append(bytes.Clone(b), 0))
			checkEqual(t, false, b, nil)
		}
	}
}

// P11.2: differences in two bytes, also such as would add up to nothing.
func TestEqualOfTwoDifferences(t *testing.T) {
	zeros := make([]byte, 16)
	for i := range zeros {
		for j := range i {
			for _, x := range []byte{1, 0x55, 0x80, 0xff} {
				for _, y := range []byte{x, -x, ^x} {
					b := bytes.Clone(zeros)
					b[i], b[j] = x, y
					checkEqual(t, false, zeros, b)
				}
			}
		}
	}
}

// P11.2: tags of which two bytes are exchanged, or changed by the same bits, are not the tag.
func TestOtherTags(t *testing.T) {
	d := newDraw(8)
	key, nonce, beside, text := d.key(), d.nonce(), d.bytes(10), d.bytes(30)
	sealed, _ := aead.Seal(key, nonce, beside, text)
	end := len(text)
	for i := range 16 {
		for j := range i {
			other := bytes.Clone(sealed)
			other[end+i] ^= 0xa5
			other[end+j] ^= 0xa5
			checkShut(t, api.ErrKey, key, nonce, beside, other)
			other = bytes.Clone(sealed)
			other[end+i], other[end+j] = other[end+j], other[end+i]
			if !bytes.Equal(other, sealed) {
				checkShut(t, api.ErrKey, key, nonce, beside, other)
			}
		}
	}
}

// P11.3: with a bit turned, a byte more or a byte less, of the sealed text or of the associated data, nothing is opened.
func TestChanged(t *testing.T) {
	d := newDraw(9)
	for _, size := range []int{0, 1, 16, 40, 65} {
		for _, n := range []int{0, 1, 16, 33} {
			key, nonce, beside := d.key(), d.nonce(), d.bytes(n)
			sealed, _ := aead.Seal(key, nonce, beside, d.bytes(size))
			for bit := range 8 * len(sealed) {
				checkShut(t, api.ErrKey, key, nonce, beside, flipped(sealed, bit))
			}
			for bit := range 8 * n {
				checkShut(t, api.ErrKey, key, nonce, flipped(beside, bit), sealed)
			}
			for _, more := range []byte{0, 1, 0xff} {
				checkShut(t, api.ErrKey, key, nonce, append(bytes.Clone(beside), more), sealed)
				checkShut(t, api.ErrKey, key, nonce, beside, append(bytes.Clone(sealed), more))
				checkShut(t, api.ErrKey, key, nonce, beside, append([]byte{more}, sealed...))
			}
			if n > 0 {
				checkShut(t, api.ErrKey, key, nonce, beside[1:], sealed)
				checkShut(t, api.ErrKey, key, nonce, beside[:n-1], sealed)
			}
			if size > 0 {
				checkShut(t, api.ErrKey, key, nonce, beside, sealed[1:])
				checkShut(t, api.ErrKey, key, nonce, beside, sealed[:len(sealed)-1])
				checkShut(t, api.ErrKey, key, nonce, beside, sealed[:len(sealed)-size])
			}
		}
	}
}

// P11.3: zero bytes are neither added to the associated data or to the encrypted text, nor taken away, nor moved from one to the other, although they would be filled up alike.
func TestMovedBytes(t *testing.T) {
	d := newDraw(10)
	key, nonce, zeros := d.key(), d.nonce(), make([]byte, 64)
	tags := map[[16]byte]bool{}
	for n := range 49 {
		for size := range 49 {
			tags[aead.Tag(key, nonce, zeros[:n], zeros[:size])] = true
		}
	}
	if len(tags) != 49*49 {
		t.Errorf("%d pairs of zero bytes have %d tags", 49*49, len(tags))
	}
	b := d.bytes(64)
	sealed, _ := aead.Seal(key, nonce, b[:32], b[32:])
	whole := append(bytes.Clone(b[:32]), sealed...)
	for n := range 65 {
		if n != 32 {
			checkShut(t, api.ErrKey, key, nonce, whole[:n], whole[n:])
		}
	}
}

// P11.3: whatever has the tag is opened, and is what sealing makes of its text.
func TestOnlySealed(t *testing.T) {
	d := newDraw(11)
	for size := range 100 {
		key, nonce, beside, hidden := d.key(), d.nonce(), d.bytes(size/3), d.bytes(size)
		end := aead.Tag(key, nonce, beside, hidden)
		made := append(bytes.Clone(hidden), end[:]...)
		text, e := aead.Open(key, nonce, beside, made)
		if e != api.OK || len(text) != size {
			t.Fatalf("Open of %d bytes = %x, %d", len(made), text, e)
		}
		checkSealed(t, key, nonce, beside, text, made)
	}
}

// P11.1, P11.2: results share no memory with what they were made of (LANGUAGE, rule 7), and bytes behind that stay as they are.
func TestOwnMemory(t *testing.T) {
	d := newDraw(12)
	key, nonce, whole := d.key(), d.nonce(), d.bytes(300)
	for size := range 100 {
		sealed, _ := aead.Seal(key, nonce, whole[:size], whole[:size])
		room := append(sealed, whole...)
		before := slices.Concat(whole, room)
		text, e := aead.Open(key, nonce, whole[:size], room[:len(sealed)])
		if e != api.OK {
			t.Fatalf("Open of %d bytes: %d", len(sealed), e)
		}
		clear(text[:cap(text)])
		again, _ := aead.Seal(key, nonce, whole[:size], whole[:size])
		clear(again[:cap(again)])
		if !bytes.Equal(slices.Concat(whole, room), before) {
			t.Fatalf("with %d bytes, those given or those behind them were changed", size)
		}
	}
}
