package suite_test

import (
	"bytes"
	"crypto/ecdh"
	"crypto/ed25519"
	"crypto/hmac"
	"crypto/sha512"
	"encoding/binary"
	"encoding/hex"
	"slices"
	"testing"

	"bastille/aead"
	"bastille/api"
	"bastille/box"
	signatures "bastille/sign"
	"bastille/suite"
)

// A byteModel is a suite of bytes as the chapter says it: with Go's own functions, but for what layers 8, 11 and 13 do with a given nonce or seed, and open.
type byteModel struct {
	seed  [32]byte
	draws int
}

// derived is a derived key by Go's own HMAC.
func derived(from []byte, label string, contexts ...[]byte) [32]byte {
	h := hmac.New(sha512.New, from)
	h.Write([]byte{byte(len(label))})
	h.Write([]byte(label))
	for _, c := range contexts {
		h.Write(binary.BigEndian.AppendUint32(nil, uint32(len(c))))
		h.Write(c)
	}
	return [32]byte(h.Sum(nil))
}

// drawn is a draw of a seed.
func drawn(seed [32]byte, index int) [32]byte {
	return derived(seed[:], "draw", binary.BigEndian.AppendUint64(nil, uint64(index)))
}

func (m *byteModel) draw() [32]byte {
	m.draws++
	return drawn(m.seed, m.draws-1)
}

func (m *byteModel) Draw(sort int) ([]byte, api.Errno) {
	if !slices.Contains([]int{api.SortSecret, api.SortState, api.SortKey, api.SortOther}, sort) {
		return nil, api.ErrArg
	}
	b := m.draw()
	return b[:], api.OK
}

func (m *byteModel) Public(secret []byte) ([]byte, api.Errno) {
	k, err := ecdh.X25519().NewPrivateKey(secret)
	if err != nil {
		return nil, api.ErrForm
	}
	return k.PublicKey().Bytes(), api.OK
}

func (m *byteModel) Verifier(secret []byte) ([]byte, api.Errno) {
	if len(secret) != 32 {
		return nil, api.ErrForm
	}
	return ed25519.NewKeyFromSeed(secret)[32:], api.OK
}

func (m *byteModel) Wrap(public, v []byte) ([]byte, api.Errno) {
	if len(public) != 32 {
		return nil, api.ErrForm
	}
	return box.Wrap(m.draw(), [32]byte(public), v)
}

func (m *byteModel) Unwrap(secret, w []byte) ([]byte, api.Errno) {
	if len(secret) != 32 {
		return nil, api.ErrForm
	}
	return box.Unwrap([32]byte(secret), w)
}

func (m *byteModel) Lock(key, v []byte) ([]byte, api.Errno) {
	if len(key) != 32 {
		return nil, api.ErrForm
	}
	d := m.draw()
	sealed, e := aead.Seal([32]byte(key), [12]byte(d[:12]), nil, v)
	if e != api.OK {
		return nil, e
	}
	return append(bytes.Clone(d[:12]), sealed...), api.OK
}

func (m *byteModel) Unlock(key, c []byte) ([]byte, api.Errno) {
	if len(key) != 32 {
		return nil, api.ErrForm
	}
	if len(c) < 12 {
		return nil, api.ErrEnd
	}
	return aead.Open([32]byte(key), [12]byte(c), nil, c[12:])
}

func (m *byteModel) Next(state []byte) ([]byte, api.Errno) { return m.labelled(state, "regress") }

func (m *byteModel) Item(state []byte) ([]byte, api.Errno) { return m.labelled(state, "item") }

func (m *byteModel) labelled(state []byte, label string) ([]byte, api.Errno) {
	if len(state) != 32 {
		return nil, api.ErrForm
	}
	b := derived(state, label)
	return b[:], api.OK
}

func (m *byteModel) Sign(secret, text []byte) ([]byte, api.Errno) {
	if len(secret) != 32 {
		return nil, api.ErrForm
	}
	return ed25519.Sign(ed25519.NewKeyFromSeed(secret), text), api.OK
}

func (m *byteModel) Check(verifier, text, signature []byte) api.Errno {
	if len(verifier) != 32 {
		return api.ErrForm
	}
	return signatures.Verify([32]byte(verifier), text, signature)
}

func (m *byteModel) Digest(text []byte) ([]byte, api.Errno) {
	h := sha512.Sum512(text)
	return h[:32], api.OK
}

func (m *byteModel) Data(text []byte) ([]byte, api.Errno) { return text, api.OK }

func (m *byteModel) Text(v []byte) ([]byte, api.Errno) { return v, api.OK }

func (m *byteModel) Draws() int { return m.draws }

// bytesOf is the bytes that digits stand for.
func bytesOf(t *testing.T, digits string) []byte {
	t.Helper()
	b, err := hex.DecodeString(digits)
	if err != nil {
		t.Fatal(err)
	}
	return b
}

// noPoints is public keys of which every shared secret is 0.
func noPoints() [][]byte {
	return [][]byte{make([]byte, 32), append([]byte{1}, make([]byte, 31)...), append(make([]byte, 31), 0x80)}
}

// P16.1, P16.2: what was computed beside this program, from the seed 00 01 .. 1f (by Python's hmac and cryptography, which has OpenSSL's curves and ChaCha20-Poly1305).
func TestKnownBytes(t *testing.T) {
	s := suite.Bytes([32]byte(bytesOf(t, "000102030405060708090a0b0c0d0e0f101112131415161718191a1b1c1d1e1f")))
	secret := bytesOf(t, "7fda88fefb273225d357b06f96bcd9063419c115b478d622e5fe913837f964c8")
	state := bytesOf(t, "95821b9c708a182322c946c5479320eb4bed08c622ad7833c37c548091d3ada1")
	pub := bytesOf(t, "d762381ed53437878a9679495a00f222f69884ed8a56a30e896d58a3a4bf162a")
	ver := bytesOf(t, "7b541e4360d757ecfddec7dbfa5e3c911f923b4230b8d6e8b67b939a7574dbcd")
	older := bytesOf(t, "8f87d3d26a3f78432aad5ad194d04712621b6a0c8cec5c5dcdc1efea2574ebc7")
	key := bytesOf(t, "651aed8b1c53e74e6c9091b47c62ab7464b670070fa7e7ecc76444269b907bfc")
	wrapped := bytesOf(t, "d1ce1f74ed3ed6fc20ae18d53dd1d21372df37a6aa6f13c51e68d3dc0384ac298f0295f3e91d68369e9ef0fdea8e83b60a8524880366842b9e76da9da805e7398b8c3dfb22ce453335b67ee4f5ba1986")
	locked := bytesOf(t, "49724d5d6c3cd5452d5e51b165b2ec3e82f69e6a9aa8765ef7f0b5faf791b9c35b")
	signed := bytesOf(t, "99e077047ff50af7fe2f21a63354ea2aff07bda73815ebca711839c2f9b93d490294adf2730a8ad2e3d1f27c443a6f4ea49f745600e3f4f28a627dea81740c08")
	checkAct(t, s, act{function: draw, sort: api.SortSecret}, secret)
	checkAct(t, s, act{function: draw, sort: api.SortState}, state)
	checkAct(t, s, act{function: public, a: secret}, pub)
	checkAct(t, s, act{function: verifier, a: secret}, ver)
	checkAct(t, s, act{function: next, a: state}, older)
	checkAct(t, s, act{function: item, a: older}, key)
	checkAct(t, s, act{function: wrap, a: pub, b: state}, wrapped)
	checkAct(t, s, act{function: unwrap, a: secret, b: wrapped}, state)
	checkAct(t, s, act{function: lock, a: key, b: []byte("hello")}, locked)
	checkAct(t, s, act{function: unlock, a: key, b: locked}, []byte("hello"))
	checkAct(t, s, act{function: sign, a: secret, b: []byte("hello")}, signed)
	checkAct(t, s, act{check, 0, ver, []byte("hello"), signed}, nil)
	checkAct(t, s, act{function: digest, a: []byte("hello")}, bytesOf(t, "9b71d224bd62f3785d96d46ad3ea3d73319bfbc2890caadae2dff72519673ca7"))
	checkAct(t, s, act{function: draw, sort: api.SortOther}, bytesOf(t, "d520efb97356caf8d7f88017d72ad11eca25bb2fc2827a6a48f291f5ff2b3a81"))
	for s.Draws() < 255 {
		must(t, s, act{function: draw, sort: api.SortKey})
	}
	checkAct(t, s, act{function: draw, sort: api.SortKey}, bytesOf(t, "f60f5809b78f1cc30ebbed184711e7be16715f75c4a78779571907184c43dcc9"))
	checkAct(t, s, act{function: draw, sort: api.SortKey}, bytesOf(t, "371e2d2d0abffbd2a27b8560cd3679fa53112bc85635e222aad3857b74e52e66"))
	checkAct(t, s, act{function: draw, sort: api.SortKey}, bytesOf(t, "271119502c888a746d57e097d9dfa46d9cd15ab7f2fd04e7dac26dad51eb247f"))
	if s.Draws() != 258 {
		t.Errorf("%d draws", s.Draws())
	}
}

// P16.1, P16.3: each draw is that of its index alone, whatever its sort, and no two are the same; the seed has a part in it with each of its bits.
func TestDraws(t *testing.T) {
	s, seen := suite.Bytes([32]byte{7}), map[string]int{}
	for i := range 70000 {
		if s.Draws() != i {
			t.Fatalf("%d draws, not %d", s.Draws(), i)
		}
		want := drawn([32]byte{7}, i)
		checkAct(t, s, act{function: draw, sort: api.SortSecret + i%4}, want[:])
		seen[string(want[:])]++
	}
	for bit := range 256 {
		seed := [32]byte(flipped(append([]byte{7}, make([]byte, 31)...), bit))
		want := drawn(seed, 0)
		checkAct(t, suite.Bytes(seed), act{function: draw, sort: api.SortKey}, want[:])
		seen[string(want[:])]++
	}
	if len(seen) != 70256 {
		t.Errorf("%d draws are different", len(seen))
	}
}

// P16.1: secrets, public keys, keys, states and verifiers have 32 bytes; that comes ahead of all else, and takes no draw.
func TestForm(t *testing.T) {
	s := suite.Bytes([32]byte{7})
	d := newDice(1)
	for _, size := range []int{0, 1, 8, 9, 12, 16, 30, 31, 33, 34, 48, 63, 64, 65, 288, 1000, 1<<16 + 32, api.MaxText, api.MaxText + 1} {
		a := anyBytes(d, size)
		for _, function := range []int{public, verifier, wrap, unwrap, lock, unlock, next, item, sign, check} {
			for _, b := range [][]byte{nil, anyBytes(d, 11), anyBytes(d, 47), anyBytes(d, 100), make([]byte, api.MaxText+1)} {
				for _, c := range [][]byte{nil, anyBytes(d, 64)} {
					checkError(t, s, act{function, 0, a, b, c}, api.ErrForm)
				}
			}
		}
	}
	for _, n := range noPoints() {
		checkError(t, s, act{function: wrap, a: append(n, 0), b: nil}, api.ErrForm)
	}
	if s.Draws() != 0 {
		t.Errorf("%d draws", s.Draws())
	}
}

// P16.1: a public key without a shared secret is ErrPoint, also with a value that is too long; the draw is taken all the same, so that it serves only once.
func TestNotWrapped(t *testing.T) {
	s := suite.Bytes([32]byte{7})
	secret := must(t, s, act{function: draw, sort: api.SortSecret})
	pub := must(t, s, act{function: public, a: secret})
	draws := 1
	for _, n := range noPoints() {
		for _, size := range []int{0, 1, 100, api.MaxText - 48, api.MaxText - 47, api.MaxText + 1} {
			checkError(t, s, act{function: wrap, a: n, b: make([]byte, size)}, api.ErrPoint)
			draws++
		}
	}
	for _, size := range []int{api.MaxText - 47, api.MaxText - 16, api.MaxText, api.MaxText + 1} {
		checkError(t, s, act{function: wrap, a: pub, b: make([]byte, size)}, api.ErrLimit)
		draws++
	}
	if s.Draws() != draws {
		t.Errorf("%d draws, not %d", s.Draws(), draws)
	}
	long := make([]byte, api.MaxText-48)
	want, _ := box.Wrap(drawn([32]byte{7}, draws), [32]byte(pub), long)
	checkAct(t, s, act{function: wrap, a: pub, b: long}, want)
	checkAct(t, s, act{function: unwrap, a: secret, b: want}, long)
}

// P16.2: the errors of layer 13, in their order.
func TestNotUnwrapped(t *testing.T) {
	s := suite.Bytes([32]byte{7})
	secret := must(t, s, act{function: draw, sort: api.SortSecret})
	w := must(t, s, act{function: wrap, a: must(t, s, act{function: public, a: secret}), b: []byte("hello")})
	for size := range 48 {
		checkError(t, s, act{function: unwrap, a: secret, b: w[:size]}, api.ErrEnd)
		checkError(t, s, act{function: unwrap, a: secret, b: make([]byte, size)}, api.ErrEnd)
	}
	for _, n := range noPoints() {
		checkError(t, s, act{function: unwrap, a: secret, b: append(n, make([]byte, 16)...)}, api.ErrPoint)
		checkError(t, s, act{function: unwrap, a: secret, b: append(n, make([]byte, api.MaxText-31)...)}, api.ErrLimit)
	}
	checkError(t, s, act{function: unwrap, a: secret, b: slices.Repeat([]byte{9}, api.MaxText)}, api.ErrKey)
	checkError(t, s, act{function: unwrap, a: secret, b: slices.Repeat([]byte{9}, api.MaxText+1)}, api.ErrLimit)
	for bit := range 8 * len(w) {
		checkError(t, s, act{function: unwrap, a: secret, b: flipped(w, bit)}, api.ErrKey)
	}
	checkError(t, s, act{function: unwrap, a: secret, b: append(w, 0)}, api.ErrKey)
	if s.Draws() != 2 {
		t.Errorf("%d draws", s.Draws())
	}
}

// P16.1: the longest value is locked, a longer one is ErrLimit; the draw is taken all the same.
func TestNotLocked(t *testing.T) {
	s := suite.Bytes([32]byte{7})
	key := make([]byte, 32)
	for i, size := range []int{api.MaxText - 15, api.MaxText, api.MaxText + 1, 2 * api.MaxText} {
		checkError(t, s, act{function: lock, a: key, b: make([]byte, size)}, api.ErrLimit)
		if s.Draws() != i+1 {
			t.Errorf("%d draws", s.Draws())
		}
	}
	long, nonce := make([]byte, api.MaxText-16), drawn([32]byte{7}, 4)
	sealed, _ := aead.Seal([32]byte{}, [12]byte(nonce[:]), nil, long)
	want := append(bytes.Clone(nonce[:12]), sealed...)
	checkAct(t, s, act{function: lock, a: key, b: long}, want)
	checkAct(t, s, act{function: unlock, a: key, b: want}, long)
}

// P16.2: fewer than 12 bytes are ErrEnd, as are fewer than 16 behind them; then come the errors of layer 11.
func TestNotUnlocked(t *testing.T) {
	s := suite.Bytes([32]byte{7})
	key := must(t, s, act{function: draw, sort: api.SortKey})
	c := must(t, s, act{function: lock, a: key, b: []byte("hello")})
	if len(c) != 33 {
		t.Fatalf("%d bytes", len(c))
	}
	checkError(t, s, act{function: unlock, a: key, b: nil}, api.ErrEnd)
	for size := range 28 {
		checkError(t, s, act{function: unlock, a: key, b: c[:size]}, api.ErrEnd)
	}
	for size := 28; size < 33; size++ {
		checkError(t, s, act{function: unlock, a: key, b: c[:size]}, api.ErrKey)
	}
	for bit := range 8 * len(c) {
		checkError(t, s, act{function: unlock, a: key, b: flipped(c, bit)}, api.ErrKey)
	}
	for bit := range 256 {
		checkError(t, s, act{function: unlock, a: flipped(key, bit), b: c}, api.ErrKey)
	}
	checkError(t, s, act{function: unlock, a: key, b: append(bytes.Clone(c), 0)}, api.ErrKey)
	checkError(t, s, act{function: unlock, a: key, b: make([]byte, api.MaxText+12)}, api.ErrKey)
	checkError(t, s, act{function: unlock, a: key, b: make([]byte, api.MaxText+13)}, api.ErrLimit)
	// What is sealed with associated data is not a locked value, nor is one with another nonce ahead of it.
	sealed, _ := aead.Seal([32]byte(key), [12]byte{}, []byte("a"), []byte("hello"))
	checkError(t, s, act{function: unlock, a: key, b: append(make([]byte, 12), sealed...)}, api.ErrKey)
	sealed, _ = aead.Seal([32]byte(key), [12]byte{}, nil, []byte("hello"))
	checkAct(t, s, act{function: unlock, a: key, b: append(make([]byte, 12), sealed...)}, []byte("hello"))
	if s.Draws() != 2 {
		t.Errorf("%d draws", s.Draws())
	}
}

// P16.2: the errors of layer 8, in their order; texts have no limit.
func TestNotSigned(t *testing.T) {
	s := suite.Bytes([32]byte{7})
	secret := must(t, s, act{function: draw, sort: api.SortSecret})
	ver := must(t, s, act{function: verifier, a: secret})
	long := slices.Repeat([]byte("text"), api.MaxText)
	z := must(t, s, act{function: sign, a: secret, b: long})
	checkAct(t, s, act{check, 0, ver, long, z}, nil)
	checkError(t, s, act{check, 0, ver, long[:api.MaxText+1], z}, api.ErrSign)
	noPoint := append([]byte{2}, make([]byte, 31)...)
	for _, wrong := range [][]byte{nil, z[:32], z[:63], append(bytes.Clone(z), 0), make([]byte, api.MaxText+1)} {
		checkError(t, s, act{check, 0, ver, long, wrong}, api.ErrArg)
		checkError(t, s, act{check, 0, noPoint, long, wrong}, api.ErrArg)
	}
	checkError(t, s, act{check, 0, noPoint, nil, z}, api.ErrPoint)
	z = must(t, s, act{function: sign, a: secret, b: []byte("hello")})
	checkAct(t, s, act{check, 0, ver, []byte("hello"), z}, nil)
	for bit := range 8 * len(z) {
		checkError(t, s, act{check, 0, ver, []byte("hello"), flipped(z, bit)}, api.ErrSign)
	}
	for bit := range 40 {
		checkError(t, s, act{check, 0, ver, flipped([]byte("hello"), bit), z}, api.ErrSign)
	}
	if s.Draws() != 1 {
		t.Errorf("%d draws", s.Draws())
	}
}

// P16.1, P16.2: texts of any length, also longer ones than a store of terms takes, have a digest and are their own values.
func TestByteTexts(t *testing.T) {
	s, m := suite.Bytes([32]byte{7}), &byteModel{seed: [32]byte{7}}
	d := newDice(2)
	for _, size := range []int{0, 1, 8, 9, 31, 32, 33, 111, 112, 127, 128, 129, 1000, api.MaxText, api.MaxText + 1, 2 * api.MaxText} {
		b := anyBytes(d, size)
		for _, function := range []int{digest, data, text} {
			checkSame(t, s, m, act{function: function, a: b})
		}
	}
	value := append([]byte{0xf7}, make([]byte, 8)...)
	checkSame(t, s, m, act{function: data, a: value})
	checkSame(t, s, m, act{function: text, a: value})
}

// P16.3: a suite of bytes has no store, and its values are no terms.
func TestNoTerms(t *testing.T) {
	s := suite.Bytes([32]byte{7})
	key := must(t, s, act{function: draw, sort: api.SortKey})
	if s.Store() != nil {
		t.Error("there is a store")
	}
	for _, v := range [][]byte{nil, key, append([]byte{0xf7}, make([]byte, 8)...), {0xf7}} {
		if n, ok := s.Number(v); n != 0 || ok {
			t.Errorf("Number(%x) = %d, %v", v, n, ok)
		}
	}
}

// P16.1, P16.2, P16.3: any calls, one after the other, are answered as by the chapter's own way.
func TestAnyByteCalls(t *testing.T) {
	for seed := range byte(8) {
		d := newDice(10 + seed)
		s, m := suite.Bytes([32]byte{seed}), &byteModel{seed: [32]byte{seed}}
		values := [][]byte{nil, []byte("hello"), make([]byte, 32), make([]byte, 31), make([]byte, 64)}
		errors := map[api.Errno]int{}
		for range 300 {
			pick := func() []byte { return values[d.IntN(len(values))] }
			b, e := checkSame(t, s, m, act{d.IntN(functions), d.IntN(6), pick(), pick(), pick()})
			errors[e]++
			if len(b) > 0 {
				values = append(values, b)
			}
		}
		if errors[api.OK] < 100 || errors[api.ErrForm] < 30 || errors[api.ErrKey] == 0 {
			t.Errorf("calls were answered %v", errors)
		}
	}
}

// P16.1, P16.2: what fits together is answered as by the chapter's own way, with draws of both in between.
func TestByteChains(t *testing.T) {
	s, m := suite.Bytes([32]byte{9}), &byteModel{seed: [32]byte{9}}
	same := func(x act) []byte {
		t.Helper()
		b, e := checkSame(t, s, m, x)
		if e != api.OK {
			t.Fatalf("%v: %d", x, e)
		}
		return b
	}
	for i := range 20 {
		plain := bytes.Repeat([]byte{byte(i)}, 7*i)
		secret, state := same(act{function: draw, sort: api.SortSecret}), same(act{function: draw, sort: api.SortState})
		pub, ver := same(act{function: public, a: secret}), same(act{function: verifier, a: secret})
		w := same(act{function: wrap, a: pub, b: plain})
		same(act{function: unwrap, a: secret, b: w})
		key := same(act{function: item, a: same(act{function: next, a: state})})
		c := same(act{function: lock, a: key, b: w})
		same(act{function: unlock, a: key, b: c})
		z := same(act{function: sign, a: secret, b: c})
		same(act{check, 0, ver, c, z})
		if s.Draws() != 4*(i+1) {
			t.Fatalf("%d draws", s.Draws())
		}
	}
}
