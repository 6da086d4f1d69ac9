package suite_test

import (
	"bytes"
	"encoding/hex"
	"math"
	"math/rand/v2"
	"slices"
	"strconv"
	"testing"

	"bastille/api"
	"bastille/suite"
)

// A crypt is a suite, or what a suite is held against.
type crypt interface {
	Draw(sort int) ([]byte, api.Errno)
	Public(secret []byte) ([]byte, api.Errno)
	Verifier(secret []byte) ([]byte, api.Errno)
	Wrap(public, v []byte) ([]byte, api.Errno)
	Unwrap(secret, w []byte) ([]byte, api.Errno)
	Lock(key, v []byte) ([]byte, api.Errno)
	Unlock(key, c []byte) ([]byte, api.Errno)
	Next(state []byte) ([]byte, api.Errno)
	Item(state []byte) ([]byte, api.Errno)
	Sign(secret, text []byte) ([]byte, api.Errno)
	Check(verifier, text, signature []byte) api.Errno
	Digest(text []byte) ([]byte, api.Errno)
	Data(text []byte) ([]byte, api.Errno)
	Text(v []byte) ([]byte, api.Errno)
	Draws() int
}

// The functions that an act is a call of.
const (
	draw = iota
	public
	verifier
	wrap
	unwrap
	lock
	unlock
	next
	item
	sign
	check
	digest
	data
	text
	functions // how many there are
)

// An act is a call of a function, with what it is given.
type act struct {
	function int
	sort     int
	a, b, c  []byte
}

func (x act) do(k crypt) ([]byte, api.Errno) {
	switch x.function {
	case draw:
		return k.Draw(x.sort)
	case public:
		return k.Public(x.a)
	case verifier:
		return k.Verifier(x.a)
	case wrap:
		return k.Wrap(x.a, x.b)
	case unwrap:
		return k.Unwrap(x.a, x.b)
	case lock:
		return k.Lock(x.a, x.b)
	case unlock:
		return k.Unlock(x.a, x.b)
	case next:
		return k.Next(x.a)
	case item:
		return k.Item(x.a)
	case sign:
		return k.Sign(x.a, x.b)
	case check:
		return nil, k.Check(x.a, x.b, x.c)
	case digest:
		return k.Digest(x.a)
	case data:
		return k.Data(x.a)
	case text:
		return k.Text(x.a)
	}
	panic("no such function")
}

func (x act) String() string {
	names := [functions]string{"Draw", "Public", "Verifier", "Wrap", "Unwrap", "Lock", "Unlock", "Next", "Item", "Sign", "Check", "Digest", "Data", "Text"}
	l := names[x.function] + " of " + strconv.Itoa(x.sort)
	for _, b := range [][]byte{x.a, x.b, x.c} {
		l += ", " + strconv.Itoa(len(b)) + " bytes " + hex.EncodeToString(b[:min(len(b), 40)])
	}
	return l
}

// perform wants what it is given to stay as it was, and nothing beside an error.
func perform(t *testing.T, k crypt, x act) ([]byte, api.Errno) {
	t.Helper()
	before := [][]byte{bytes.Clone(x.a), bytes.Clone(x.b), bytes.Clone(x.c)}
	b, e := x.do(k)
	if e != api.OK && b != nil {
		t.Errorf("%v = %.100x beside %d", x, b, e)
	}
	for i, given := range [][]byte{x.a, x.b, x.c} {
		if !bytes.Equal(given, before[i]) {
			t.Errorf("%v has changed what it was given", x)
		}
	}
	return b, e
}

// checkAct wants an act to have an answer.
func checkAct(t *testing.T, k crypt, x act, want []byte) {
	t.Helper()
	if b, e := perform(t, k, x); e != api.OK || !bytes.Equal(b, want) {
		t.Errorf("%v = %.100x, %d, not %.100x", x, b, e, want)
	}
}

// checkError wants an act to have an error.
func checkError(t *testing.T, k crypt, x act, want api.Errno) {
	t.Helper()
	if b, e := perform(t, k, x); e != want {
		t.Errorf("%v = %.100x, %d, not %d", x, b, e, want)
	}
}

// checkSame wants an act to come to the same in a suite and in its model.
func checkSame(t *testing.T, s *suite.Suite, model crypt, x act) ([]byte, api.Errno) {
	t.Helper()
	b, e := perform(t, s, x)
	want, wantErr := x.do(model)
	if e != wantErr || !bytes.Equal(b, want) {
		t.Fatalf("%v = %.100x, %d, not %.100x, %d", x, b, e, want, wantErr)
	}
	if s.Draws() != model.Draws() {
		t.Fatalf("%d draws after %v, not %d", s.Draws(), x, model.Draws())
	}
	return b, e
}

// must is the answer of an act that has one.
func must(t *testing.T, k crypt, x act) []byte {
	t.Helper()
	b, e := perform(t, k, x)
	if e != api.OK {
		t.Fatalf("%v: %d", x, e)
	}
	return b
}

// both is a suite of each kind.
func both() []*suite.Suite { return []*suite.Suite{suite.Bytes([32]byte{7}), suite.Terms()} }

// wrongSorts is sorts that there are not.
func wrongSorts() []int {
	return []int{math.MinInt, -1 << 32, -2, -1, 0, 5, 6, 257, 1<<32 + 1, math.MaxInt}
}

// anyBytes is bytes that look like any, the same ones in each run.
func anyBytes(d *rand.Rand, size int) []byte {
	b := make([]byte, size)
	for i := range b {
		b[i] = byte(d.Uint32())
	}
	return b
}

func newDice(n byte) *rand.Rand { return rand.New(rand.NewChaCha8([32]byte{n})) }

// flipped is a copy of bytes with one bit turned.
func flipped(b []byte, bit int) []byte {
	b = bytes.Clone(b)
	b[bit/8] ^= 1 << (bit % 8)
	return b
}

// P16.1: a sort that does not exist is ErrArg, and is no draw.
func TestSorts(t *testing.T) {
	for _, s := range both() {
		for range 2 {
			for _, sort := range wrongSorts() {
				checkError(t, s, act{function: draw, sort: sort}, api.ErrArg)
			}
			if s.Draws() != 0 || s.Store().Len() != 0 {
				t.Errorf("%d draws, %d terms", s.Draws(), s.Store().Len())
			}
		}
		for sort := api.SortSecret; sort <= api.SortOther; sort++ {
			must(t, s, act{function: draw, sort: sort})
		}
	}
}

// P16.1, P16.3: what no constructor made is no suite, and does not become one.
func TestNoSuite(t *testing.T) {
	key, value := make([]byte, 32), append([]byte{0xf7}, make([]byte, 8)...)
	for _, s := range []*suite.Suite{nil, {}, new(suite.Suite)} {
		for function := range functions {
			for _, sort := range append(wrongSorts(), api.SortSecret, api.SortOther) {
				checkError(t, s, act{function: function, sort: sort}, api.ErrNil)
			}
			for _, a := range [][]byte{nil, key, value, make([]byte, api.MaxText+1)} {
				for _, b := range [][]byte{nil, key, value, make([]byte, 64), make([]byte, api.MaxText+1)} {
					checkError(t, s, act{function, api.SortKey, a, b, b}, api.ErrNil)
				}
			}
		}
		if s.Store() != nil || s.Draws() != 0 {
			t.Errorf("a store %v, %d draws", s.Store(), s.Draws())
		}
		for _, v := range [][]byte{nil, key, value} {
			if n, ok := s.Number(v); n != 0 || ok {
				t.Errorf("Number(%x) = %d, %v", v, n, ok)
			}
		}
	}
}

// P16.4: what is wrapped, locked or signed is unwrapped, unlocked and valid, and by nothing else; a text is that of its value.
func TestThereAndBack(t *testing.T) {
	for _, s := range both() {
		first, second := must(t, s, act{function: draw, sort: api.SortSecret}), must(t, s, act{function: draw, sort: api.SortSecret})
		publics := [][]byte{must(t, s, act{function: public, a: first}), must(t, s, act{function: public, a: second})}
		verifiers := [][]byte{must(t, s, act{function: verifier, a: first}), must(t, s, act{function: verifier, a: second})}
		for _, plain := range []string{"", "a", "hello", "\x00\xff", string(make([]byte, 1000))} {
			v := must(t, s, act{function: data, a: []byte(plain)})
			checkAct(t, s, act{function: text, a: v}, []byte(plain))
			for i, secret := range [][]byte{first, second} {
				other := [][]byte{second, first}[i]
				w := must(t, s, act{function: wrap, a: publics[i], b: v})
				checkAct(t, s, act{function: unwrap, a: secret, b: w}, v)
				checkError(t, s, act{function: unwrap, a: other, b: w}, api.ErrKey)
				c := must(t, s, act{function: lock, a: secret, b: v})
				checkAct(t, s, act{function: unlock, a: secret, b: c}, v)
				checkError(t, s, act{function: unlock, a: other, b: c}, api.ErrKey)
				z := must(t, s, act{function: sign, a: secret, b: []byte(plain)})
				checkAct(t, s, act{check, 0, verifiers[i], []byte(plain), z}, nil)
				checkError(t, s, act{check, 0, verifiers[i], []byte(plain + "x"), z}, api.ErrSign)
				checkError(t, s, act{check, 0, verifiers[1-i], []byte(plain), z}, api.ErrSign)
			}
		}
	}
}

// P16.4: what is wrapped and locked within each other comes out again, in the other order.
func TestWithinEachOther(t *testing.T) {
	for _, s := range both() {
		secret, state := must(t, s, act{function: draw, sort: api.SortSecret}), must(t, s, act{function: draw, sort: api.SortState})
		pub := must(t, s, act{function: public, a: secret})
		key := must(t, s, act{function: item, a: must(t, s, act{function: next, a: state})})
		v := must(t, s, act{function: data, a: []byte("hello")})
		layers := [][]byte{v}
		for i := range 20 {
			if i%3 == 0 {
				v = must(t, s, act{function: wrap, a: pub, b: v})
			} else {
				v = must(t, s, act{function: lock, a: key, b: v})
			}
			layers = append(layers, v)
		}
		for i := 19; i >= 0; i-- {
			if i%3 == 0 {
				checkAct(t, s, act{function: unwrap, a: secret, b: layers[i+1]}, layers[i])
			} else {
				checkAct(t, s, act{function: unlock, a: key, b: layers[i+1]}, layers[i])
			}
		}
	}
}

// P16.1, P16.3: one suite does not change another; two that begin alike answer the same calls alike.
func TestTwoSuites(t *testing.T) {
	for i := range both() {
		s, twin, other := both()[i], both()[i], both()[i]
		for function := range functions {
			must(t, other, act{function: draw, sort: api.SortKey})
			must(t, other, act{function: data, a: []byte{byte(function)}})
			k, _ := checkSame(t, s, twin, act{function: draw, sort: api.SortState})
			checkSame(t, s, twin, act{function, api.SortKey, k, k, k})
			if n, want := s.Store().Len(), twin.Store().Len(); n != want {
				t.Errorf("%d terms, not %d", n, want)
			}
		}
	}
}

// P16.1, P16.2: answers share no memory with what was given, nor with each other (LANGUAGE, rule 7), and bytes behind what was given stay as they are.
func TestOwnMemory(t *testing.T) {
	for _, s := range both() {
		given := [][]byte{must(t, s, act{function: draw, sort: api.SortSecret}), must(t, s, act{function: data, a: []byte("hello")})}
		secret, v := given[0], given[1]
		pub := must(t, s, act{function: public, a: secret})
		w, c := must(t, s, act{function: wrap, a: pub, b: v}), must(t, s, act{function: lock, a: secret, b: v})
		for _, x := range []act{
			{draw, api.SortKey, nil, nil, nil}, {public, 0, secret, nil, nil}, {verifier, 0, secret, nil, nil},
			{wrap, 0, pub, v, nil}, {unwrap, 0, secret, w, nil}, {lock, 0, secret, v, nil}, {unlock, 0, secret, c, nil},
			{next, 0, secret, nil, nil}, {item, 0, secret, nil, nil}, {sign, 0, secret, v, nil},
			{digest, 0, v, nil, nil}, {data, 0, v, nil, nil}, {text, 0, v, nil, nil},
		} {
			x.a, x.b = roomy(x.a), roomy(x.b)
			before := slices.Concat(x.a[:cap(x.a)], x.b[:cap(x.b)])
			b := must(t, s, x)
			kept := bytes.Clone(b)
			again := must(t, s, x)
			clear(again[:cap(again)])
			if !bytes.Equal(b, kept) || !bytes.Equal(slices.Concat(x.a[:cap(x.a)], x.b[:cap(x.b)]), before) {
				t.Errorf("%v shares its memory", x)
			}
		}
		if b := must(t, s, act{function: text, a: v}); string(b) != "hello" {
			t.Errorf("the text has become %q", b)
		}
	}
}

// roomy is a copy of bytes with further ones behind it.
func roomy(b []byte) []byte {
	room := append(bytes.Clone(b), slices.Repeat([]byte{0xaa}, 100)...)
	return room[:len(b)]
}

// P16.1, P16.2: a text belongs to its suite whatever becomes of the bytes that it was given as.
func TestTextsAreKept(t *testing.T) {
	for _, s := range both() {
		secret := must(t, s, act{function: draw, sort: api.SortSecret})
		b := []byte("hello")
		v, d, z := must(t, s, act{function: data, a: b}), must(t, s, act{function: digest, a: b}), must(t, s, act{function: sign, a: secret, b: b})
		copy(b, "HELLO")
		checkAct(t, s, act{function: text, a: v}, []byte("hello"))
		checkAct(t, s, act{function: digest, a: []byte("hello")}, d)
		ver := must(t, s, act{function: verifier, a: secret})
		checkAct(t, s, act{check, 0, ver, []byte("hello"), z}, nil)
		checkError(t, s, act{check, 0, ver, b, z}, api.ErrSign)
	}
}
