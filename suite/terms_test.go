package suite_test

import (
	"encoding/binary"
	"math"
	"math/rand/v2"
	"slices"
	"testing"

	"bastille/api"
	"bastille/suite"
)

// A termModel is a suite of terms that looks through all it has.
type termModel struct {
	terms []api.Term
	texts []string
}

// valueOf is the value that represents the term of a number.
func valueOf(n int) []byte { return binary.BigEndian.AppendUint64([]byte{0xf7}, uint64(n)) }

// number is the number of a value's term, or -1.
func (m *termModel) number(v []byte) int {
	for n := range m.terms {
		if string(valueOf(n)) == string(v) {
			return n
		}
	}
	return -1
}

// put is the number of a term, or an error.
func (m *termModel) put(t api.Term) (int, api.Errno) {
	if n := slices.Index(m.terms, t); n >= 0 {
		return n, api.OK
	}
	if len(m.terms) == api.MaxTerms {
		return 0, api.ErrLimit
	}
	m.terms = append(m.terms, t)
	return len(m.terms) - 1, api.OK
}

func (m *termModel) value(t api.Term) ([]byte, api.Errno) {
	n, e := m.put(t)
	if e != api.OK {
		return nil, e
	}
	return valueOf(n), api.OK
}

// store is the number of a text, or an error.
func (m *termModel) store(b []byte) (int, api.Errno) {
	if len(b) > api.MaxText {
		return 0, api.ErrLimit
	}
	i := slices.Index(m.texts, string(b))
	if i < 0 {
		i = len(m.texts)
	}
	n, e := m.put(api.Term{Kind: api.TermText, A: i})
	if e == api.OK && i == len(m.texts) {
		m.texts = append(m.texts, string(b))
	}
	return n, e
}

func (m *termModel) Draw(sort int) ([]byte, api.Errno) {
	if !slices.Contains([]int{api.SortSecret, api.SortState, api.SortKey, api.SortOther}, sort) {
		return nil, api.ErrArg
	}
	b := 0
	for slices.Contains(m.terms, api.Term{Kind: api.TermAtom, A: sort, B: b}) {
		b++
	}
	return m.value(api.Term{Kind: api.TermAtom, A: sort, B: b})
}

// of is the value of a term that refers to one value.
func (m *termModel) of(kind int, v []byte) ([]byte, api.Errno) {
	n := m.number(v)
	if n < 0 {
		return nil, api.ErrForm
	}
	return m.value(api.Term{Kind: kind, A: n})
}

func (m *termModel) Public(secret []byte) ([]byte, api.Errno) { return m.of(api.TermPublic, secret) }

func (m *termModel) Verifier(secret []byte) ([]byte, api.Errno) {
	return m.of(api.TermVerifier, secret)
}

func (m *termModel) Next(state []byte) ([]byte, api.Errno) { return m.of(api.TermNext, state) }

func (m *termModel) Item(state []byte) ([]byte, api.Errno) { return m.of(api.TermItem, state) }

func (m *termModel) Wrap(public, v []byte) ([]byte, api.Errno) {
	p, n := m.number(public), m.number(v)
	if p < 0 || n < 0 || m.terms[p].Kind != api.TermPublic {
		return nil, api.ErrForm
	}
	return m.value(api.Term{Kind: api.TermWrap, A: p, B: n})
}

func (m *termModel) Lock(key, v []byte) ([]byte, api.Errno) {
	k, n := m.number(key), m.number(v)
	if k < 0 || n < 0 {
		return nil, api.ErrForm
	}
	return m.value(api.Term{Kind: api.TermLock, A: k, B: n})
}

// Unwrap tries the content of each wrapped value that there could be.
func (m *termModel) Unwrap(secret, w []byte) ([]byte, api.Errno) {
	s, n := m.number(secret), m.number(w)
	if s < 0 || n < 0 {
		return nil, api.ErrForm
	}
	p := slices.Index(m.terms, api.Term{Kind: api.TermPublic, A: s})
	for in := range m.terms {
		if p >= 0 && m.terms[n] == (api.Term{Kind: api.TermWrap, A: p, B: in}) {
			return valueOf(in), api.OK
		}
	}
	return nil, api.ErrKey
}

// Unlock tries the content of each locked value that there could be.
func (m *termModel) Unlock(key, c []byte) ([]byte, api.Errno) {
	k, n := m.number(key), m.number(c)
	if k < 0 || n < 0 {
		return nil, api.ErrForm
	}
	for in := range m.terms {
		if m.terms[n] == (api.Term{Kind: api.TermLock, A: k, B: in}) {
			return valueOf(in), api.OK
		}
	}
	return nil, api.ErrKey
}

func (m *termModel) Sign(secret, text []byte) ([]byte, api.Errno) {
	s := m.number(secret)
	if s < 0 {
		return nil, api.ErrForm
	}
	n, e := m.store(text)
	if e != api.OK {
		return nil, e
	}
	return m.value(api.Term{Kind: api.TermSign, A: s, B: n})
}

// Check tries each secret that could have signed.
func (m *termModel) Check(verifier, text, signature []byte) api.Errno {
	v, n := m.number(verifier), m.number(signature)
	if v < 0 || n < 0 {
		return api.ErrForm
	}
	if len(text) > api.MaxText {
		return api.ErrLimit
	}
	i := slices.Index(m.texts, string(text))
	at := slices.Index(m.terms, api.Term{Kind: api.TermText, A: i})
	for s := range m.terms {
		if at >= 0 && m.terms[v] == (api.Term{Kind: api.TermVerifier, A: s}) && m.terms[n] == (api.Term{Kind: api.TermSign, A: s, B: at}) {
			return api.OK
		}
	}
	return api.ErrSign
}

func (m *termModel) Digest(text []byte) ([]byte, api.Errno) {
	n, e := m.store(text)
	if e != api.OK {
		return nil, e
	}
	return m.value(api.Term{Kind: api.TermDigest, A: n})
}

func (m *termModel) Data(text []byte) ([]byte, api.Errno) {
	n, e := m.store(text)
	if e != api.OK {
		return nil, e
	}
	return valueOf(n), api.OK
}

func (m *termModel) Text(v []byte) ([]byte, api.Errno) {
	n := m.number(v)
	if n < 0 || m.terms[n].Kind != api.TermText {
		return nil, api.ErrForm
	}
	return []byte(m.texts[m.terms[n].A]), api.OK
}

func (m *termModel) Draws() int { return 0 }

// checkTerms wants a suite to have the terms and texts of its model, and its values to represent them.
func checkTerms(t *testing.T, s *suite.Suite, m *termModel) {
	t.Helper()
	if n := s.Store().Len(); n != len(m.terms) {
		t.Fatalf("%d terms, not %d", n, len(m.terms))
	}
	for n, x := range s.Store().All() {
		if x != m.terms[n] {
			t.Errorf("the term %d is %v, not %v", n, x, m.terms[n])
		}
		if k, ok := s.Number(valueOf(n)); k != n || !ok {
			t.Errorf("Number(%x) = %d, %v", valueOf(n), k, ok)
		}
		if b, ok := s.Store().Bytes(n); ok && string(b) != m.texts[x.A] {
			t.Errorf("the text %d is %.40q, not %.40q", n, b, m.texts[x.A])
		}
	}
}

// ofEach is a suite with terms of all kinds, some of them of terms that are made of others, and its model.
func ofEach(t *testing.T) (*suite.Suite, *termModel) {
	t.Helper()
	s, m := suite.Terms(), &termModel{}
	hello := []byte("hello")
	for i, x := range []act{
		{draw, api.SortSecret, nil, nil, nil},        // 0
		{draw, api.SortSecret, nil, nil, nil},        // 1
		{draw, api.SortState, nil, nil, nil},         // 2
		{public, 0, valueOf(0), nil, nil},            // 3
		{public, 0, valueOf(1), nil, nil},            // 4
		{verifier, 0, valueOf(0), nil, nil},          // 5
		{verifier, 0, valueOf(1), nil, nil},          // 6
		{next, 0, valueOf(2), nil, nil},              // 7
		{item, 0, valueOf(7), nil, nil},              // 8
		{data, 0, hello, nil, nil},                   // 9
		{data, 0, nil, nil, nil},                     // 10
		{wrap, 0, valueOf(3), valueOf(2), nil},       // 11
		{wrap, 0, valueOf(4), valueOf(9), nil},       // 12
		{lock, 0, valueOf(8), valueOf(9), nil},       // 13
		{lock, 0, valueOf(2), valueOf(11), nil},      // 14
		{sign, 0, valueOf(0), hello, nil},            // 15
		{sign, 0, valueOf(1), nil, nil},              // 16
		{digest, 0, hello, nil, nil},                 // 17
		{public, 0, valueOf(3), nil, nil},            // 18: the public key of a public key, with which
		{wrap, 0, valueOf(18), valueOf(18), nil},     // 19: is unwrapped what is for this one
		{lock, 0, valueOf(9), valueOf(9), nil},       // 20: a text, locked with itself
		{lock, 0, valueOf(3), valueOf(12), nil},      // 21: locked with a public key
		{verifier, 0, valueOf(5), nil, nil},          // 22: the verifier of a verifier, by which
		{sign, 0, valueOf(5), hello, nil},            // 23: holds what this one signs
		{verifier, 0, valueOf(2), nil, nil},          // 24
		{public, 0, valueOf(19), nil, nil},           // 25
		{wrap, 0, valueOf(25), valueOf(25), nil},     // 26
		{draw, api.SortKey, nil, nil, nil},           // 27
		{draw, api.SortOther, nil, nil, nil},         // 28
		{lock, 0, valueOf(0), valueOf(0), nil},       // 29
		{digest, 0, []byte{0xf7}, nil, nil},          // 30, 31
		{sign, 0, valueOf(31), []byte("other"), nil}, // 32, 33
	} {
		b, e := checkSame(t, s, m, x)
		if e != api.OK || i < 30 && string(b) != string(valueOf(i)) {
			t.Fatalf("%v = %x, %d, not the term %d", x, b, e, i)
		}
	}
	checkTerms(t, s, m)
	return s, m
}

// wrongValues is values that represent no term of a suite with so many terms.
func wrongValues(length int) [][]byte {
	l := [][]byte{nil, {}, {0xf7}, make([]byte, 9), []byte("hello"), make([]byte, 32), make([]byte, api.MaxText+1)}
	for _, n := range []int{length, length + 1, length + 256, api.MaxTerms, 1 << 32, 1<<32 + 1, 1 << 62, 1<<62 + 1, math.MaxInt, math.MinInt, -1} {
		l = append(l, valueOf(n))
	}
	for size := range 9 {
		l = append(l, valueOf(0)[:size])
	}
	l = append(l, append(valueOf(0), 0), append([]byte{0}, valueOf(0)...), append(valueOf(0), valueOf(0)...), valueOf(0)[1:])
	for _, first := range []byte{0, 1, 0x7f, 0xe7, 0xf6, 0xf8, 0xff} {
		l = append(l, append([]byte{first}, valueOf(0)[1:]...))
	}
	return append(l, slices.Concat([]byte{0xf7}, []byte{1}, make([]byte, 7)), slices.Concat([]byte{0xf7}, []byte{0x80}, make([]byte, 7)))
}

// The chapter's example.
func TestFirstTerm(t *testing.T) {
	s := suite.Terms()
	checkAct(t, s, act{function: draw, sort: api.SortKey}, []byte{0xf7, 0, 0, 0, 0, 0, 0, 0, 0})
	checkAct(t, s, act{function: draw, sort: api.SortKey}, []byte{0xf7, 0, 0, 0, 0, 0, 0, 0, 1})
	if s.Draws() != 0 {
		t.Errorf("%d draws", s.Draws())
	}
}

// P16.1: each function stores the term that the chapter's table says, once.
func TestEachTerm(t *testing.T) {
	s, m := ofEach(t)
	want := []api.Term{
		{Kind: api.TermAtom, A: api.SortSecret}, {Kind: api.TermAtom, A: api.SortSecret, B: 1}, {Kind: api.TermAtom, A: api.SortState},
		{Kind: api.TermPublic, A: 0}, {Kind: api.TermPublic, A: 1}, {Kind: api.TermVerifier, A: 0}, {Kind: api.TermVerifier, A: 1},
		{Kind: api.TermNext, A: 2}, {Kind: api.TermItem, A: 7}, {Kind: api.TermText, A: 0}, {Kind: api.TermText, A: 1},
		{Kind: api.TermWrap, A: 3, B: 2}, {Kind: api.TermWrap, A: 4, B: 9}, {Kind: api.TermLock, A: 8, B: 9}, {Kind: api.TermLock, A: 2, B: 11},
		{Kind: api.TermSign, A: 0, B: 9}, {Kind: api.TermSign, A: 1, B: 10}, {Kind: api.TermDigest, A: 9},
	}
	for n, x := range want {
		if y, ok := s.Store().Get(n); y != x || !ok {
			t.Errorf("the term %d is %v, not %v", n, y, x)
		}
	}
	// A draw alone stores another term when it is called again.
	for _, x := range []act{{function: public, a: valueOf(0)}, {function: next, a: valueOf(2)}, {wrap, 0, valueOf(3), valueOf(2), nil}, {lock, 0, valueOf(8), valueOf(9), nil}, {sign, 0, valueOf(0), []byte("hello"), nil}, {function: digest, a: []byte("hello")}, {function: data}} {
		checkSame(t, s, m, x)
	}
	if n := s.Store().Len(); n != 34 {
		t.Errorf("%d terms", n)
	}
	checkAct(t, s, act{function: draw, sort: api.SortSecret}, valueOf(34))
}

// P16.1, P16.2, P16.4: each function, with each term, and each pair of terms, is answered as by a suite that looks through all it has.
func TestEachPair(t *testing.T) {
	s, m := ofEach(t)
	length := len(m.terms)
	opened := map[int]int{}
	for a := range length {
		checkSame(t, s, m, act{function: text, a: valueOf(a)})
		for b := range length {
			for _, function := range []int{unwrap, unlock} {
				if _, e := checkSame(t, s, m, act{function, 0, valueOf(a), valueOf(b), nil}); e == api.OK {
					opened[function]++
				}
			}
			for _, plain := range []string{"hello", "", "other", "never stored", "hell", "hello\x00", string(valueOf(9))} {
				if _, e := checkSame(t, s, m, act{check, 0, valueOf(a), []byte(plain), valueOf(b)}); e == api.OK {
					opened[check]++
				}
			}
		}
	}
	checkTerms(t, s, m)
	if len(m.terms) != length || opened[unwrap] != 4 || opened[unlock] != 5 || opened[check] != 3 {
		t.Errorf("%d terms, and opened or valid are %v", len(m.terms), opened)
	}
	for a := range length {
		for _, function := range []int{public, verifier, next, item} {
			checkSame(t, s, m, act{function: function, a: valueOf(a)})
		}
		for b := range length {
			checkSame(t, s, m, act{wrap, 0, valueOf(a), valueOf(b), nil})
			checkSame(t, s, m, act{lock, 0, valueOf(a), valueOf(b), nil})
		}
		checkSame(t, s, m, act{sign, 0, valueOf(a), []byte("never stored"), nil})
	}
	checkTerms(t, s, m)
}

// P16.1, P16.2: what represents no term is ErrForm wherever it stands, also beside what would be another error, and stores nothing.
func TestNoValue(t *testing.T) {
	s, m := ofEach(t)
	long := make([]byte, api.MaxText+1)
	for _, v := range wrongValues(len(m.terms)) {
		if n, ok := s.Number(v); n != 0 || ok {
			t.Errorf("Number(%.40x) = %d, %v", v, n, ok)
		}
		for _, function := range []int{public, verifier, next, item, text} {
			checkError(t, s, act{function: function, a: v}, api.ErrForm)
		}
		for _, plain := range [][]byte{[]byte("hello"), []byte("never stored"), long} {
			checkError(t, s, act{sign, 0, v, plain, nil}, api.ErrForm)
			for n := range m.terms {
				checkError(t, s, act{check, 0, v, plain, valueOf(n)}, api.ErrForm)
				checkError(t, s, act{check, 0, valueOf(n), plain, v}, api.ErrForm)
			}
			checkError(t, s, act{check, 0, v, plain, v}, api.ErrForm)
		}
		for _, function := range []int{wrap, unwrap, lock, unlock} {
			for n := range m.terms {
				checkError(t, s, act{function, 0, v, valueOf(n), nil}, api.ErrForm)
				checkError(t, s, act{function, 0, valueOf(n), v, nil}, api.ErrForm)
			}
			checkError(t, s, act{function, 0, v, v, nil}, api.ErrForm)
		}
	}
	checkTerms(t, s, m)
}

// P16.1, P16.2: nothing can be wrapped but for a public key, and a text is that of a text alone.
func TestOtherKinds(t *testing.T) {
	s, m := ofEach(t)
	for n, x := range m.terms {
		if x.Kind != api.TermPublic {
			for k := range m.terms {
				checkError(t, s, act{wrap, 0, valueOf(n), valueOf(k), nil}, api.ErrForm)
			}
		}
		if x.Kind != api.TermText {
			checkError(t, s, act{function: text, a: valueOf(n)}, api.ErrForm)
		}
		if x.Kind != api.TermSign {
			checkError(t, s, act{check, 0, valueOf(5), []byte("hello"), valueOf(n)}, api.ErrSign)
		}
		if n != 5 {
			checkError(t, s, act{check, 0, valueOf(n), []byte("hello"), valueOf(15)}, api.ErrSign)
		}
		if n != 0 {
			checkError(t, s, act{unwrap, 0, valueOf(n), valueOf(11), nil}, api.ErrKey)
		}
		if n != 8 {
			checkError(t, s, act{unlock, 0, valueOf(n), valueOf(13), nil}, api.ErrKey)
		}
		if x.Kind != api.TermWrap {
			checkError(t, s, act{unwrap, 0, valueOf(0), valueOf(n), nil}, api.ErrKey)
		}
		if x.Kind != api.TermLock {
			checkError(t, s, act{unlock, 0, valueOf(8), valueOf(n), nil}, api.ErrKey)
		}
	}
	checkAct(t, s, act{unwrap, 0, valueOf(0), valueOf(11), nil}, valueOf(2))
	checkAct(t, s, act{unlock, 0, valueOf(8), valueOf(13), nil}, valueOf(9))
	checkAct(t, s, act{check, 0, valueOf(5), []byte("hello"), valueOf(15)}, nil)
	checkTerms(t, s, m)
}

// P16.1: the longest text is a text of all functions, a longer one is ErrLimit, and stored by none.
func TestLongTexts(t *testing.T) {
	s, m := ofEach(t)
	long := slices.Repeat([]byte{'x'}, api.MaxText+1)
	for _, b := range [][]byte{long, slices.Concat(long, long)} {
		checkError(t, s, act{function: data, a: b}, api.ErrLimit)
		checkError(t, s, act{function: digest, a: b}, api.ErrLimit)
		checkError(t, s, act{sign, 0, valueOf(0), b, nil}, api.ErrLimit)
		checkError(t, s, act{check, 0, valueOf(5), b, valueOf(15)}, api.ErrLimit)
		checkError(t, s, act{check, 0, valueOf(5), b, valueOf(14)}, api.ErrLimit)
	}
	checkTerms(t, s, m)
	most := long[:api.MaxText]
	v, _ := checkSame(t, s, m, act{function: data, a: most})
	checkSame(t, s, m, act{function: digest, a: most})
	z, _ := checkSame(t, s, m, act{sign, 0, valueOf(0), most, nil})
	checkAct(t, s, act{check, 0, valueOf(5), most, z}, nil)
	checkError(t, s, act{check, 0, valueOf(5), most[1:], z}, api.ErrSign)
	checkError(t, s, act{check, 0, valueOf(5), long, z}, api.ErrLimit)
	checkAct(t, s, act{function: text, a: v}, most)
	checkTerms(t, s, m)
}

// fill lets a suite draw until there is room for so many terms.
func fill(t *testing.T, s *suite.Suite, m *termModel, room int) {
	t.Helper()
	b := 0
	for len(m.terms) < api.MaxTerms-room {
		if len(m.terms)%1000 == 0 && s.Store().Len() != len(m.terms) {
			t.Fatalf("%d terms, not %d", s.Store().Len(), len(m.terms))
		}
		b++
		m.terms = append(m.terms, api.Term{Kind: api.TermAtom, A: api.SortOther, B: b})
		must(t, s, act{function: draw, sort: api.SortOther})
	}
}

// P16.1, P16.2: a full suite stores nothing more; what it has is answered as ever, and opens as ever.
func TestFull(t *testing.T) {
	s, m := ofEach(t)
	fill(t, s, m, 0)
	checkTerms(t, s, m)
	last := valueOf(api.MaxTerms - 1)
	for _, x := range []act{
		{draw, api.SortSecret, nil, nil, nil}, {draw, api.SortOther, nil, nil, nil},
		{public, 0, last, nil, nil}, {verifier, 0, last, nil, nil}, {next, 0, last, nil, nil}, {item, 0, last, nil, nil},
		{wrap, 0, valueOf(3), last, nil}, {lock, 0, last, valueOf(0), nil}, {lock, 0, valueOf(0), last, nil},
		{sign, 0, last, []byte("hello"), nil}, {sign, 0, valueOf(0), []byte("new"), nil}, {sign, 0, valueOf(0), nil, nil},
		{digest, 0, []byte("new"), nil, nil}, {digest, 0, []byte("other"), nil, nil}, {data, 0, []byte("new"), nil, nil},
		{data, 0, make([]byte, api.MaxText+1), nil, nil},
	} {
		checkError(t, s, x, api.ErrLimit)
	}
	checkError(t, s, act{draw, 0, nil, nil, nil}, api.ErrArg)
	checkError(t, s, act{wrap, 0, valueOf(2), last, nil}, api.ErrForm)
	checkError(t, s, act{lock, 0, valueOf(api.MaxTerms), last, nil}, api.ErrForm)
	checkError(t, s, act{sign, 0, valueOf(api.MaxTerms), []byte("new"), nil}, api.ErrForm)
	for _, x := range []struct {
		a    act
		want []byte
	}{
		{act{public, 0, valueOf(0), nil, nil}, valueOf(3)}, {act{verifier, 0, valueOf(0), nil, nil}, valueOf(5)},
		{act{next, 0, valueOf(2), nil, nil}, valueOf(7)}, {act{item, 0, valueOf(7), nil, nil}, valueOf(8)},
		{act{wrap, 0, valueOf(3), valueOf(2), nil}, valueOf(11)}, {act{lock, 0, valueOf(8), valueOf(9), nil}, valueOf(13)},
		{act{sign, 0, valueOf(0), []byte("hello"), nil}, valueOf(15)}, {act{digest, 0, []byte("hello"), nil, nil}, valueOf(17)},
		{act{data, 0, []byte("hello"), nil, nil}, valueOf(9)}, {act{text, 0, valueOf(9), nil, nil}, []byte("hello")},
		{act{unwrap, 0, valueOf(0), valueOf(11), nil}, valueOf(2)}, {act{unlock, 0, valueOf(8), valueOf(13), nil}, valueOf(9)},
		{act{check, 0, valueOf(5), []byte("hello"), valueOf(15)}, nil},
	} {
		checkAct(t, s, x.a, x.want)
	}
	// These store nothing, so that there is room for them: here is another key, or another text.
	checkError(t, s, act{unwrap, 0, last, valueOf(11), nil}, api.ErrKey)
	checkError(t, s, act{unlock, 0, last, valueOf(13), nil}, api.ErrKey)
	checkError(t, s, act{check, 0, valueOf(5), []byte("new"), valueOf(15)}, api.ErrSign)
	if n, ok := s.Number(last); n != api.MaxTerms-1 || !ok {
		t.Errorf("Number(%x) = %d, %v", last, n, ok)
	}
	checkTerms(t, s, m)
}

// P16.1: with room for one term, a text that is stored already is signed, and so is its digest; a new one takes the room for itself.
func TestRoomForOne(t *testing.T) {
	for _, function := range []int{sign, digest} {
		for _, plain := range []string{"hello", "new"} {
			s, m := suite.Terms(), &termModel{}
			checkSame(t, s, m, act{function: data, a: []byte("hello")})
			fill(t, s, m, 1)
			x := act{function: digest, a: []byte(plain)}
			if function == sign {
				x = act{sign, 0, valueOf(0), []byte(plain), nil}
			}
			if plain == "hello" {
				checkAct(t, s, x, valueOf(api.MaxTerms-1))
				continue
			}
			checkError(t, s, x, api.ErrLimit)
			checkAct(t, s, act{function: data, a: []byte(plain)}, valueOf(api.MaxTerms-1))
		}
	}
}

// P16.3: Store is the store of the suite, the same one each time; what is stored there has values, too.
func TestStore(t *testing.T) {
	s := suite.Terms()
	if s.Store() == nil || s.Store() != s.Store() || s.Store().Len() != 0 {
		t.Fatal("there is no store")
	}
	if n, ok := s.Number(valueOf(0)); n != 0 || ok {
		t.Errorf("Number = %d, %v", n, ok)
	}
	n, _ := s.Store().Draw(api.SortSecret)
	checkAct(t, s, act{function: public, a: valueOf(n)}, valueOf(1))
	w, _ := s.Store().Put(api.Term{Kind: api.TermWrap, A: 1, B: 0})
	checkAct(t, s, act{unwrap, 0, valueOf(n), valueOf(w), nil}, valueOf(0))
	x, _ := s.Store().Text([]byte("hello"))
	checkAct(t, s, act{function: text, a: valueOf(x)}, []byte("hello"))
	checkAct(t, s, act{function: draw, sort: api.SortSecret}, valueOf(4))
	if s.Draws() != 0 || s.Store().Len() != 5 {
		t.Errorf("%d draws, %d terms", s.Draws(), s.Store().Len())
	}
}

// anyAct is an act that is likely to be one that can be, and may be none.
func anyAct(d *rand.Rand, m *termModel) act {
	value := func(kinds ...int) []byte {
		var l []int
		for n, x := range m.terms {
			if slices.Contains(kinds, x.Kind) {
				l = append(l, n)
			}
		}
		if len(l) == 0 || d.IntN(4) == 0 {
			return valueOf(d.IntN(len(m.terms) + 2))
		}
		return valueOf(l[d.IntN(len(l))])
	}
	plain := slices.Repeat([]byte{byte('a' + d.IntN(3))}, d.IntN(3))
	x := act{function: d.IntN(functions), sort: d.IntN(6), a: value(api.TermAtom), b: value(api.TermAtom, api.TermText)}
	switch x.function {
	case wrap:
		x.a = value(api.TermPublic)
	case unwrap:
		x.b = value(api.TermWrap)
	case unlock:
		x.b = value(api.TermLock)
	case sign:
		x.b = plain
	case check:
		x.a, x.b, x.c = value(api.TermVerifier), plain, value(api.TermSign)
		if n := m.number(x.c); n >= 0 && m.terms[n].Kind == api.TermSign && d.IntN(2) == 0 {
			x.a = valueOf(slices.Index(m.terms, api.Term{Kind: api.TermVerifier, A: m.terms[n].A}))
			x.b, _ = m.Text(valueOf(m.terms[n].B))
		}
	case digest, data:
		x.a = plain
	case text:
		x.a = value(api.TermText)
	}
	return x
}

// P16.1 to P16.4: any calls, one after the other, are answered as by a suite that looks through all it has.
func TestAnyTermCalls(t *testing.T) {
	errors, opened := map[api.Errno]int{}, map[int]int{}
	for seed := range byte(30) {
		d := newDice(40 + seed)
		s, m := suite.Terms(), &termModel{}
		for range 400 {
			x := anyAct(d, m)
			_, e := checkSame(t, s, m, x)
			errors[e]++
			if e == api.OK {
				opened[x.function]++
			}
		}
		checkTerms(t, s, m)
	}
	for _, e := range []api.Errno{api.OK, api.ErrArg, api.ErrForm, api.ErrKey, api.ErrSign} {
		if errors[e] < 50 {
			t.Errorf("%d answers are %d", errors[e], e)
		}
	}
	for function := range functions {
		if opened[function] < 10 {
			t.Errorf("%d calls of the function %d had an answer", opened[function], function)
		}
	}
}
