package term_test

import (
	"bytes"
	"math"
	"math/big"
	"math/rand/v2"
	"slices"
	"strings"
	"testing"

	"bastille/api"
	"bastille/term"
)

// What A or B of a term has to be.
const (
	zero = iota
	sort
	natural
	index
	anyTerm
	aPublic
	aText
)

// A rule is what A and B of a kind have to be.
type rule struct{ kind, a, b int }

// rules is those of all kinds, as the chapter's words say them.
func rules() []rule {
	return []rule{
		{api.TermAtom, sort, natural},
		{api.TermPublic, anyTerm, zero},
		{api.TermVerifier, anyTerm, zero},
		{api.TermWrap, aPublic, anyTerm},
		{api.TermLock, anyTerm, anyTerm},
		{api.TermNext, anyTerm, zero},
		{api.TermItem, anyTerm, zero},
		{api.TermSign, anyTerm, aText},
		{api.TermText, index, zero},
		{api.TermDigest, aText, zero},
	}
}

// ruleOf is the rule of a kind, if there is the kind.
func ruleOf(kind int) (rule, bool) {
	for _, r := range rules() {
		if r.kind == kind {
			return r, true
		}
	}
	return rule{}, false
}

// A model is a store that looks through all it has.
type model struct {
	terms []api.Term
	texts []string
}

func (m *model) holds(n, what int) bool {
	there := n >= 0 && n < len(m.terms)
	switch what {
	case zero:
		return n == 0
	case sort:
		return n == api.SortSecret || n == api.SortState || n == api.SortKey || n == api.SortOther
	case natural:
		return n >= 0
	case index:
		return n >= 0 && n < len(m.texts)
	case anyTerm:
		return there
	case aPublic:
		return there && m.terms[n].Kind == api.TermPublic
	case aText:
		return there && m.terms[n].Kind == api.TermText
	}
	panic("no such rule")
}

func (m *model) right(t api.Term) bool {
	r, ok := ruleOf(t.Kind)
	return ok && m.holds(t.A, r.a) && m.holds(t.B, r.b)
}

func (m *model) add(t api.Term) (int, api.Errno) {
	if len(m.terms) == api.MaxTerms {
		return 0, api.ErrLimit
	}
	m.terms = append(m.terms, t)
	return len(m.terms) - 1, api.OK
}

func (m *model) put(t api.Term) (int, api.Errno) {
	if !m.right(t) {
		return 0, api.ErrArg
	}
	if n := slices.Index(m.terms, t); n >= 0 {
		return n, api.OK
	}
	return m.add(t)
}

func (m *model) draw(n int) (int, api.Errno) {
	if !m.holds(n, sort) {
		return 0, api.ErrArg
	}
	most := big.NewInt(-1)
	for _, t := range m.terms {
		if b := big.NewInt(int64(t.B)); t.Kind == api.TermAtom && t.A == n && b.Cmp(most) > 0 {
			most = b
		}
	}
	b := most.Add(most, big.NewInt(1))
	if b.Cmp(new(big.Int).Lsh(big.NewInt(1), 62)) > 0 {
		return 0, api.ErrLimit
	}
	return m.add(api.Term{Kind: api.TermAtom, A: n, B: int(b.Int64())})
}

func (m *model) text(b []byte) (int, api.Errno) {
	if len(b) > api.MaxText {
		return 0, api.ErrLimit
	}
	if i := slices.Index(m.texts, string(b)); i >= 0 {
		return slices.Index(m.terms, api.Term{Kind: api.TermText, A: i}), api.OK
	}
	n, e := m.add(api.Term{Kind: api.TermText, A: len(m.texts)})
	if e == api.OK {
		m.texts = append(m.texts, string(b))
	}
	return n, e
}

// size counts the terms of a term one by one: for small terms only.
func (m *model) size(n int) int {
	if n < 0 || n >= len(m.terms) {
		return 0
	}
	t := m.terms[n]
	r, _ := ruleOf(t.Kind)
	size := 1
	if r.a >= anyTerm {
		size += m.size(t.A)
	}
	if r.b >= anyTerm {
		size += m.size(t.B)
	}
	return size
}

// numbers is numbers of terms that there are, those next to them, and those that no term has.
func numbers(length int) []int {
	l := []int{math.MinInt, math.MinInt + 1, math.MinInt32, -1 << 16, -2, -1}
	for n := range length + 3 {
		l = append(l, n)
	}
	return append(l, 1<<16-1, 1<<16, 1<<32, 1<<32+1, math.MaxInt-1, math.MaxInt)
}

// checkPut wants a term's number.
func checkPut(t *testing.T, s *term.Store, x api.Term, want int, wantErr api.Errno) {
	t.Helper()
	if n, e := s.Put(x); n != want || e != wantErr {
		t.Errorf("Put(%v) = %d, %d, not %d, %d", x, n, e, want, wantErr)
	}
}

// checkDraw wants an atom of a sort, with that B, as the last one of the store.
func checkDraw(t *testing.T, s *term.Store, sort, b int) {
	t.Helper()
	want := api.Term{Kind: api.TermAtom, A: sort, B: b}
	length := s.Len()
	n, e := s.Draw(sort)
	x, ok := s.Get(n)
	if n != length || e != api.OK || x != want || !ok || s.Len() != length+1 {
		t.Errorf("Draw(%d) = %d, %d, which is %v, %v, not %v; %d terms", sort, n, e, x, ok, want, s.Len())
	}
}

// checkNoDraw wants an error of Draw.
func checkNoDraw(t *testing.T, s *term.Store, sort int, want api.Errno) {
	t.Helper()
	length := s.Len()
	if n, e := s.Draw(sort); n != 0 || e != want || s.Len() != length {
		t.Errorf("Draw(%d) = %d, %d, not %d; %d terms", sort, n, e, want, s.Len())
	}
}

// checkText wants a text's number, and the text to stay as it was.
func checkText(t *testing.T, s *term.Store, b []byte, want int, wantErr api.Errno) {
	t.Helper()
	before := bytes.Clone(b)
	if n, e := s.Text(b); n != want || e != wantErr {
		t.Errorf("Text(%.40q) of %d bytes = %d, %d, not %d, %d", b, len(b), n, e, want, wantErr)
	}
	if !bytes.Equal(b, before) {
		t.Errorf("a text of %d bytes was changed", len(b))
	}
}

// checkStore wants a store to have these terms and texts, and no others.
func checkStore(t *testing.T, s *term.Store, m *model) {
	t.Helper()
	if n := s.Len(); n != len(m.terms) {
		t.Fatalf("%d terms, not %d", n, len(m.terms))
	}
	for _, n := range numbers(len(m.terms)) {
		var want api.Term
		there := n >= 0 && n < len(m.terms)
		if there {
			want = m.terms[n]
		}
		if x, ok := s.Get(n); x != want || ok != there {
			t.Errorf("Get(%d) = %v, %v, not %v, %v", n, x, ok, want, there)
		}
		checkBytes(t, s, m, n)
	}
	checkAll(t, s, m.terms)
}

// checkBytes wants the bytes of a text, and none of another term.
func checkBytes(t *testing.T, s *term.Store, m *model, n int) {
	t.Helper()
	b, ok := s.Bytes(n)
	if !m.holds(n, aText) {
		if b != nil || ok {
			t.Errorf("Bytes(%d) = %.40q, %v, and it is no text", n, b, ok)
		}
		return
	}
	if want := m.texts[m.terms[n].A]; string(b) != want || !ok {
		t.Errorf("Bytes(%d) = %.40q, %v, not %.40q", n, b, ok, want)
	}
}

// checkAll wants these terms to be enumerated, with their numbers.
func checkAll(t *testing.T, s *term.Store, want []api.Term) {
	t.Helper()
	var got []api.Term
	for n, x := range s.All() {
		if n != len(got) {
			t.Fatalf("All tells the number %d, not %d", n, len(got))
		}
		got = append(got, x)
	}
	if !slices.Equal(got, want) {
		t.Fatalf("All tells %d terms, not those %d", len(got), len(want))
	}
}

// must is the number of a term that can be put.
func must(t *testing.T, s *term.Store, kind, a, b int) int {
	t.Helper()
	n, e := s.Put(api.Term{Kind: kind, A: a, B: b})
	if e != api.OK {
		t.Fatalf("Put of the kind %d, of %d and %d: %d", kind, a, b, e)
	}
	return n
}

// oneOfEach is a store with terms of all kinds, and what it has to contain.
func oneOfEach(t *testing.T) (*term.Store, *model) {
	t.Helper()
	s, m := term.New(), &model{}
	m.draw(api.SortSecret)
	m.draw(api.SortKey)
	m.text([]byte("hello"))
	m.text(nil)
	s.Draw(api.SortSecret)
	s.Draw(api.SortKey)
	s.Text([]byte("hello"))
	s.Text(nil)
	for _, x := range []api.Term{
		{Kind: api.TermPublic, A: 0},
		{Kind: api.TermVerifier, A: 0},
		{Kind: api.TermNext, A: 1},
		{Kind: api.TermItem, A: 6},
		{Kind: api.TermWrap, A: 4, B: 1},
		{Kind: api.TermLock, A: 7, B: 2},
		{Kind: api.TermSign, A: 0, B: 3},
		{Kind: api.TermDigest, A: 2},
		{Kind: api.TermPublic, A: 8},
	} {
		want, _ := m.put(x)
		checkPut(t, s, x, want, api.OK)
	}
	checkStore(t, s, m)
	return s, m
}

// P14.1, P14.2, P14.3: the chapter's example, and what the same term is put as again.
func TestSameTerm(t *testing.T) {
	s, m := oneOfEach(t)
	for range 3 {
		for n, x := range m.terms {
			checkPut(t, s, x, n, api.OK)
		}
	}
	checkStore(t, s, m)
	s = term.New()
	atom := api.Term{Kind: api.TermAtom, A: api.SortKey, B: 5}
	checkPut(t, s, atom, 0, api.OK)
	checkPut(t, s, atom, 0, api.OK)
	checkStore(t, s, &model{terms: []api.Term{atom}})
}

// P14.1: each kind, with each A and B that there may be or not: what can be a term is stored, once, and what cannot is ErrArg and changes nothing.
func TestWhatCanBeATerm(t *testing.T) {
	first, m := oneOfEach(t)
	length := len(m.terms)
	stored := map[int]int{}
	for kind := -1; kind <= 12; kind++ { // -1 and 0 are no kinds, nor are 11 and 12
		for _, a := range numbers(length) {
			for _, b := range numbers(length) {
				x := api.Term{Kind: kind, A: a, B: b}
				if !m.right(x) {
					checkPut(t, first, x, 0, api.ErrArg)
					continue
				}
				stored[kind]++
				s, m := oneOfEach(t)
				want, _ := m.put(x)
				checkPut(t, s, x, want, api.OK)
				checkPut(t, s, x, want, api.OK)
				checkStore(t, s, m)
			}
		}
	}
	checkStore(t, first, m)
	for _, x := range []api.Term{{Kind: math.MinInt}, {Kind: math.MaxInt}, {Kind: 1 << 32}, {Kind: 1<<32 + api.TermAtom, A: 1}, {Kind: 257, A: 1}} {
		checkPut(t, first, x, 0, api.ErrArg)
	}
	for _, r := range rules() {
		if stored[r.kind] == 0 {
			t.Errorf("no term of the kind %d can be stored", r.kind)
		}
	}
}

// P14.1: a store without terms takes no term that refers to another one, nor a text by its index.
func TestEmptyStore(t *testing.T) {
	s := term.New()
	checkStore(t, s, &model{})
	for kind := range 12 {
		checkPut(t, s, api.Term{Kind: kind}, 0, api.ErrArg) // as an atom, it is of the sort 0
	}
	checkStore(t, s, &model{})
	checkText(t, s, nil, 0, api.OK)
	checkStore(t, s, &model{[]api.Term{{Kind: api.TermText}}, []string{""}})
	checkPut(t, s, api.Term{Kind: api.TermText}, 0, api.OK)
}

// P14.1: a term that can be none becomes one as soon as there is what it refers to; its own number is not there yet when it is put.
func TestRefersToSmallerNumbers(t *testing.T) {
	s := term.New()
	for n := range 20 {
		for _, kind := range []int{api.TermPublic, api.TermVerifier, api.TermNext, api.TermItem} {
			checkPut(t, s, api.Term{Kind: kind, A: n}, 0, api.ErrArg)
		}
		checkPut(t, s, api.Term{Kind: api.TermLock, A: n, B: n}, 0, api.ErrArg)
		checkPut(t, s, api.Term{Kind: api.TermLock, A: max(n-1, 0), B: n}, 0, api.ErrArg)
		checkPut(t, s, api.Term{Kind: api.TermLock, A: n, B: max(n-1, 0)}, 0, api.ErrArg)
		if n == 0 {
			checkDraw(t, s, api.SortState, 0)
		} else {
			checkPut(t, s, api.Term{Kind: api.TermNext, A: n - 1}, n, api.OK)
		}
	}
	// The index of a text is not its number.
	checkPut(t, s, api.Term{Kind: api.TermText}, 0, api.ErrArg)
	checkText(t, s, []byte("a"), 20, api.OK)
	checkPut(t, s, api.Term{Kind: api.TermText, A: 20}, 0, api.ErrArg)
	checkPut(t, s, api.Term{Kind: api.TermText, A: 1}, 0, api.ErrArg)
	checkPut(t, s, api.Term{Kind: api.TermText}, 20, api.OK)
	checkPut(t, s, api.Term{Kind: api.TermDigest, A: 0}, 0, api.ErrArg)
	checkPut(t, s, api.Term{Kind: api.TermDigest, A: 20}, 21, api.OK)
	checkPut(t, s, api.Term{Kind: api.TermSign, A: 21, B: 0}, 0, api.ErrArg)
	checkPut(t, s, api.Term{Kind: api.TermSign, A: 21, B: 20}, 22, api.OK)
}

// P14.1: the atoms of each sort are counted apart, from 0 on.
func TestDraw(t *testing.T) {
	s := term.New()
	for b := range 50 {
		for sort := api.SortSecret; sort <= api.SortOther; sort++ {
			checkDraw(t, s, sort, b)
		}
		if b%7 == 0 {
			must(t, s, api.TermNext, s.Len()-1, 0)
		}
	}
	for _, sort := range []int{math.MinInt, -2, -1, 0, 5, 6, 1<<32 + 1, math.MaxInt} {
		checkNoDraw(t, s, sort, api.ErrArg)
	}
	for sort := api.SortSecret; sort <= api.SortOther; sort++ {
		checkDraw(t, s, sort, 50)
	}
}

// P14.1: an atom is drawn behind the greatest one of its sort, however that one was stored.
func TestDrawBehindGreatest(t *testing.T) {
	s := term.New()
	must(t, s, api.TermAtom, api.SortKey, 7)
	checkDraw(t, s, api.SortKey, 8)
	must(t, s, api.TermAtom, api.SortKey, 3)
	checkDraw(t, s, api.SortKey, 9)
	must(t, s, api.TermAtom, api.SortKey, 10)
	must(t, s, api.TermAtom, api.SortKey, 10)
	checkDraw(t, s, api.SortKey, 11)
	must(t, s, api.TermAtom, api.SortKey, 1<<40)
	must(t, s, api.TermAtom, api.SortKey, 12)
	checkDraw(t, s, api.SortKey, 1<<40+1)
	must(t, s, api.TermAtom, api.SortState, 0)
	checkDraw(t, s, api.SortState, 1)
	checkDraw(t, s, api.SortSecret, 0)
	// Neither the B of another kind nor an atom that is none counts.
	must(t, s, api.TermLock, api.SortOther, 10)
	checkPut(t, s, api.Term{Kind: api.TermAtom, A: api.SortOther, B: -1}, 0, api.ErrArg)
	checkPut(t, s, api.Term{Kind: api.TermAtom, A: api.SortOther + 1, B: 5}, 0, api.ErrArg)
	checkDraw(t, s, api.SortOther, 0)
}

// P14.1: 2^62 is the greatest B that is drawn, but not the greatest one that is put.
func TestDrawLimit(t *testing.T) {
	const limit = 1 << 62
	for _, c := range []struct{ put, last int }{{limit - 3, limit}, {limit - 1, limit}, {limit, limit}, {limit + 1, limit}, {math.MaxInt - 1, limit}, {math.MaxInt, limit}} {
		s := term.New()
		must(t, s, api.TermAtom, api.SortState, c.put)
		for b := c.put + 1; b > 0 && b <= c.last; b++ {
			checkDraw(t, s, api.SortState, b)
		}
		for range 2 {
			checkNoDraw(t, s, api.SortState, api.ErrLimit)
		}
		must(t, s, api.TermAtom, api.SortState, 4)
		must(t, s, api.TermAtom, api.SortState, math.MaxInt)
		must(t, s, api.TermAtom, api.SortState, limit)
		checkNoDraw(t, s, api.SortState, api.ErrLimit)
		checkNoDraw(t, s, 0, api.ErrArg)
		checkDraw(t, s, api.SortSecret, 0)
		checkDraw(t, s, api.SortKey, 0)
	}
}

// P14.1, P14.2: texts are told apart by all their bytes, and numbered among themselves.
func TestTexts(t *testing.T) {
	s, m := term.New(), &model{}
	texts := []string{"hello", "", "\x00", "\x00\x00", "hell", "hello ", "Hello", "hello\x00", "\xff", "\xfe", "\xc3\xbc", "u\xcc\x88", "\xef\xbf\xbd", "1", "0", strings.Repeat("a", 1000), strings.Repeat("a", 999) + "b"}
	for round := range 3 {
		for i, x := range texts {
			if round == 0 {
				s.Draw(api.SortOther)
				m.draw(api.SortOther)
			}
			want, _ := m.text([]byte(x))
			if want != 2*i+1 {
				t.Fatalf("the text %d is the term %d of the model", i, want)
			}
			checkText(t, s, []byte(x), want, api.OK)
			checkPut(t, s, api.Term{Kind: api.TermText, A: i}, want, api.OK)
		}
		checkStore(t, s, m)
	}
	checkText(t, s, nil, 3, api.OK)
	checkText(t, s, []byte{}, 3, api.OK)
	checkStore(t, s, m)
}

// P14.1: the longest text is stored, a longer one is not, and is no term.
func TestTextLimit(t *testing.T) {
	s, m := term.New(), &model{}
	b := slices.Repeat([]byte{'x'}, 2*api.MaxText)
	for _, size := range []int{api.MaxText + 1, api.MaxText + 2, 2 * api.MaxText} {
		checkText(t, s, b[:size], 0, api.ErrLimit)
	}
	checkStore(t, s, m)
	for want, size := range []int{api.MaxText, api.MaxText - 1, 0} {
		m.text(b[:size])
		checkText(t, s, b[:size], want, api.OK)
	}
	for _, size := range []int{api.MaxText + 1, 2 * api.MaxText} {
		checkText(t, s, b[:size], 0, api.ErrLimit)
	}
	checkText(t, s, b[:api.MaxText], 0, api.OK)
	last := bytes.Clone(b[:api.MaxText])
	last[api.MaxText-1]++
	m.text(last)
	checkText(t, s, last, 3, api.OK)
	checkStore(t, s, m)
}

// full is a store with one text, one atom and its next states up to one term below the limit.
func full(t *testing.T) *term.Store {
	t.Helper()
	s := term.New()
	s.Text([]byte("a"))
	s.Draw(api.SortState)
	for s.Len() < api.MaxTerms-1 {
		must(t, s, api.TermNext, s.Len()-1, 0)
	}
	return s
}

// checkFull wants a store that takes nothing more, and what it has to be found all the same.
func checkFull(t *testing.T, s *term.Store) {
	t.Helper()
	if n := s.Len(); n != api.MaxTerms {
		t.Fatalf("%d terms", n)
	}
	const last = api.MaxTerms - 1
	for _, x := range []api.Term{{Kind: api.TermNext, A: last}, {Kind: api.TermPublic, A: 1}, {Kind: api.TermLock, A: 5, B: 6}, {Kind: api.TermSign, A: 1}, {Kind: api.TermAtom, A: api.SortState, B: 9}, {Kind: api.TermDigest, A: 0}} {
		checkPut(t, s, x, 0, api.ErrLimit)
	}
	// What can be no term is ErrArg in a full store, too.
	for _, x := range []api.Term{{Kind: api.TermNext, A: last + 1}, {Kind: api.TermPublic, A: 1, B: 1}, {Kind: api.TermWrap, A: 5, B: 6}, {Kind: api.TermText, A: 9}, {Kind: api.TermAtom, A: 5, B: 9}, {}} {
		checkPut(t, s, x, 0, api.ErrArg)
	}
	for n, x := range map[int]api.Term{0: {Kind: api.TermText}, 1: {Kind: api.TermAtom, A: api.SortState}, 2: {Kind: api.TermNext, A: 1}, last - 1: {Kind: api.TermNext, A: last - 2}} {
		checkPut(t, s, x, n, api.OK)
	}
	for sort := api.SortSecret; sort <= api.SortOther; sort++ {
		checkNoDraw(t, s, sort, api.ErrLimit)
	}
	checkNoDraw(t, s, 0, api.ErrArg)
	checkNoDraw(t, s, 5, api.ErrArg)
	checkText(t, s, []byte("a"), 0, api.OK)
	checkText(t, s, []byte("c"), 0, api.ErrLimit)
	checkText(t, s, []byte("c"), 0, api.ErrLimit) // the error before has stored no text
	checkText(t, s, nil, 0, api.ErrLimit)
	checkText(t, s, make([]byte, api.MaxText+1), 0, api.ErrLimit)
	if n := s.Len(); n != api.MaxTerms {
		t.Errorf("%d terms", n)
	}
}

// P14.1: MaxTerms terms are stored, whoever stores the last one, and no further one.
func TestFull(t *testing.T) {
	const last = api.MaxTerms - 1
	put := full(t)
	checkPut(t, put, api.Term{Kind: api.TermNext, A: last - 1}, last, api.OK)
	checkFull(t, put)
	drawn := full(t)
	checkDraw(t, drawn, api.SortState, 1)
	checkFull(t, drawn)
	text := full(t)
	checkText(t, text, []byte("b"), last, api.OK)
	checkFull(t, text)
	checkText(t, text, []byte("b"), last, api.OK)
	checkPut(t, text, api.Term{Kind: api.TermText, A: 1}, last, api.OK)
	checkPut(t, text, api.Term{Kind: api.TermText, A: 2}, 0, api.ErrArg)
	if b, ok := text.Bytes(last); string(b) != "b" || !ok {
		t.Errorf("the last text is %q, %v", b, ok)
	}
	want := []api.Term{{Kind: api.TermText}, {Kind: api.TermAtom, A: api.SortState}}
	for len(want) < last {
		want = append(want, api.Term{Kind: api.TermNext, A: len(want) - 1})
	}
	checkAll(t, put, append(want[:last:last], api.Term{Kind: api.TermNext, A: last - 1}))
	checkAll(t, drawn, append(want[:last:last], api.Term{Kind: api.TermAtom, A: api.SortState, B: 1}))
	checkAll(t, text, append(want[:last:last], api.Term{Kind: api.TermText, A: 1}))
}

// P14.2: the size of each kind, and of numbers that no term has.
func TestSize(t *testing.T) {
	s, m := oneOfEach(t)
	for n, want := range []int{1, 1, 1, 1, 2, 2, 2, 3, 4, 5, 3, 2, 5} {
		if got := s.Size(n); got != want || m.size(n) != want {
			t.Errorf("Size(%d) = %d, not %d, which the model says is %d", n, got, want, m.size(n))
		}
	}
	for _, n := range numbers(len(m.terms)) {
		if got := s.Size(n); got != m.size(n) {
			t.Errorf("Size(%d) = %d, not %d", n, got, m.size(n))
		}
	}
	// A is the index of a text, the B of an atom its own: neither is a term that it refers to.
	for range 20 {
		n, _ := s.Text([]byte{byte(s.Len())})
		k, _ := s.Draw(api.SortKey)
		if s.Size(n) != 1 || s.Size(k) != 1 {
			t.Errorf("a text and an atom have the sizes %d and %d", s.Size(n), s.Size(k))
		}
	}
}

// P14.2: what is referred to twice counts twice, up to 2^20 and no further.
func TestSizeLimit(t *testing.T) {
	const limit = 1 << 20
	s := term.New()
	n, _ := s.Draw(api.SortKey)
	text, _ := s.Text(nil)
	for k := 1; k < 20; k++ {
		if got := s.Size(n); got != 1<<k-1 {
			t.Fatalf("Size after %d doublings = %d", k-1, got)
		}
		n = must(t, s, api.TermLock, n, n)
	}
	below := n // 2^20 - 1
	at := must(t, s, api.TermNext, below, 0)
	for _, c := range []struct{ n, want int }{
		{below, limit - 1},
		{at, limit},
		{must(t, s, api.TermNext, at, 0), limit},
		{must(t, s, api.TermPublic, at, 0), limit},
		{must(t, s, api.TermLock, below, text), limit},
		{must(t, s, api.TermLock, text, at), limit},
		{must(t, s, api.TermSign, below, text), limit},
		{must(t, s, api.TermLock, at, at), limit},
		{must(t, s, api.TermLock, below-1, below-2), limit/2 + limit/4 - 1},
		{must(t, s, api.TermLock, below-1, below-1), limit - 1}, // below itself
	} {
		if got := s.Size(c.n); got != c.want {
			t.Errorf("Size(%d) = %d, not %d", c.n, got, c.want)
		}
	}
	// Doubled until the terms in it are more than any number of Go tells.
	for range 1000 {
		n = must(t, s, api.TermLock, n, n)
	}
	if got := s.Size(n); got != limit {
		t.Errorf("Size(%d) = %d", n, got)
	}
}

// P14.2: an enumeration is left where its range is left, may be repeated, and goes along with others.
func TestAll(t *testing.T) {
	s, m := oneOfEach(t)
	for stop := range m.terms {
		seen := 0
		for n, x := range s.All() {
			if n != seen || x != m.terms[n] {
				t.Fatalf("All tells %d, %v, not %d, %v", n, x, seen, m.terms[seen])
			}
			seen++
			if n == stop {
				break
			}
		}
		if seen != stop+1 {
			t.Errorf("left behind term %d, All has told %d", stop, seen)
		}
	}
	all := s.All()
	pairs := 0
	for n := range all {
		for k, x := range all {
			if x != m.terms[k] || n < 0 {
				t.Fatalf("All tells %d, %v beside %d", k, x, n)
			}
			pairs++
		}
	}
	if want := len(m.terms) * len(m.terms); pairs != want {
		t.Errorf("%d pairs, not %d", pairs, want)
	}
	checkStore(t, s, m)
}

// P14.2: who stores a term for each one that is enumerated comes to an end.
func TestAllWhileStoring(t *testing.T) {
	s, m := oneOfEach(t)
	length := s.Len()
	seen := 0
	for n, x := range s.All() {
		if x != m.terms[n] {
			t.Fatalf("All tells %d, %v, not %v", n, x, m.terms[n])
		}
		seen++
		s.Draw(api.SortOther)
		m.draw(api.SortOther)
	}
	if seen != length {
		t.Errorf("All tells %d terms, not %d", seen, length)
	}
	checkStore(t, s, m)
}

// P14.1, P14.2: what no New made is no store, and does not become one.
func TestNoStore(t *testing.T) {
	for _, s := range []*term.Store{nil, {}, new(term.Store)} {
		for range 2 {
			checkPut(t, s, api.Term{Kind: api.TermAtom, A: api.SortKey}, 0, api.ErrNil)
			checkPut(t, s, api.Term{}, 0, api.ErrNil)
			checkPut(t, s, api.Term{Kind: api.TermText}, 0, api.ErrNil)
			checkNoDraw(t, s, api.SortKey, api.ErrNil)
			checkNoDraw(t, s, 0, api.ErrNil)
			checkText(t, s, []byte("a"), 0, api.ErrNil)
			checkText(t, s, nil, 0, api.ErrNil)
			checkText(t, s, make([]byte, api.MaxText+1), 0, api.ErrNil)
			checkStore(t, s, &model{})
			for _, n := range numbers(1) {
				if got := s.Size(n); got != 0 {
					t.Errorf("Size(%d) = %d", n, got)
				}
			}
		}
	}
}

// P14.1: one store does not change another.
func TestTwoStores(t *testing.T) {
	a, first := oneOfEach(t)
	b := term.New()
	checkStore(t, b, &model{})
	checkText(t, b, []byte("other"), 0, api.OK)
	checkText(t, b, []byte("hello"), 1, api.OK)
	checkDraw(t, b, api.SortKey, 0)
	must(t, b, api.TermAtom, api.SortState, 9)
	checkStore(t, a, first)
	checkDraw(t, a, api.SortState, 0)
	checkDraw(t, b, api.SortState, 10)
}

// P14.1, P14.2: a store keeps its texts whatever becomes of the bytes that were given, or answered (LANGUAGE, rule 7).
func TestOwnMemory(t *testing.T) {
	s := term.New()
	b := []byte("hello")
	checkText(t, s, b, 0, api.OK)
	copy(b, "HELLO")
	checkText(t, s, []byte("hello"), 0, api.OK)
	checkText(t, s, b, 1, api.OK)
	clear(b)
	m := &model{[]api.Term{{Kind: api.TermText}, {Kind: api.TermText, A: 1}}, []string{"hello", "HELLO"}}
	checkStore(t, s, m)
	for n := range 2 {
		x, _ := s.Bytes(n)
		y, _ := s.Bytes(n)
		clear(x[:cap(x)])
		if string(y) != m.texts[n] {
			t.Errorf("two answers share their bytes: %q", y)
		}
	}
	checkStore(t, s, m)
}

// anyNumber is a number that is likely to be one of a term, and may be none.
func anyNumber(d *rand.Rand, length int) int {
	switch d.IntN(20) {
	case 0:
		return -1 - d.IntN(3)
	case 1:
		return length + d.IntN(3)
	case 2, 3, 4, 5:
		return 0
	}
	return d.IntN(length + 1)
}

// step does the same with a store and a model, and wants the same answer.
func step(t *testing.T, d *rand.Rand, s *term.Store, m *model) api.Errno {
	t.Helper()
	var n, want int
	var e, wantErr api.Errno
	switch d.IntN(10) {
	case 0:
		sort := d.IntN(6)
		n, e = s.Draw(sort)
		want, wantErr = m.draw(sort)
	case 1:
		b := []byte(strings.Repeat(string(rune('a'+d.IntN(3))), d.IntN(6)))
		n, e = s.Text(b)
		want, wantErr = m.text(b)
	default:
		x := api.Term{Kind: d.IntN(12), A: anyNumber(d, len(m.terms)), B: anyNumber(d, len(m.terms))}
		n, e = s.Put(x)
		want, wantErr = m.put(x)
	}
	if n != want || e != wantErr {
		t.Fatalf("with %d terms: %d, %d, not %d, %d", len(m.terms), n, e, want, wantErr)
	}
	return e
}

// P14.1, P14.2, P14.3: any calls, one after the other, are answered as a store answers them that looks through all it has.
func TestAnyCalls(t *testing.T) {
	for seed := range byte(30) {
		d := rand.New(rand.NewChaCha8([32]byte{seed}))
		s, m := term.New(), &model{}
		answers := map[api.Errno]int{}
		for range 400 {
			answers[step(t, d, s, m)]++
		}
		checkStore(t, s, m)
		for n := range m.terms {
			if got, want := s.Size(n), min(m.size(n), 1<<20); got != want {
				t.Errorf("Size(%d) = %d, not %d", n, got, want)
			}
		}
		if answers[api.OK] < 100 || answers[api.ErrArg] < 100 || len(answers) != 2 {
			t.Errorf("calls were answered %v", answers)
		}
	}
}

// P14.3: no two numbers have the same term, each term is found under its number, and refers to smaller numbers alone.
func TestEveryTermOnce(t *testing.T) {
	d := rand.New(rand.NewChaCha8([32]byte{99}))
	s, m := term.New(), &model{}
	for range 3000 {
		step(t, d, s, m)
	}
	seen := map[api.Term]int{}
	for n, x := range s.All() {
		if k, ok := seen[x]; ok {
			t.Errorf("%v has the numbers %d and %d", x, k, n)
		}
		seen[x] = n
		checkPut(t, s, x, n, api.OK)
		r, ok := ruleOf(x.Kind)
		if !ok || r.a >= anyTerm && x.A >= n || r.b >= anyTerm && x.B >= n {
			t.Errorf("%v has the number %d", x, n)
		}
	}
	if len(seen) != s.Len() || len(seen) < 200 {
		t.Errorf("%d terms, of %d", len(seen), s.Len())
	}
}
