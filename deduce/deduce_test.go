package deduce_test

import (
	"math"
	"math/rand/v2"
	"slices"
	"testing"

	"bastille/api"
	"bastille/deduce"
	"bastille/term"
)

// A model is what is known of terms, by the chapter's words alone: it looks through all terms until nothing is found any more.
type model struct {
	terms []api.Term
	known map[int]bool
}

// modelOf is what is known of a store's terms if some are given.
func modelOf(s *term.Store, given ...int) *model {
	m := &model{known: map[int]bool{}}
	for n := range s.Len() {
		x, _ := s.Get(n)
		m.terms = append(m.terms, x)
	}
	m.give(given...)
	return m
}

func (m *model) give(given ...int) {
	for _, n := range given {
		m.known[n] = true
	}
	for m.round() {
	}
}

// round tells whether something was found.
func (m *model) round() bool {
	before := len(m.known)
	can := m.constructible()
	for n := range m.terms {
		if !m.known[n] {
			continue
		}
		switch x := m.terms[n]; {
		case x.Kind == api.TermWrap && can[m.terms[x.A].A]:
			m.known[x.B] = true
		case x.Kind == api.TermLock && can[x.A]:
			m.known[x.B] = true
		case x.Kind == api.TermSign:
			m.known[x.B] = true
		}
	}
	return len(m.known) > before
}

func (m *model) constructible() []bool {
	can := make([]bool, len(m.terms))
	for n, x := range m.terms {
		switch x.Kind {
		case api.TermAtom:
			can[n] = m.known[n]
		case api.TermText:
			can[n] = true
		case api.TermWrap, api.TermLock, api.TermSign:
			can[n] = m.known[n] || can[x.A] && can[x.B]
		default:
			can[n] = m.known[n] || can[x.A]
		}
	}
	return can
}

func (m *model) list() []int {
	var l []int
	for n := range m.terms {
		if m.known[n] {
			l = append(l, n)
		}
	}
	return l
}

// made is all that can be made.
func (m *model) made() []int { return where(m.constructible()) }

func where(is []bool) []int {
	var l []int
	for n, ok := range is {
		if ok {
			l = append(l, n)
		}
	}
	return l
}

// outside is numbers that are those of no term.
func outside(length int) []int {
	return []int{math.MinInt, math.MinInt + 1, math.MinInt32, -1 << 16, -2, -1, length, length + 1, length + 2, 1 << 16, 1<<16 + 1, 1 << 32, 1<<32 + 1, math.MaxInt - 1, math.MaxInt}
}

// checkKnown wants these terms to be known, those to be constructible, and no others.
func checkKnown(t *testing.T, k *deduce.Known, length int, known, made []int) {
	t.Helper()
	if l := k.List(); !slices.Equal(l, known) {
		t.Fatalf("known is %v, not %v", l, known)
	}
	var has, can []int
	for n := range length {
		if k.Has(n) {
			has = append(has, n)
		}
		if k.Can(n) {
			can = append(can, n)
		}
	}
	if !slices.Equal(has, known) {
		t.Fatalf("Has tells of %v, not of %v", has, known)
	}
	if !slices.Equal(can, made) {
		t.Fatalf("Can tells of %v, not of %v", can, made)
	}
	if x, y := k.Count(); x != len(known) || y != len(made) {
		t.Fatalf("Count = %d, %d, not %d, %d", x, y, len(known), len(made))
	}
	for _, n := range outside(length) {
		if k.Has(n) || k.Can(n) {
			t.Fatalf("Has(%d), Can(%d) = %v, %v, and there is no such term", n, n, k.Has(n), k.Can(n))
		}
	}
}

// checkModel wants what a model says.
func checkModel(t *testing.T, k *deduce.Known, m *model) {
	t.Helper()
	checkKnown(t, k, len(m.terms), m.list(), m.made())
}

// from is what is known if terms are given that may be.
func from(t *testing.T, s *term.Store, given ...int) *deduce.Known {
	t.Helper()
	k, e := deduce.From(s, given...)
	if k == nil || e != api.OK {
		t.Fatalf("From of %v: %d", given, e)
	}
	return k
}

// checkFrom wants what follows from given terms: these to be known, those to be constructible.
func checkFrom(t *testing.T, s *term.Store, given, known, made []int) {
	t.Helper()
	m := modelOf(s, given...)
	if !slices.Equal(m.list(), known) || !slices.Equal(m.made(), made) {
		t.Fatalf("the model of %v says that %v is known and %v constructible, not %v and %v", given, m.list(), m.made(), known, made)
	}
	checkKnown(t, from(t, s, given...), s.Len(), known, made)
}

// more gives terms in addition that may be.
func more(t *testing.T, k *deduce.Known, given ...int) {
	t.Helper()
	if e := k.More(given...); e != api.OK {
		t.Fatalf("More of %v: %d", given, e)
	}
}

// must is the number of a term that can be put.
func must(t *testing.T, s *term.Store, kind, a, b int) int {
	t.Helper()
	n, e := s.Put(api.Term{Kind: kind, A: a, B: b})
	if e != api.OK {
		t.Fatalf("Put of the kind %d, of %d and %d: %d", kind, a, b, e)
	}
	return n
}

// draw is the number of a new atom.
func draw(t *testing.T, s *term.Store) int {
	t.Helper()
	n, e := s.Draw(api.SortKey)
	if e != api.OK {
		t.Fatalf("Draw: %d", e)
	}
	return n
}

// text is the number of a text.
func text(t *testing.T, s *term.Store, b string) int {
	t.Helper()
	n, e := s.Text([]byte(b))
	if e != api.OK {
		t.Fatalf("Text: %d", e)
	}
	return n
}

// upTo is all numbers below n.
func upTo(n int) []int {
	var l []int
	for i := range n {
		l = append(l, i)
	}
	return l
}

// P15.1: the chapter's example: given a locked term and its key, both of these and the content are known.
func TestExample(t *testing.T) {
	s := term.New()
	key, content := draw(t, s), draw(t, s)
	lock := must(t, s, api.TermLock, key, content)
	checkFrom(t, s, []int{lock, key}, []int{key, content, lock}, []int{key, content, lock})
	checkFrom(t, s, []int{lock}, []int{lock}, []int{lock})
	checkFrom(t, s, []int{key}, []int{key}, []int{key})
	checkFrom(t, s, []int{lock, content}, []int{content, lock}, []int{content, lock})
	checkFrom(t, s, []int{key, content}, []int{key, content}, []int{key, content, lock})
}

// P15.1: a wrapped term is opened by the secret of its public key alone, and wrapped by whoever has the public key and the content.
func TestWrap(t *testing.T) {
	s := term.New()
	secret, content, other := draw(t, s), draw(t, s), draw(t, s)
	public := must(t, s, api.TermPublic, secret, 0)
	wrap := must(t, s, api.TermWrap, public, content)
	foreign := must(t, s, api.TermPublic, other, 0)
	verifier := must(t, s, api.TermVerifier, secret, 0)
	checkFrom(t, s, []int{wrap}, []int{wrap}, []int{wrap})
	checkFrom(t, s, []int{wrap, public, verifier, foreign, other}, []int{other, public, wrap, foreign, verifier}, []int{other, public, wrap, foreign, verifier})
	checkFrom(t, s, []int{wrap, secret}, []int{secret, content, wrap}, []int{secret, content, public, wrap, verifier})
	checkFrom(t, s, []int{public, content}, []int{content, public}, []int{content, public, wrap})
	checkFrom(t, s, []int{secret}, []int{secret}, []int{secret, public, verifier})
	checkFrom(t, s, []int{wrap, content}, []int{content, wrap}, []int{content, wrap})
}

// P15.1: a signature shows its text, but not whose it is.
func TestSign(t *testing.T) {
	s := term.New()
	secret, x := draw(t, s), text(t, s, "x")
	y := text(t, s, "y")
	sign := must(t, s, api.TermSign, secret, x)
	digest := must(t, s, api.TermDigest, x, 0)
	verifier := must(t, s, api.TermVerifier, secret, 0)
	checkFrom(t, s, nil, nil, []int{x, y, digest})
	checkFrom(t, s, []int{sign}, []int{x, sign}, []int{x, y, sign, digest})
	checkFrom(t, s, []int{secret}, []int{secret}, []int{secret, x, y, sign, digest, verifier})
	checkFrom(t, s, []int{verifier, digest, x}, []int{x, digest, verifier}, []int{x, y, digest, verifier})
	checkFrom(t, s, []int{sign, secret, y}, []int{secret, x, y, sign}, []int{secret, x, y, sign, digest, verifier})
}

// P15.1: what is made of a term does not show it, and one kind does not stand for another.
func TestOneWay(t *testing.T) {
	for _, kind := range []int{api.TermPublic, api.TermVerifier, api.TermNext, api.TermItem} {
		s := term.New()
		first := draw(t, s)
		second := must(t, s, kind, first, 0)
		third := must(t, s, kind, second, 0)
		for _, other := range []int{api.TermPublic, api.TermVerifier, api.TermNext, api.TermItem} {
			must(t, s, other, third, 0)
		}
		all := upTo(s.Len())
		checkFrom(t, s, []int{first}, []int{first}, all)
		checkFrom(t, s, []int{second}, []int{second}, all[1:])
		checkFrom(t, s, []int{third}, []int{third}, all[2:])
		for n := 3; n < s.Len(); n++ {
			checkFrom(t, s, []int{n}, []int{n}, []int{n})
		}
		checkFrom(t, s, nil, nil, nil)
	}
}

// P15.1: an atom is constructible only if it is known, of each sort; without terms, or given ones, nothing is known.
func TestAtoms(t *testing.T) {
	s := term.New()
	checkFrom(t, s, nil, nil, nil)
	checkFrom(t, s, []int{}, nil, nil)
	for sort := api.SortSecret; sort <= api.SortOther; sort++ {
		s.Draw(sort)
		s.Draw(sort)
	}
	for n := range s.Len() {
		checkFrom(t, s, []int{n}, []int{n}, []int{n})
		checkFrom(t, s, []int{n, n, n}, []int{n}, []int{n})
	}
	checkFrom(t, s, nil, nil, nil)
	checkFrom(t, s, upTo(8), upTo(8), upTo(8))
}

// P15.1: a key need not be known to open: it is enough that it can be made, of however many others.
func TestMadeKeys(t *testing.T) {
	s := term.New()
	state, content := draw(t, s), draw(t, s)
	older := must(t, s, api.TermNext, state, 0)
	oldest := must(t, s, api.TermNext, older, 0)
	item := must(t, s, api.TermItem, oldest, 0)
	lock := must(t, s, api.TermLock, item, content)
	checkFrom(t, s, []int{lock, state}, []int{state, content, lock}, upTo(6))
	checkFrom(t, s, []int{older, lock}, []int{content, older, lock}, upTo(6)[1:])
	checkFrom(t, s, []int{lock, oldest}, []int{content, oldest, lock}, []int{content, oldest, item, lock})
	checkFrom(t, s, []int{lock, item}, []int{content, item, lock}, []int{content, item, lock})
	public := must(t, s, api.TermPublic, item, 0)
	wrap := must(t, s, api.TermWrap, public, content)
	checkFrom(t, s, []int{wrap, older}, []int{content, older, wrap}, upTo(8)[1:])
	checkFrom(t, s, []int{wrap, public}, []int{public, wrap}, []int{public, wrap})
}

// P15.1: a key may be a term of any kind, and so may the secret of a public key: what everybody can make closes nothing.
func TestAnyKeys(t *testing.T) {
	s := term.New()
	x := text(t, s, "x")
	secret, content := draw(t, s), draw(t, s)
	public := must(t, s, api.TermPublic, secret, 0)
	keys := []int{
		x, must(t, s, api.TermDigest, x, 0), must(t, s, api.TermPublic, x, 0), must(t, s, api.TermVerifier, x, 0), must(t, s, api.TermNext, x, 0),
		must(t, s, api.TermItem, x, 0), must(t, s, api.TermLock, x, x), must(t, s, api.TermSign, x, x),
		must(t, s, api.TermWrap, must(t, s, api.TermPublic, x, 0), x),
	}
	closed := []int{
		secret, public, must(t, s, api.TermWrap, public, x), must(t, s, api.TermLock, secret, x), must(t, s, api.TermLock, x, secret),
		must(t, s, api.TermSign, secret, x), must(t, s, api.TermVerifier, secret, 0), must(t, s, api.TermNext, secret, 0), must(t, s, api.TermItem, secret, 0),
	}
	for i, key := range slices.Concat(keys, closed) {
		for _, n := range []int{must(t, s, api.TermLock, key, content), must(t, s, api.TermWrap, must(t, s, api.TermPublic, key, 0), content)} {
			k := from(t, s, n)
			if open := i < len(keys); k.Has(content) != open || k.Can(content) != open || !k.Has(n) {
				t.Errorf("term %d, which the key %d opens, shows %v", n, key, k.List())
			}
			checkModel(t, k, modelOf(s, n))
			more(t, k, key)
			if !k.Has(content) || !k.Has(key) {
				t.Errorf("term %d, with its key %d, shows %v", n, key, k.List())
			}
			checkModel(t, k, modelOf(s, key, n))
		}
	}
	checkModel(t, from(t, s), modelOf(s))
}

// P15.1: what can be made is not known, and nothing that is only made is opened.
func TestMadeIsNotKnown(t *testing.T) {
	s := term.New()
	x, y := text(t, s, "x"), text(t, s, "y")
	lock := must(t, s, api.TermLock, x, y)
	sign := must(t, s, api.TermSign, x, y)
	wrap := must(t, s, api.TermWrap, must(t, s, api.TermPublic, x, 0), y)
	all := upTo(s.Len())
	checkFrom(t, s, nil, nil, all)
	checkFrom(t, s, []int{x}, []int{x}, all)
	for _, n := range []int{lock, sign, wrap} {
		checkFrom(t, s, []int{n}, []int{y, n}, all)
	}
	k := from(t, s)
	checkKnown(t, k, len(all), nil, all)
	more(t, k, lock)
	checkKnown(t, k, len(all), []int{y, lock}, all)
}

// P15.1: the known terms are the least set: keys that lie in each other's locks stay there.
func TestLeast(t *testing.T) {
	s := term.New()
	a, b, c := draw(t, s), draw(t, s), draw(t, s)
	ab, bc, ca := must(t, s, api.TermLock, a, b), must(t, s, api.TermLock, b, c), must(t, s, api.TermLock, c, a)
	own := must(t, s, api.TermLock, a, a)
	made := must(t, s, api.TermLock, must(t, s, api.TermNext, a, 0), a)
	closed := []int{ab, bc, ca, own, made}
	checkFrom(t, s, closed, closed, closed)
	for _, n := range []int{a, b, c} {
		checkFrom(t, s, append([]int{n}, closed...), []int{a, b, c, ab, bc, ca, own, made}, upTo(9))
	}
	checkFrom(t, s, []int{b, bc}, []int{b, c, bc}, []int{b, c, bc})
}

// P15.1: terms within terms are opened one after the other, of all kinds.
func TestNested(t *testing.T) {
	s := term.New()
	x, secret, key, state := text(t, s, "x"), draw(t, s), draw(t, s), draw(t, s)
	sign := must(t, s, api.TermSign, secret, x)
	inner := must(t, s, api.TermLock, must(t, s, api.TermItem, state, 0), sign)
	outer := must(t, s, api.TermWrap, must(t, s, api.TermPublic, secret, 0), inner)
	whole := must(t, s, api.TermLock, key, outer)
	for _, c := range []struct{ given, known []int }{
		{[]int{whole}, []int{whole}},
		{[]int{whole, secret, state}, []int{secret, state, whole}},
		{[]int{whole, key}, []int{key, outer, whole}},
		{[]int{whole, key, secret}, []int{secret, key, inner, outer, whole}},
		{[]int{whole, key, state}, []int{key, state, outer, whole}},
		{[]int{key, secret, state, whole}, []int{x, secret, key, state, sign, inner, outer, whole}},
		{[]int{inner, state}, []int{x, state, sign, inner}},
	} {
		k := from(t, s, c.given...)
		if l := k.List(); !slices.Equal(l, sorted(c.known)) {
			t.Errorf("From of %v knows %v, not %v", c.given, l, c.known)
		}
		checkModel(t, k, modelOf(s, c.given...))
	}
}

func sorted(l []int) []int {
	l = slices.Clone(l)
	slices.Sort(l)
	return l
}

// oneOfEach is a store with terms of all kinds.
func oneOfEach(t *testing.T) *term.Store {
	t.Helper()
	s := term.New()
	a, b, x, y := draw(t, s), draw(t, s), text(t, s, "x"), text(t, s, "y")
	public, next := must(t, s, api.TermPublic, a, 0), must(t, s, api.TermNext, b, 0)
	must(t, s, api.TermVerifier, a, 0)
	item := must(t, s, api.TermItem, next, 0)
	wrap := must(t, s, api.TermWrap, public, b)
	must(t, s, api.TermLock, item, wrap)
	must(t, s, api.TermSign, a, x)
	must(t, s, api.TermDigest, y, 0)
	return s
}

// P15.1, P15.2, P15.3: one store with all kinds of terms, with each choice of given terms, at once and one by one from the last to the first.
func TestEachChoice(t *testing.T) {
	s := oneOfEach(t)
	for choice := range 1 << s.Len() {
		var given []int
		k := from(t, s)
		for n := s.Len() - 1; n >= 0; n-- {
			if choice>>n&1 == 1 {
				given = append(given, n)
				more(t, k, n)
			}
		}
		m := modelOf(s, given...)
		checkModel(t, k, m)
		checkModel(t, from(t, s, given...), m)
	}
}

// P15.1: what is not a term of the store is ErrArg, wherever it stands among those that are.
func TestFromArg(t *testing.T) {
	s := oneOfEach(t)
	for _, n := range outside(s.Len()) {
		for _, given := range [][]int{{n}, {0, n}, {n, 0}, {0, 1, n, 2, 3}, {n, n}} {
			if k, e := deduce.From(s, given...); k != nil || e != api.ErrArg {
				t.Errorf("From of %v = %v, %d", given, k, e)
			}
		}
	}
	if k, e := deduce.From(term.New(), 0); k != nil || e != api.ErrArg {
		t.Errorf("From of the term 0 of no terms = %v, %d", k, e)
	}
	checkModel(t, from(t, s, 0), modelOf(s, 0))
}

// P15.2: More with what is no term is ErrArg, and changes nothing, whatever else is given.
func TestMoreArg(t *testing.T) {
	s := oneOfEach(t)
	k, m := from(t, s, 9), modelOf(s, 9)
	for _, n := range outside(s.Len()) {
		for _, given := range [][]int{{n}, {0, n}, {n, 0}, {0, 1, 2, 3, n}, {n, n}} {
			if e := k.More(given...); e != api.ErrArg {
				t.Errorf("More of %v: %d", given, e)
			}
		}
	}
	checkModel(t, k, m)
	more(t, k)
	checkModel(t, k, m)
	more(t, k, 0)
	m.give(0)
	checkModel(t, k, m)
	more(t, k, 1)
	m.give(1)
	checkModel(t, k, m)
	empty := from(t, term.New())
	more(t, empty)
	if e := empty.More(0); e != api.ErrArg {
		t.Errorf("More of the term 0 of no terms: %d", e)
	}
	checkKnown(t, empty, 0, nil, nil)
}

// P15.1, P15.2: terms that come later are none of those that it is about, not even texts, nor what is made of known ones.
func TestLater(t *testing.T) {
	s := oneOfEach(t)
	length := s.Len()
	k, m := from(t, s, 0, 1), modelOf(s, 0, 1)
	x, state := text(t, s, "later"), draw(t, s)
	lock := must(t, s, api.TermLock, 0, 1)
	must(t, s, api.TermPublic, 1, 0)
	checkModel(t, k, m)
	for n := length; n < s.Len(); n++ {
		for _, given := range [][]int{{n}, {2, n}, {n, 2}} {
			if e := k.More(given...); e != api.ErrArg {
				t.Errorf("More of %v: %d", given, e)
			}
		}
	}
	checkModel(t, k, m)
	more(t, k, length-1)
	m.give(length - 1)
	checkModel(t, k, m)
	now := from(t, s, 0, 1, lock)
	if !now.Can(x) || now.Can(state) || !now.Has(lock) {
		t.Errorf("now known is %v", now.List())
	}
	checkModel(t, now, modelOf(s, 0, 1, lock))
}

// P15.2: each kind of term, and what is none.
func TestOpens(t *testing.T) {
	s := oneOfEach(t)
	must(t, s, api.TermLock, 2, 3)
	must(t, s, api.TermWrap, must(t, s, api.TermPublic, 8, 0), 9)
	want := map[int][2]int{8: {0, 1}, 9: {7, 8}, 12: {2, 3}, 14: {8, 9}}
	for n := range s.Len() {
		w, is := want[n]
		checkOpens(t, s, n, w[0], w[1], is)
	}
	for _, n := range outside(s.Len()) {
		checkOpens(t, s, n, 0, 0, false)
	}
	for _, none := range []*term.Store{nil, {}, term.New()} {
		for _, n := range append(outside(1), 0) {
			checkOpens(t, none, n, 0, 0, false)
		}
	}
}

func checkOpens(t *testing.T, s *term.Store, n, key, in int, ok bool) {
	t.Helper()
	if x, y, is := deduce.Opens(s, n); x != key || y != in || is != ok {
		t.Errorf("Opens(%d) = %d, %d, %v, not %d, %d, %v", n, x, y, is, key, in, ok)
	}
}

// P15.1: without a store that New made there is nothing to know of, whatever is given.
func TestNoStore(t *testing.T) {
	for _, s := range []*term.Store{nil, {}, new(term.Store)} {
		for _, given := range [][]int{nil, {}, {0}, {-1}, {0, 1, 2}, {math.MaxInt}} {
			if k, e := deduce.From(s, given...); k != nil || e != api.ErrNil {
				t.Errorf("From of %v = %v, %d", given, k, e)
			}
		}
		if s.Len() != 0 {
			t.Errorf("%d terms", s.Len())
		}
	}
}

// P15.3: what From did not make knows nothing, and learns nothing.
func TestNoKnown(t *testing.T) {
	for _, k := range []*deduce.Known{nil, {}, new(deduce.Known)} {
		for range 2 {
			checkKnown(t, k, 3, nil, nil)
			for _, given := range [][]int{nil, {}, {0}, {-1}, {math.MaxInt}} {
				if e := k.More(given...); e != api.ErrNil {
					t.Errorf("More of %v: %d", given, e)
				}
			}
		}
	}
}

// P15.1, P15.2: the store and the given terms stay as they were, a list may be changed, and what is known stays whatever becomes of all of these.
func TestOwnMemory(t *testing.T) {
	s := oneOfEach(t)
	length := s.Len()
	var terms []api.Term
	for _, x := range s.All() {
		terms = append(terms, x)
	}
	given := []int{9, 1, 1, 0}
	room := append(given, 7, 7, 7, 7)[:len(given)]
	k := from(t, s, room...)
	more(t, k, room...)
	if !slices.Equal(room[:8], []int{9, 1, 1, 0, 7, 7, 7, 7}) {
		t.Errorf("what was given is now %v", room[:8])
	}
	m := modelOf(s, given...)
	clear(room)
	l := k.List()
	clear(l[:cap(l)])
	checkModel(t, k, m)
	n := 0
	for i, x := range s.All() {
		if x != terms[i] {
			t.Errorf("term %d is %v, not %v", i, x, terms[i])
		}
		n++
	}
	if n != length {
		t.Errorf("%d terms, not %d", n, length)
	}
	*s = *term.New()
	checkModel(t, k, m)
	more(t, k, 2, 10)
	m.give(2, 10)
	checkModel(t, k, m)
}

// P15.1: what is known from one choice of terms does not depend on what is known from another.
func TestTwoKnown(t *testing.T) {
	s := oneOfEach(t)
	a, b := from(t, s, 9), from(t, s, 0)
	more(t, a, 1)
	checkModel(t, a, modelOf(s, 1, 9))
	checkModel(t, b, modelOf(s, 0))
	more(t, b, 8)
	checkModel(t, a, modelOf(s, 1, 9))
	checkModel(t, b, modelOf(s, 0, 8))
}

// A chain is locked keys, each within a lock of the one ahead of it: opened by the first key, in the order of the terms or against it.
func chain(t *testing.T, size int, against bool) (s *term.Store, keys, locks []int) {
	t.Helper()
	s = term.New()
	for range size + 1 {
		keys = append(keys, draw(t, s))
	}
	locks = make([]int, size)
	for i := range size {
		if against {
			i = size - 1 - i
		}
		locks[i] = must(t, s, api.TermLock, keys[i], keys[i+1])
	}
	return s, keys, locks
}

// P15.1, P15.2, P15.3: as many terms as a store takes, each of which is known only after another one.
func TestLongChain(t *testing.T) {
	const size = api.MaxTerms/2 - 1
	for _, against := range []bool{false, true} {
		s, keys, locks := chain(t, size, against)
		must(t, s, api.TermLock, locks[3], locks[4])
		if s.Len() != api.MaxTerms {
			t.Fatalf("%d terms", s.Len())
		}
		k := from(t, s, locks...)
		checkKnown(t, k, s.Len(), sorted(locks), sorted(append(slices.Clone(locks), s.Len()-1)))
		more(t, k, keys[size/2])
		l := sorted(append(slices.Clone(locks), keys[size/2:]...))
		checkKnown(t, k, s.Len(), l, append(l, s.Len()-1))
		more(t, k, keys[0])
		checkKnown(t, k, s.Len(), upTo(api.MaxTerms-1), upTo(api.MaxTerms))
		k = from(t, s, append(slices.Clone(locks), keys[0])...)
		checkKnown(t, k, s.Len(), upTo(api.MaxTerms-1), upTo(api.MaxTerms))
	}
}

// P15.1, P15.2: as many terms as a store takes, given one by one, and made of one another.
func TestLongMade(t *testing.T) {
	s := term.New()
	draw(t, s)
	for s.Len() < api.MaxTerms {
		must(t, s, api.TermNext, s.Len()-1, 0)
	}
	all := upTo(api.MaxTerms)
	k := from(t, s, 100)
	checkKnown(t, k, s.Len(), []int{100}, all[100:])
	for n := api.MaxTerms - 1; n > 0; n-- {
		more(t, k, n)
	}
	checkKnown(t, k, s.Len(), all[1:], all[1:])
	more(t, k, all...)
	checkKnown(t, k, s.Len(), all, all)
}

// P15.1: a term that is needed for all others.
func TestOneKeyForAll(t *testing.T) {
	s := term.New()
	key := draw(t, s)
	x := text(t, s, "x")
	public := must(t, s, api.TermPublic, key, 0)
	var given []int
	for range 500 {
		n := draw(t, s)
		given = append(given, must(t, s, api.TermLock, key, n), must(t, s, api.TermWrap, public, n), must(t, s, api.TermLock, n, key), must(t, s, api.TermSign, n, x))
	}
	k := from(t, s, given...)
	checkModel(t, k, modelOf(s, given...))
	more(t, k, key)
	checkModel(t, k, modelOf(s, append(given, key)...))
}

// randomStore is a store with terms of all kinds, about a fifth of them atoms, and half of them closed.
func randomStore(d *rand.Rand, size int) *term.Store {
	s := term.New()
	kinds := []int{api.TermPublic, api.TermVerifier, api.TermNext, api.TermItem, api.TermWrap, api.TermWrap, api.TermWrap, api.TermLock, api.TermLock, api.TermLock, api.TermLock, api.TermSign, api.TermDigest}
	for s.Len() < size {
		switch i := d.IntN(17); {
		case i < 3:
			s.Draw(1 + d.IntN(4))
		case i == 3:
			s.Text([]byte{byte(d.IntN(4))})
		case s.Len() > 0:
			putRandom(d, s, kinds[i-4])
		}
	}
	return s
}

// putRandom puts a term of a kind, if there is what it may refer to.
func putRandom(d *rand.Rand, s *term.Store, kind int) {
	x := api.Term{Kind: kind, A: d.IntN(s.Len())}
	switch kind {
	case api.TermWrap:
		x.A, x.B = randomOf(d, s, api.TermPublic), x.A
	case api.TermLock:
		x.B = d.IntN(s.Len())
	case api.TermSign:
		x.B = randomOf(d, s, api.TermText)
	case api.TermDigest:
		x.A = randomOf(d, s, api.TermText)
	}
	s.Put(x)
}

// randomOf is a term of a kind, or -1.
func randomOf(d *rand.Rand, s *term.Store, kind int) int {
	l := []int{}
	for n, x := range s.All() {
		if x.Kind == kind {
			l = append(l, n)
		}
	}
	if len(l) == 0 {
		return -1
	}
	return l[d.IntN(len(l))]
}

// randomGiven is some of the terms, most of them closed ones, in any order, and some of them twice.
func randomGiven(d *rand.Rand, s *term.Store) []int {
	var given []int
	for n, x := range s.All() {
		closed := x.Kind == api.TermWrap || x.Kind == api.TermLock || x.Kind == api.TermSign
		if closed && d.IntN(3) > 0 || d.IntN(20) == 0 {
			given = append(given, n)
		}
		if d.IntN(50) == 0 {
			given = append(given, given...)
		}
	}
	d.Shuffle(len(given), func(i, j int) { given[i], given[j] = given[j], given[i] })
	return given
}

// P15.1, P15.2, P15.3: any stores and given terms, at once and one by one in another order; with more of them no fewer are known.
func TestRandom(t *testing.T) {
	shown := 0
	for seed := range 600 {
		d := rand.New(rand.NewChaCha8([32]byte{byte(seed), byte(seed >> 8)}))
		s := randomStore(d, 4+seed%60)
		given := randomGiven(d, s)
		k, m := from(t, s, given...), modelOf(s, given...)
		checkModel(t, k, m)
		shown += len(m.known) - len(slices.Compact(sorted(given)))
		d.Shuffle(len(given), func(i, j int) { given[i], given[j] = given[j], given[i] })
		other, stepwise := from(t, s), modelOf(s)
		for _, n := range given {
			known, made := stepwise.list(), stepwise.made()
			more(t, other, n)
			stepwise.give(n)
			checkModel(t, other, stepwise)
			checkWithin(t, known, other.Has)
			checkWithin(t, made, other.Can)
		}
		checkModel(t, other, m)
		more(t, other, given...)
		checkModel(t, other, m)
	}
	if shown < 1000 {
		t.Errorf("no more than %d terms were known without being given", shown)
	}
}

// checkWithin wants all of a list to be so.
func checkWithin(t *testing.T, l []int, is func(int) bool) {
	t.Helper()
	for _, n := range l {
		if !is(n) {
			t.Errorf("term %d is no more what it was", n)
		}
	}
}

// P15.3: what is known from known terms is known, and what can be made of them can be made.
func TestClosed(t *testing.T) {
	for seed := range byte(200) {
		d := rand.New(rand.NewChaCha8([32]byte{seed, 1, 1}))
		s := randomStore(d, 5+int(seed))
		k := from(t, s, randomGiven(d, s)...)
		known, made := k.List(), modelOf(s, k.List()...).made()
		checkKnown(t, k, s.Len(), known, made)
		checkKnown(t, from(t, s, known...), s.Len(), known, made)
		more(t, k, known...)
		checkKnown(t, k, s.Len(), known, made)
		for _, n := range known {
			key, in, ok := deduce.Opens(s, n)
			if ok && k.Can(key) && !k.Has(in) {
				t.Errorf("%d opens %d, of which the content %d is not known", key, n, in)
			}
		}
	}
}
