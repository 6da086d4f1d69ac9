package codec_test

import (
	"bytes"
	"math"
	"slices"
	"testing"

	"bastille/api"
	"bastille/codec"
)

// The values of these tests are written out, so that they do not rest on the code under test.
func number(n int) api.Value        { return api.Value{Kind: api.Number, N: n} }
func raw(b ...byte) api.Value       { return api.Value{Kind: api.Bytes, B: b} }
func list(l ...api.Value) api.Value { return api.Value{Kind: api.List, L: l} }
func zeros(n int) api.Value         { return raw(make([]byte, n)...) }

// times is a list of so many times the same value.
func times(n int, v api.Value) api.Value { return list(slices.Repeat([]api.Value{v}, n)...) }

// within is a value within so many lists.
func within(lists int, v api.Value) api.Value {
	for range lists {
		v = list(v)
	}
	return v
}

// heads is the heads of so many lists of one item each, and the bytes that follow.
func heads(lists int, rest ...byte) []byte {
	return append(bytes.Repeat([]byte{3, 0, 1}, lists), rest...)
}

// A pair is a value and its bytes.
type pair struct {
	v api.Value
	b []byte
}

// pairs is values of all kinds, no two of them the same.
func pairs() []pair {
	return []pair{
		{number(0), []byte{1, 0}},
		{number(1), []byte{1, 1, 1}},
		{number(255), []byte{1, 1, 0xff}},
		{number(256), []byte{1, 2, 1, 0}},
		{number(258), []byte{1, 2, 1, 2}},
		{number(0xffff), []byte{1, 2, 0xff, 0xff}},
		{number(0x10000), []byte{1, 3, 1, 0, 0}},
		{number(0x0102030405), []byte{1, 5, 1, 2, 3, 4, 5}},
		{number(0x0102030405060708), []byte{1, 8, 1, 2, 3, 4, 5, 6, 7, 8}},
		{number(1<<62 - 1), []byte{1, 8, 0x3f, 0xff, 0xff, 0xff, 0xff, 0xff, 0xff, 0xff}},
		{number(1 << 62), []byte{1, 8, 0x40, 0, 0, 0, 0, 0, 0, 0}},
		{raw(), []byte{2, 0, 0, 0}},
		{raw(0), []byte{2, 0, 0, 1, 0}},
		{raw(0, 0), []byte{2, 0, 0, 2, 0, 0}},
		{raw(1, 0, 0xff), []byte{2, 0, 0, 3, 1, 0, 0xff}},
		{raw(1, 0), []byte{2, 0, 0, 2, 1, 0}},
		{zeros(0x102), append([]byte{2, 0, 1, 2}, make([]byte, 0x102)...)},
		{zeros(0x10203), append([]byte{2, 1, 2, 3}, make([]byte, 0x10203)...)},
		{list(), []byte{3, 0, 0}},
		{list(list()), []byte{3, 0, 1, 3, 0, 0}},
		{list(number(0)), []byte{3, 0, 1, 1, 0}},
		{list(number(0), number(0)), []byte{3, 0, 2, 1, 0, 1, 0}},
		{list(number(1), raw(2), list()), []byte{3, 0, 3, 1, 1, 1, 2, 0, 0, 1, 2, 3, 0, 0}},
		{list(list(), raw(2), number(1)), []byte{3, 0, 3, 3, 0, 0, 2, 0, 0, 1, 2, 1, 1, 1}},
		{list(list(number(1)), list(raw())), []byte{3, 0, 2, 3, 0, 1, 1, 1, 1, 3, 0, 1, 2, 0, 0, 0}},
		{times(0x102, number(0)), append([]byte{3, 1, 2}, bytes.Repeat([]byte{1, 0}, 0x102)...)},
		{within(15, list()), heads(15, 3, 0, 0)},
		{within(16, number(7)), heads(16, 1, 1, 7)},
		{within(16, raw(7)), heads(16, 2, 0, 0, 1, 7)},
	}
}

// shorten keeps a failure readable.
func shorten(b []byte) []byte { return b[:min(len(b), 40)] }

// checkZero wants an error, and no value beside it.
func checkZero(t *testing.T, b []byte, want api.Errno) {
	t.Helper()
	v, e := codec.Decode(b)
	if e != want || v.Kind != 0 || v.N != 0 || v.B != nil || v.L != nil {
		t.Errorf("Decode(% x), of %d bytes: kind %d, error %d, not %d", shorten(b), len(b), v.Kind, e, want)
	}
}

// P2.1, P2.2, P2.4: values and their bytes.
func TestEncodings(t *testing.T) {
	for _, p := range pairs() {
		if b, e := codec.Encode(p.v); e != api.OK || !bytes.Equal(b, p.b) {
			t.Errorf("Encode = % x, %d, not % x", shorten(b), e, shorten(p.b))
		}
		if n, ok := codec.Size(p.v); !ok || n != len(p.b) {
			t.Errorf("Size of % x = %d, %v, not %d", shorten(p.b), n, ok, len(p.b))
		}
		if v, e := codec.Decode(p.b); e != api.OK || !codec.Same(v, p.v) {
			t.Errorf("Decode(% x) = %v, %d", shorten(p.b), v.Kind, e)
		}
	}
}

// P2.1, P2.4: a number has as many bytes as it needs, about every power of two.
func TestNumbers(t *testing.T) {
	for bit := range 63 {
		for _, n := range []int{1<<bit - 1, 1 << bit, 1<<bit + 1} {
			if n > 1<<62 {
				continue
			}
			var digits []byte
			for rest := n; rest > 0; rest >>= 8 {
				digits = append(digits, byte(rest))
			}
			slices.Reverse(digits)
			want := append([]byte{1, byte(len(digits))}, digits...)
			if b, e := codec.Encode(number(n)); e != api.OK || !bytes.Equal(b, want) {
				t.Errorf("Encode(%d) = % x, %d, not % x", n, b, e, want)
			}
			if v, e := codec.Decode(want); e != api.OK || !codec.Same(v, number(n)) {
				t.Errorf("Decode(% x) = %v, %d, not %d", want, v, e, n)
			}
		}
	}
}

// illFormed is values that are not well-formed.
func illFormed() []api.Value {
	some := []api.Value{number(1)}
	return []api.Value{
		{},
		{Kind: 4}, {Kind: -1}, {Kind: 257}, {Kind: 258, B: []byte{1}}, {Kind: 1 << 32}, {Kind: math.MaxInt}, {Kind: math.MinInt},
		{N: 1}, {B: []byte{1}}, {L: some},
		number(-1), number(-256), number(math.MinInt), number(1<<62 + 1), number(math.MaxInt),
		{Kind: api.Number, B: []byte{0}}, {Kind: api.Number, N: 1, L: some}, {Kind: api.Number, L: []api.Value{{}}},
		{Kind: api.Bytes, N: 1}, {Kind: api.Bytes, N: -1, B: []byte{1}}, {Kind: api.Bytes, L: some}, {Kind: api.Bytes, B: []byte{1}, L: some},
		{Kind: api.List, N: 1}, {Kind: api.List, N: -1, L: some}, {Kind: api.List, B: []byte{0}}, {Kind: api.List, B: []byte{1}, L: some},
		list(number(1), number(-1)), list(raw(), list(list(), api.Value{}), number(1)),
		times(api.MaxList+1, number(0)),
		within(16, list()), within(17, number(0)), within(17, raw()), within(1000, list()),
		zeros(api.MaxText - 3), zeros(api.MaxText), zeros(1 << 24), zeros(1<<24 + 1),
	}
}

// P2.1: what is not well-formed has no size and no bytes, also within lists.
func TestIllFormed(t *testing.T) {
	for i, bad := range illFormed() {
		for _, v := range []api.Value{bad, list(bad), list(number(1), bad, raw()), list(list(), list(raw(), bad))} {
			if n, ok := codec.Size(v); n != 0 || ok {
				t.Errorf("Size of number %d = %d, %v", i, n, ok)
			}
			if b, e := codec.Encode(v); b != nil || e != api.ErrArg {
				t.Errorf("Encode of number %d = % x, %d", i, shorten(b), e)
			}
		}
	}
}

// P2.1 (rule 4): parts without elements are zero, whether they are nil or empty.
func TestEmptyParts(t *testing.T) {
	noBytes, noItems := []byte{}, []api.Value{}
	for _, p := range []pair{
		{api.Value{Kind: api.Number, N: 5, B: noBytes, L: noItems}, []byte{1, 1, 5}},
		{api.Value{Kind: api.Bytes, B: noBytes, L: noItems}, []byte{2, 0, 0, 0}},
		{api.Value{Kind: api.Bytes, B: nil}, []byte{2, 0, 0, 0}},
		{api.Value{Kind: api.List, B: noBytes, L: noItems}, []byte{3, 0, 0}},
		{api.Value{Kind: api.List, L: nil}, []byte{3, 0, 0}},
	} {
		if b, e := codec.Encode(p.v); e != api.OK || !bytes.Equal(b, p.b) {
			t.Errorf("Encode = % x, %d, not % x", b, e, p.b)
		}
	}
}

// P2.1: values whose bytes are just MaxText, and one more; they add up over the items.
func TestMostBytes(t *testing.T) {
	half := api.MaxText / 2
	const full = 3 + 4095*256 // the bytes of a list of 4095 items of 256 bytes each
	most := slices.Repeat([]api.Value{zeros(252)}, 4095)
	for _, v := range []api.Value{
		zeros(api.MaxText - 4),
		list(zeros(api.MaxText - 7)),
		list(zeros(half-7), zeros(half-4)),
		list(zeros(half-7), list(zeros(half-9), number(0))),
		within(16, zeros(api.MaxText-16*3-4)),
		list(append(most, zeros(api.MaxText-full-4))...),
	} {
		if n, ok := codec.Size(v); !ok || n != api.MaxText {
			t.Errorf("Size = %d, %v", n, ok)
		}
		b, e := codec.Encode(v)
		if e != api.OK || len(b) != api.MaxText {
			t.Fatalf("Encode = %d bytes, %d", len(b), e)
		}
		if w, e := codec.Decode(b); e != api.OK || !codec.Same(v, w) {
			t.Errorf("Decode: %d", e)
		}
	}
	for _, v := range []api.Value{
		zeros(api.MaxText - 3),
		list(zeros(api.MaxText - 6)),
		list(zeros(half-7), zeros(half-3)),
		list(zeros(half-7), list(zeros(half-9), number(1))),
		list(zeros(half-6), list(zeros(half-9), number(0))),
		list(zeros(api.MaxText-7), list()),
		within(16, zeros(api.MaxText-16*3-3)),
		list(append(most, zeros(api.MaxText-full-3))...),
	} {
		if n, ok := codec.Size(v); n != 0 || ok {
			t.Errorf("Size = %d, %v", n, ok)
		}
		if b, e := codec.Encode(v); b != nil || e != api.ErrArg {
			t.Errorf("Encode = %d bytes, %d", len(b), e)
		}
	}
}

// P2.1, P2.2: a list of MaxList items, and of one more.
func TestMostItems(t *testing.T) {
	items := bytes.Repeat([]byte{1, 0}, api.MaxList)
	b := append([]byte{3, 0x10, 0}, items...)
	if c, e := codec.Encode(times(api.MaxList, number(0))); e != api.OK || !bytes.Equal(b, c) {
		t.Errorf("Encode = % x, %d", shorten(c), e)
	}
	if v, e := codec.Decode(b); e != api.OK || len(v.L) != api.MaxList {
		t.Errorf("Decode = %d items, %d", len(v.L), e)
	}
	if n, ok := codec.Size(times(api.MaxList+1, number(0))); n != 0 || ok {
		t.Errorf("Size = %d, %v", n, ok)
	}
	checkZero(t, append([]byte{3, 0x10, 1}, append(items, 1, 0)...), api.ErrForm)
}

// P2.1 (rule 1): lists that share their items are too great for any memory, but the calls end.
func TestSharedItems(t *testing.T) {
	v := list()
	for range 15 {
		v = times(api.MaxList, v)
	}
	if n, ok := codec.Size(v); n != 0 || ok {
		t.Errorf("Size = %d, %v", n, ok)
	}
	if b, e := codec.Encode(v); b != nil || e != api.ErrArg {
		t.Errorf("Encode = %d bytes, %d", len(b), e)
	}
	for range 5 {
		v = times(api.MaxList, v)
	}
	if n := codec.Depth(v); n != api.MaxDepth+1 {
		t.Errorf("Depth = %d", n)
	}
}

// P2.1: the depth of values, well-formed or not.
func TestDepth(t *testing.T) {
	type ask struct {
		v    api.Value
		want int
	}
	asks := []ask{
		{api.Value{Kind: api.Number, L: list(number(1)).L}, 0},
		{api.Value{Kind: api.Bytes, L: list(list()).L}, 0},
		{api.Value{Kind: 4, L: list(list()).L}, 0},
		{times(api.MaxList+1, list()), 2},
		{within(1<<16, number(0)), api.MaxDepth + 1},
	}
	for lists := range 40 {
		want := min(lists, api.MaxDepth+1)
		for _, v := range []api.Value{number(0), raw(1), {}, number(-1)} {
			asks = append(asks, ask{within(lists, v), want})
		}
		above := min(lists+1, api.MaxDepth+1)
		for _, v := range []api.Value{list(), list(number(1), raw()), {Kind: api.List, N: 1, B: []byte{1}}} {
			asks = append(asks, ask{within(lists, v), above})
		}
		deep := within(lists, raw())
		asks = append(asks, ask{list(deep, number(1)), above}, ask{list(number(1), deep), above}, ask{list(raw(), deep, raw()), above})
	}
	for _, a := range asks {
		if n := codec.Depth(a.v); n != a.want {
			t.Errorf("Depth of kind %d with %d items = %d, not %d", a.v.Kind, len(a.v.L), n, a.want)
		}
	}
}

// P2.2: the first error, reading from the first byte on.
func TestDecodeErrors(t *testing.T) {
	ff := func(n int) []byte { return bytes.Repeat([]byte{0xff}, n) }
	for _, c := range []struct {
		b    []byte
		want api.Errno
	}{
		{nil, api.ErrEnd},
		{[]byte{}, api.ErrEnd},
		{[]byte{1}, api.ErrEnd},
		{[]byte{1, 8}, api.ErrEnd},
		{[]byte{1, 2, 1}, api.ErrEnd},
		{[]byte{1, 8, 0x40, 0, 0, 0, 0, 0, 0}, api.ErrEnd},
		{[]byte{2}, api.ErrEnd},
		{[]byte{2, 0, 0}, api.ErrEnd},
		{[]byte{2, 0, 0, 1}, api.ErrEnd},
		{[]byte{2, 0xff, 0xff, 0xff}, api.ErrEnd},
		{[]byte{2, 0xff, 0xff, 0xff, 1, 2, 3}, api.ErrEnd},
		{[]byte{3}, api.ErrEnd},
		{[]byte{3, 0}, api.ErrEnd},
		{[]byte{3, 0xff}, api.ErrEnd},
		{[]byte{3, 0, 1}, api.ErrEnd},
		{[]byte{3, 0x10, 0}, api.ErrEnd},
		{[]byte{3, 0, 2, 1, 0}, api.ErrEnd},
		{[]byte{3, 0, 2, 3, 0, 1, 1, 0}, api.ErrEnd},

		{[]byte{0}, api.ErrForm},
		{[]byte{0, 0}, api.ErrForm},
		{[]byte{4}, api.ErrForm},
		{[]byte{4, 0, 0, 0, 0}, api.ErrForm},
		{[]byte{0xff}, api.ErrForm},
		{[]byte{1, 1, 0}, api.ErrForm},
		{[]byte{1, 2, 0, 1}, api.ErrForm},
		{[]byte{1, 8, 0, 1, 2, 3, 4, 5, 6, 7}, api.ErrForm},
		{[]byte{1, 9}, api.ErrForm},
		{[]byte{1, 0xff}, api.ErrForm},
		{append([]byte{1, 9}, ff(9)...), api.ErrForm},
		{[]byte{1, 8, 0x40, 0, 0, 0, 0, 0, 0, 1}, api.ErrForm},
		{[]byte{1, 8, 0x80, 0, 0, 0, 0, 0, 0, 0}, api.ErrForm},
		{append([]byte{1, 8}, ff(8)...), api.ErrForm},
		{[]byte{3, 0x10, 1}, api.ErrForm},
		{[]byte{3, 0xff, 0xff}, api.ErrForm},

		{[]byte{1, 0, 0}, api.ErrExtra},
		{[]byte{1, 0, 1, 0}, api.ErrExtra},
		{[]byte{1, 1, 5, 4}, api.ErrExtra},
		{[]byte{2, 0, 0, 1, 0, 9}, api.ErrExtra},
		{[]byte{3, 0, 0, 0}, api.ErrExtra},
		{[]byte{3, 0, 1, 1, 0, 1, 9}, api.ErrExtra},

		// An item's error comes before what is missing or amiss behind it.
		{[]byte{3, 0, 2, 4}, api.ErrForm},
		{[]byte{3, 0, 2, 1, 9}, api.ErrForm},
		{[]byte{3, 0, 2, 1, 1, 0}, api.ErrForm},
		{[]byte{3, 0, 3, 1, 0, 0xff}, api.ErrForm},
		{[]byte{3, 0, 2, 2, 0, 0, 9, 4}, api.ErrEnd},
		{[]byte{3, 0, 1, 1, 1, 0, 9}, api.ErrForm},
		// A number is judged when all of its bytes have been read.
		{[]byte{1, 2, 0}, api.ErrEnd},
		{[]byte{1, 8, 0xff, 0xff}, api.ErrEnd},
	} {
		checkZero(t, c.b, c.want)
	}
}

// P2.2: each kind that does not exist, alone and within a list.
func TestUnknownKinds(t *testing.T) {
	for kind := range 256 {
		if kind < api.Number || kind > api.List {
			checkZero(t, []byte{byte(kind)}, api.ErrForm)
			checkZero(t, []byte{byte(kind), 0, 0, 0}, api.ErrForm)
			checkZero(t, []byte{3, 0, 2, 1, 0, byte(kind)}, api.ErrForm)
		}
	}
}

// P2.2: lists within 15 lists are read, within 16 they are too deep, whatever follows their kind; numbers and bytes are not.
func TestDecodeDeep(t *testing.T) {
	for _, p := range []pair{
		{within(15, list()), heads(15, 3, 0, 0)},
		{within(15, list(number(1), raw())), heads(15, 3, 0, 2, 1, 1, 1, 2, 0, 0, 0)},
		{within(16, number(0)), heads(16, 1, 0)},
	} {
		if v, e := codec.Decode(p.b); e != api.OK || !codec.Same(v, p.v) {
			t.Errorf("Decode(% x) = %d", p.b, e)
		}
	}
	for _, b := range [][]byte{
		heads(16, 3), heads(16, 3, 0), heads(16, 3, 0, 0), heads(16, 3, 0, 1), heads(16, 3, 0, 0, 9),
		heads(17, 1, 0), heads(17), heads(5000), heads(api.MaxText / 3),
		append([]byte{3, 0, 2, 1, 0}, heads(15, 3, 0, 0)...),
	} {
		checkZero(t, b, api.ErrForm)
	}
	checkZero(t, heads(16), api.ErrEnd)
	checkZero(t, heads(16, 1), api.ErrEnd)
}

// P2.2: more than MaxText bytes are too many, whatever they are.
func TestDecodeLimit(t *testing.T) {
	b := append([]byte{2, 0x0f, 0xff, 0xfc}, make([]byte, api.MaxText-4)...)
	if v, e := codec.Decode(b); e != api.OK || len(v.B) != api.MaxText-4 {
		t.Errorf("Decode of MaxText bytes = %d bytes, %d", len(v.B), e)
	}
	checkZero(t, append(b, 0), api.ErrLimit)
	checkZero(t, append([]byte{2, 0x0f, 0xff, 0xfd}, make([]byte, api.MaxText-3)...), api.ErrLimit)
	checkZero(t, make([]byte, api.MaxText+1), api.ErrLimit)
	checkZero(t, append([]byte{1, 9}, b...), api.ErrLimit)
	checkZero(t, make([]byte, api.MaxText), api.ErrForm)
	checkZero(t, append([]byte{1, 0}, make([]byte, api.MaxText-2)...), api.ErrExtra)
}

// P2.2: no beginning of a value is a value, nor is a value with more behind it.
func TestCutAndExtended(t *testing.T) {
	for _, p := range pairs() {
		for n := range min(len(p.b), 1000) {
			checkZero(t, p.b[:n], api.ErrEnd)
		}
		checkZero(t, p.b[:len(p.b)-1], api.ErrEnd)
		for _, more := range [][]byte{{0}, {1}, {3, 0, 0}, {0xff, 0xff}, make([]byte, 300)} {
			checkZero(t, slices.Concat(p.b, more), api.ErrExtra)
		}
	}
}

// P2.3: each kind of value is made as it is given, well-formed or not.
func TestMaking(t *testing.T) {
	for _, n := range []int{0, 1, 258, 1 << 62, 1<<62 + 1, -1, math.MinInt, math.MaxInt} {
		if v := codec.Num(n); !codec.Same(v, number(n)) {
			t.Errorf("Num(%d) = %v", n, v)
		}
	}
	for _, b := range [][]byte{nil, {}, {0}, {1, 0, 0xff}} {
		if v := codec.Raw(b); !codec.Same(v, raw(b...)) {
			t.Errorf("Raw(% x) = %v", b, v)
		}
	}
	for _, l := range [][]api.Value{nil, {}, {number(1)}, {{}}, {raw(1), list(), number(-1), list(raw(2))}} {
		if v := codec.Of(l...); !codec.Same(v, list(l...)) {
			t.Errorf("Of(%v) = %v", l, v)
		}
	}
}

// P2.3: the items of a list, if there is one of each kind.
func TestFields(t *testing.T) {
	v := list(number(5), raw(6), list(number(7)))
	for _, c := range []struct {
		v     api.Value
		kinds []int
		ok    bool
	}{
		{v, []int{api.Number, api.Bytes, api.List}, true},
		{list(), nil, true},
		{list(), []int{}, true},
		{list(number(1)), []int{api.Number}, true},
		{list(list(), list()), []int{api.List, api.List}, true},

		{v, []int{api.Number, api.Bytes}, false},
		{v, []int{api.Number, api.Bytes, api.List, api.Number}, false},
		{v, []int{api.Bytes, api.List}, false},
		{v, []int{api.Bytes, api.Bytes, api.List}, false},
		{v, []int{api.Number, api.Number, api.List}, false},
		{v, []int{api.Number, api.Bytes, api.Bytes}, false},
		{v, []int{api.List, api.Bytes, api.Number}, false},
		{v, []int{api.Number, api.Bytes, 0}, false},
		{v, []int{api.Number, api.Bytes, 4}, false},
		{v, nil, false},
		{list(), []int{api.Number}, false},
		{list(api.Value{}), []int{api.Number}, false},
		{number(5), []int{api.Number}, false},
		{number(5), nil, false},
		{raw(5), []int{api.Bytes}, false},
		{raw(), nil, false},
		{api.Value{}, nil, false},
		{api.Value{Kind: api.Number, L: []api.Value{number(1)}}, []int{api.Number}, false},
		{api.Value{Kind: 4, L: []api.Value{number(1)}}, []int{api.Number}, false},
	} {
		l, ok := codec.Fields(c.v, c.kinds...)
		if ok != c.ok || ok && !codec.Same(list(l...), c.v) || !ok && l != nil {
			t.Errorf("Fields of kind %d, %v = %v, %v", c.v.Kind, c.kinds, l, ok)
		}
	}
}

// P2.3: values are the same if all of their parts are, also those that their kind does not have.
func TestSame(t *testing.T) {
	some := []api.Value{number(1)}
	var values []api.Value
	for _, p := range pairs() {
		values = append(values, p.v)
	}
	values = append(values,
		api.Value{}, api.Value{Kind: 4}, api.Value{N: 1}, api.Value{B: []byte{1}}, api.Value{L: some},
		number(-1), number(math.MinInt),
		api.Value{Kind: api.Number, N: 1, B: []byte{1}}, api.Value{Kind: api.Number, N: 1, L: some}, api.Value{Kind: api.Number, N: 1, B: []byte{1}, L: some},
		api.Value{Kind: api.Bytes, N: 1, B: []byte{1}}, api.Value{Kind: api.Bytes, B: []byte{1}, L: some},
		api.Value{Kind: api.List, N: 1, L: some}, api.Value{Kind: api.List, B: []byte{1}, L: some},
		list(number(1), number(2)), list(number(2), number(1)), list(api.Value{}), list(list(number(2))),
		within(1000, number(1)), within(1000, number(2)), within(999, number(1)),
	)
	for i, a := range values {
		for j, b := range values {
			if same := codec.Same(a, deepCopy(b)); same != (i == j) {
				t.Errorf("Same of number %d and number %d = %v", i, j, same)
			}
		}
	}
	if !codec.Same(within(1<<16, raw(1)), within(1<<16, raw(1))) || codec.Same(within(1<<16, raw(1)), within(1<<16, raw(2))) {
		t.Errorf("Same of deep lists")
	}
	empty := api.Value{Kind: api.Number, N: 1, B: []byte{}, L: []api.Value{}}
	if !codec.Same(empty, number(1)) || !codec.Same(number(1), empty) {
		t.Errorf("a part that is nil and one that is empty are not the same (rule 4)")
	}
}

// deepCopy shares no memory with a value.
func deepCopy(v api.Value) api.Value {
	v.B = slices.Clone(v.B)
	v.L = slices.Clone(v.L)
	for i := range v.L {
		v.L[i] = deepCopy(v.L[i])
	}
	return v
}

// checkCanonical wants bytes that are decoded to be the encoding of what they are decoded to.
func checkCanonical(t *testing.T, b []byte) bool {
	t.Helper()
	v, e := codec.Decode(b)
	if e != api.OK {
		return false
	}
	if c, e := codec.Encode(v); e != api.OK || !bytes.Equal(b, c) {
		t.Fatalf("% x is decoded, but % x, %d is the encoding", shorten(b), shorten(c), e)
	}
	return true
}

// P2.4: of all short strings of some bytes, only encodings are decoded.
func TestOnlyEncodings(t *testing.T) {
	alphabet := []byte{0, 1, 2, 3, 4, 0x40, 0xff}
	tried, decoded := [][]byte{{}}, 0
	for range 6 {
		var longer [][]byte
		for _, b := range tried {
			for _, c := range alphabet {
				longer = append(longer, append(slices.Clone(b), c))
			}
		}
		for _, b := range longer {
			if checkCanonical(t, b) {
				decoded++
			}
		}
		tried = longer
	}
	if decoded == 0 {
		t.Errorf("nothing was decoded")
	}
}

// P2.4: a byte of an encoding that is changed gives another value, or none.
func TestChangedBytes(t *testing.T) {
	for _, p := range pairs() {
		if len(p.b) > 100 { // a long one takes long, and tells no more than a short one
			continue
		}
		for i := range p.b {
			for c := range 256 {
				b := slices.Clone(p.b)
				b[i] = byte(c)
				if v, e := codec.Decode(b); e == api.OK && codec.Same(v, p.v) != bytes.Equal(b, p.b) {
					t.Fatalf("% x and % x are one value", shorten(b), shorten(p.b))
				}
				checkCanonical(t, b)
			}
		}
	}
}

// Rule 5: no call changes what it is given; what is made of a list or of bytes stays when these are changed later.
func TestArgumentsStay(t *testing.T) {
	for i, p := range pairs() {
		v, b := deepCopy(p.v), slices.Clone(p.b)
		codec.Size(p.v)
		codec.Encode(p.v)
		codec.Depth(p.v)
		codec.Fields(p.v)
		w, _ := codec.Decode(p.b)
		if !codec.Same(p.v, v) || !bytes.Equal(p.b, b) {
			t.Errorf("number %d was changed", i)
		}
		clear(p.b)
		if !codec.Same(w, v) {
			t.Errorf("number %d shares the memory of its bytes", i)
		}
	}
	b, l := []byte{1, 2}, []api.Value{number(1), raw(2)}
	v, w := codec.Raw(b), codec.Of(l...)
	fields, _ := codec.Fields(w, api.Number, api.Bytes)
	b[0], l[0], fields[1] = 9, number(9), number(9)
	if !codec.Same(v, raw(1, 2)) || !codec.Same(w, list(number(1), raw(2))) {
		t.Errorf("changed later: %v, %v", v, w)
	}
}
