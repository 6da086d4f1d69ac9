package derive_test

import (
	"bytes"
	"crypto/hmac"
	"crypto/sha512"
	"encoding/binary"
	"encoding/hex"
	"math"
	"math/rand/v2"
	"slices"
	"strings"
	"testing"

	"bastille/api"
	"bastille/derive"
)

// A draw is bytes that look like any, the same ones in each run.
type draw struct{ *rand.ChaCha8 }

func newDraw(n byte) draw { return draw{rand.NewChaCha8([32]byte{n})} }

func (d draw) bytes(size int) []byte {
	b := make([]byte, size)
	d.Read(b)
	return b
}

func (d draw) state() [32]byte { return [32]byte(d.bytes(32)) }

// tag is the tag of Go's own HMAC.
func tag(key []byte, parts ...[]byte) [64]byte {
	h := hmac.New(sha512.New, key)
	for _, p := range parts {
		h.Write(p)
	}
	return [64]byte(h.Sum(nil))
}

// key is a derived key as the chapter says it, by Go's own HMAC.
func key(from []byte, label string, contexts ...[]byte) [32]byte {
	text := append([]byte{byte(len(label))}, label...)
	for _, c := range contexts {
		text = binary.BigEndian.AppendUint32(text, uint32(len(c)))
		text = append(text, c...)
	}
	x := tag(from, text)
	return [32]byte(x[:32])
}

// checkTag wants the tag of Go's own HMAC.
func checkTag(t *testing.T, k []byte, parts ...[]byte) {
	t.Helper()
	if got, want := derive.Tag(k, parts...), tag(k, parts...); got != want {
		t.Errorf("Tag under %d bytes of %d parts = %x, not %x", len(k), len(parts), got, want)
	}
}

// checkKey wants a derived key as the chapter says it.
func checkKey(t *testing.T, from []byte, label string, contexts ...[]byte) {
	t.Helper()
	got, e := derive.Key(from, label, contexts...)
	if want := key(from, label, contexts...); e != api.OK || got != want {
		t.Errorf("Key of %d bytes for a label of %d and %d contexts = %x, %d, not %x", len(from), len(label), len(contexts), got, e, want)
	}
}

// checkNoKey wants an error, and no key beside it.
func checkNoKey(t *testing.T, want api.Errno, from []byte, label string, contexts ...[]byte) {
	t.Helper()
	if k, e := derive.Key(from, label, contexts...); e != want || k != [32]byte{} {
		t.Errorf("Key of %d bytes for a label of %d and %d contexts = %x, %d, not %d", len(from), len(label), len(contexts), k, e, want)
	}
}

// contextsOf is so many contexts of a size.
func contextsOf(n, size int) [][]byte {
	l := make([][]byte, n)
	for i := range l {
		l[i] = bytes.Repeat([]byte{byte(i)}, size)
	}
	return l
}

// stateOf is the 32 bytes of digits.
func stateOf(t *testing.T, digits string) [32]byte {
	t.Helper()
	b, err := hex.DecodeString(digits)
	if err != nil || len(b) != 32 {
		t.Fatalf("%s: %d bytes, %v", digits, len(b), err)
	}
	return [32]byte(b)
}

// rising is the state of the bytes 0 to 31.
func rising() [32]byte {
	var s [32]byte
	for i := range s {
		s[i] = byte(i)
	}
	return s
}

// P12.1: the test cases 1 to 7 of RFC 4231, of which the 5th has only the first 16 bytes.
func TestKnownTags(t *testing.T) {
	var counted []byte
	for i := range 25 {
		counted = append(counted, byte(i+1))
	}
	long := bytes.Repeat([]byte{0xaa}, 131)
	for i, c := range []struct {
		key  []byte
		text string
		want string
	}{
		{bytes.Repeat([]byte{0x0b}, 20), "Hi There", "87aa7cdea5ef619d4ff0b4241a1d6cb02379f4e2ce4ec2787ad0b30545e17cdedaa833b7d6b8a702038b274eaea3f4e4be9d914eeb61f1702e696c203a126854"},
		{[]byte("Jefe"), "what do ya want for nothing?", "164b7a7bfcf819e2e395fbe73b56e0a387bd64222e831fd610270cd7ea2505549758bf75c05a994a6d034f65f8f0e6fdcaeab1a34d4a6b4b636e070a38bce737"},
		{bytes.Repeat([]byte{0xaa}, 20), strings.Repeat("\xdd", 50), "fa73b0089d56a284efb0f0756c890be9b1b5dbdd8ee81a3655f83e33b2279d39bf3e848279a722c806b485a47e67c807b946a337bee8942674278859e13292fb"},
		{counted, strings.Repeat("\xcd", 50), "b0ba465637458c6990e5a8c5f61d4af7e576d97ff94b872de76f8050361ee3dba91ca5c11aa25eb4d679275cc5788063a5f19741120c4f2de2adebeb10a298dd"},
		{bytes.Repeat([]byte{0x0c}, 20), "Test With Truncation", "415fad6271580a531d4179bc891d87a6"},
		{long, "Test Using Larger Than Block-Size Key - Hash Key First", "80b24263c7c1a3ebb71493c1dd7be8b49b46d1f41b4aeec1121b013783f8f3526b56d037e05f2598bd0fd2215d6a1e5295e64f73f63f0aec8b915a985d786598"},
		{long, "This is a test using a larger than block-size key and a larger than block-size data. The key needs to be hashed before being used by the HMAC algorithm.", "e37b6a775dc87dbaa4dfa9f96e5e3ffddebd71f8867289865df5a32d20cdc944b6022cac3c4982b10d5eeb55c3e4de15134676fb6de0446065c97440fa8c6a58"},
	} {
		got := derive.Tag(c.key, []byte(c.text))
		if digits := hex.EncodeToString(got[:]); !strings.HasPrefix(digits, c.want) {
			t.Errorf("case %d: %s, not %s", i+1, digits, c.want)
		}
	}
}

// P12.1: keys and texts of each length about the first blocks, and long ones.
func TestTagOfEachLength(t *testing.T) {
	d := newDraw(1)
	for size := range 400 {
		checkTag(t, d.bytes(size), d.bytes(50))
		checkTag(t, bytes.Repeat([]byte{0xff}, size), nil)
		checkTag(t, d.bytes(32), d.bytes(size))
		checkTag(t, d.bytes(size), d.bytes(size))
	}
	checkTag(t, d.bytes(api.MaxText+1), d.bytes(5))
	checkTag(t, d.bytes(5), d.bytes(3*api.MaxText))
}

// P12.1: each bit of a key has a part in a tag, and each bit of a text.
func TestEachBit(t *testing.T) {
	d := newDraw(2)
	tags := map[[64]byte]int{}
	bits := 0
	for _, size := range []int{1, 64, 127, 128, 129, 140} {
		k, text := d.bytes(size), d.bytes(size)
		for bit := range 8 * size {
			turned := bytes.Clone(k)
			turned[bit/8] ^= 1 << (bit % 8)
			checkTag(t, turned, text)
			tags[derive.Tag(turned, text)]++
			turned = bytes.Clone(text)
			turned[bit/8] ^= 1 << (bit % 8)
			checkTag(t, k, turned)
			tags[derive.Tag(k, turned)]++
			bits += 2
		}
	}
	if len(tags) != bits {
		t.Errorf("%d turned bits make %d tags", bits, len(tags))
	}
}

// P12.1: zero bytes behind a key up to 128 bytes change nothing, and a longer key is as its hash.
func TestKeysAreFilled(t *testing.T) {
	d := newDraw(3)
	text := d.bytes(10)
	for size := range 129 {
		k := d.bytes(size)
		filled := append(bytes.Clone(k), make([]byte, 128-size)...)
		if derive.Tag(k, text) != derive.Tag(filled, text) {
			t.Errorf("zero bytes behind a key of %d bytes change the tag", size)
		}
		if derive.Tag(k, text) == derive.Tag(append(filled, 0), text) {
			t.Errorf("a key of 129 bytes is as its first %d", size)
		}
	}
	for _, size := range []int{129, 130, 192, 256, 1000} {
		k := d.bytes(size)
		hash := sha512.Sum512(k)
		if derive.Tag(k, text) != derive.Tag(hash[:], text) {
			t.Errorf("a key of %d bytes is not as its hash", size)
		}
	}
}

// P12.1: no parts are a text of no bytes, and a key without bytes is one of zero bytes.
func TestTagOfNothing(t *testing.T) {
	for _, k := range [][]byte{nil, {}, {0}, make([]byte, 128)} {
		want := tag(nil)
		for _, parts := range [][][]byte{nil, {}, {nil}, {{}}, {nil, {}, nil}} {
			if got := derive.Tag(k, parts...); got != want {
				t.Errorf("Tag under %d zero bytes of %d empty parts = %x, not %x", len(k), len(parts), got, want)
			}
		}
	}
}

// P12.3: every division into two parts, with empty ones between, and bytes one by one.
func TestPartsDoNotMatter(t *testing.T) {
	d := newDraw(4)
	for _, n := range []int{1, 2, 63, 64, 65, 111, 112, 127, 128, 129, 255, 256, 257, 300} {
		for _, k := range [][]byte{nil, d.bytes(32), d.bytes(128), d.bytes(200)} {
			b := d.bytes(n)
			want := derive.Tag(k, b)
			for i := range n + 1 {
				j := i + (n-i)/3
				if derive.Tag(k, b[:i], b[i:]) != want || derive.Tag(k, nil, b[:i], []byte{}, b[i:j], b[j:], nil) != want {
					t.Errorf("%d bytes divided at %d have another tag", n, i)
				}
			}
			if derive.Tag(k, slices.Collect(slices.Chunk(b, 1))...) != want {
				t.Errorf("%d bytes one by one have another tag", n)
			}
		}
	}
}

// P12.1: keys that were computed beside this program (by Python's hmac).
func TestKnownKeys(t *testing.T) {
	for _, c := range []struct {
		from, label string
		contexts    [][]byte
		want        string
	}{
		{"key", "a", [][]byte{{7}}, "23bb6189de74d777ac6cb8003d14f70527d944bd9113e1ffe48c9c8c6e419508"},
		{"k", "", nil, "aa6bbbf86ea997ebb41f460f61e0153e04292b1f7d5697890260bbb461662bf3"},
		{"key", "label", [][]byte{nil, []byte("bc"), make([]byte, 300)}, "1f256cc009cc90fe2cf7006a31fa3052acb7ba09f32f94dc86306241ef593798"},
	} {
		got, e := derive.Key([]byte(c.from), c.label, c.contexts...)
		if e != api.OK || got != stateOf(t, c.want) {
			t.Errorf("Key of %s for %s = %x, %d, not %s", c.from, c.label, got, e, c.want)
		}
	}
}

// P12.1: a derived key is the first half of a tag of the label, its length, the contexts and theirs.
func TestKeyIsHalfATag(t *testing.T) {
	from := []byte("from")
	x := derive.Tag(from, []byte{3}, []byte("abc"), []byte{0, 0, 0, 2, 8, 9}, []byte{0, 0, 0, 0}, []byte{0, 0, 0, 1, 10})
	k, e := derive.Key(from, "abc", []byte{8, 9}, nil, []byte{10})
	if e != api.OK || !bytes.Equal(k[:], x[:32]) {
		t.Errorf("%x, %d is not the first half of %x", k, e, x)
	}
}

// P12.1: labels of each length, of any bytes.
func TestLabels(t *testing.T) {
	d := newDraw(5)
	from := d.bytes(32)
	for size := range 65 {
		checkKey(t, from, string(d.bytes(size)))
		checkKey(t, from, strings.Repeat("\x00", size))
		checkKey(t, from, strings.Repeat("\xff", size), d.bytes(size))
	}
	checkKey(t, from, strings.Repeat("é", 32))
	for _, size := range []int{65, 66, 127, 128, 255, 256, 257, 261, 320, 1 << 16, api.MaxText + 1} {
		checkNoKey(t, api.ErrLimit, from, strings.Repeat("a", size))
		checkNoKey(t, api.ErrLimit, from, strings.Repeat("\x00", size), []byte{1})
	}
	checkNoKey(t, api.ErrLimit, from, strings.Repeat("é", 32)+"a")
	checkNoKey(t, api.ErrLimit, from, strings.Repeat("é", 33))
}

// P12.1: up to sixteen contexts of each number and of several sizes, and more of them.
func TestContexts(t *testing.T) {
	d := newDraw(6)
	from := d.bytes(32)
	for n := range 17 {
		for _, size := range []int{0, 1, 7, 32, 255, 256, 257, 1000} {
			checkKey(t, from, "label", contextsOf(n, size)...)
		}
	}
	for size := range 300 {
		checkKey(t, from, "label", d.bytes(size))
		checkKey(t, from, "", d.bytes(size), d.bytes(300-size))
	}
	for _, n := range []int{17, 18, 32, 255, 256, 257, 1000} {
		checkNoKey(t, api.ErrLimit, from, "label", contextsOf(n, 1)...)
		checkNoKey(t, api.ErrLimit, from, "label", make([][]byte, n)...)
	}
}

// P12.1: the longest context, and one byte more, in each place.
func TestLongContexts(t *testing.T) {
	d := newDraw(7)
	from, long := d.bytes(32), d.bytes(2*api.MaxText)
	for _, size := range []int{1<<16 - 1, 1 << 16, 1<<16 + 1, api.MaxText - 1, api.MaxText} {
		checkKey(t, from, "label", long[:size])
		checkKey(t, from, strings.Repeat("a", 64), []byte{1}, long[:size], nil)
	}
	checkKey(t, from, "label", slices.Repeat([][]byte{long[:api.MaxText]}, 16)...)
	for _, n := range []int{1, 2, 16} {
		for i := range n {
			contexts := contextsOf(n, 1)
			contexts[i] = long[:api.MaxText+1]
			checkNoKey(t, api.ErrLimit, from, "label", contexts...)
			contexts[i] = long
			checkNoKey(t, api.ErrLimit, from, "label", contexts...)
		}
	}
}

// P12.1: keys of each length to derive from, without a limit.
func TestFrom(t *testing.T) {
	d := newDraw(8)
	for size := 1; size < 300; size++ {
		checkKey(t, d.bytes(size), "label", []byte("context"))
		checkKey(t, make([]byte, size), "label")
	}
	checkKey(t, d.bytes(api.MaxText+1), "label", []byte("context"))
}

// P12.1: without bytes to derive from the error is ErrKey, whatever else is wrong.
func TestOrderOfErrors(t *testing.T) {
	long, label := make([]byte, api.MaxText+1), strings.Repeat("a", 65)
	for _, from := range [][]byte{nil, {}} {
		checkNoKey(t, api.ErrKey, from, "")
		checkNoKey(t, api.ErrKey, from, "label", []byte("context"))
		checkNoKey(t, api.ErrKey, from, label)
		checkNoKey(t, api.ErrKey, from, "label", contextsOf(17, 1)...)
		checkNoKey(t, api.ErrKey, from, "label", long)
		checkNoKey(t, api.ErrKey, from, label, slices.Repeat([][]byte{long}, 17)...)
	}
	checkNoKey(t, api.ErrLimit, []byte{0}, label, slices.Repeat([][]byte{long}, 17)...)
}

// P12.1: the same bytes divided otherwise into a label and contexts make another key.
func TestDivisionsMatter(t *testing.T) {
	const whole = "abcdef"
	keys := map[[32]byte]int{}
	asks := 0
	ask := func(label string, contexts ...[]byte) {
		k, e := derive.Key([]byte("from"), label, contexts...)
		if e != api.OK {
			t.Fatalf("Key for %s: %d", label, e)
		}
		keys[k]++
		asks++
	}
	for i := range len(whole) + 1 {
		ask(whole[:i], []byte(whole[i:]))
		ask(whole[:i], []byte(whole[i:]), nil)
		ask(whole[:i], nil, []byte(whole[i:]), nil)
		for j := i; j <= len(whole); j++ {
			ask(whole[:i], []byte(whole[i:j]), []byte(whole[j:]), []byte{0})
		}
	}
	ask(whole)
	ask(whole + "\x00\x00\x00\x00")
	ask("\x06" + whole)
	if len(keys) != asks {
		t.Errorf("%d divisions make %d keys", asks, len(keys))
	}
}

// P12.1: a context that is nil is one without bytes, and no contexts are none.
func TestEmptyContexts(t *testing.T) {
	from := []byte("from")
	a, _ := derive.Key(from, "label", nil, []byte{1}, nil)
	b, _ := derive.Key(from, "label", []byte{}, []byte{1}, []byte{})
	if a != b {
		t.Errorf("nil contexts make %x, empty ones %x", a, b)
	}
	checkKey(t, from, "label", [][]byte{}...)
	checkKey(t, from, "label", nil, nil)
}

// P12.2: states and keys that were computed beside this program (by Python's hmac; the first one by OpenSSL too).
func TestKnownStates(t *testing.T) {
	for _, c := range []struct {
		state      [32]byte
		next, item string
	}{
		{[32]byte{}, "8c0cada17841edef2c516664da3f4944fd120c78f9df94288349e18d90b8203c", "09297c0b6ad365f58c252db401e72e78c7284f70db7683506ea967808e0e3a1a"},
		{rising(), "404c8a48d13f9d3bdb5415f0dff8c6af79333e486eebef5a55e6f126ad8a172c", "0457076c216da8eefedf36fabf4978e205f4769e716b89038d99e7a28bffa74f"},
	} {
		if s := derive.Next(c.state); s != stateOf(t, c.next) {
			t.Errorf("Next(%x) = %x, not %s", c.state, s, c.next)
		}
		if k := derive.Item(c.state); k != stateOf(t, c.item) {
			t.Errorf("Item(%x) = %x, not %s", c.state, k, c.item)
		}
	}
}

// P12.2: Next and Item are derived keys, all of them different, whichever bit of a state is turned.
func TestNextAndItem(t *testing.T) {
	d := newDraw(9)
	keys := map[[32]byte]int{}
	states := 0
	for _, s := range [][32]byte{{}, [32]byte(bytes.Repeat([]byte{0xff}, 32)), d.state()} {
		for bit := range 256 {
			turned := s
			turned[bit/8] ^= 1 << (bit % 8)
			next, item := derive.Next(turned), derive.Item(turned)
			if want := key(turned[:], "regress"); next != want {
				t.Errorf("Next(%x) = %x, not %x", turned, next, want)
			}
			if want := key(turned[:], "item"); item != want {
				t.Errorf("Item(%x) = %x, not %x", turned, item, want)
			}
			keys[turned]++
			keys[next]++
			keys[item]++
			states++
		}
	}
	if len(keys) != 3*states {
		t.Errorf("%d states, the next ones and the keys of items are %d", states, len(keys))
	}
}

// P12.2: Back is Next so many times, from none to the greatest number.
func TestBack(t *testing.T) {
	s := rising()
	want := s
	steps := 0
	for _, n := range []int{0, 1, 2, 3, 4, 5, 63, 64, 255, 256, 257, 1000, 4095, 4096} {
		for ; steps < n; steps++ {
			want = key(want[:], "regress")
		}
		if got, e := derive.Back(s, n); e != api.OK || got != want {
			t.Errorf("Back by %d = %x, %d, not %x", n, got, e, want)
		}
	}
	if want != stateOf(t, "3e270a69d325534a40011841ff7c90273e19d0891fb3c7dd66ef395bda1d21d6") {
		t.Errorf("4096 steps back is %x", want)
	}
}

// P12.2: numbers of steps that there are not.
func TestNoSteps(t *testing.T) {
	for _, n := range []int{-1, -2, -4096, 4097, 4098, 8192, 1 << 16, 1 << 32, 1<<32 + 1, -1 << 32, math.MinInt, math.MaxInt} {
		if s, e := derive.Back(rising(), n); e != api.ErrArg || s != [32]byte{} {
			t.Errorf("Back by %d = %x, %d", n, s, e)
		}
	}
}

// P12.2: a chain ends with its seed, and each other state is Next of the one behind it.
func TestChain(t *testing.T) {
	d := newDraw(10)
	for _, n := range []int{1, 2, 3, 4, 5, 16, 100, 4095, 4096} {
		seed := d.state()
		l, e := derive.Chain(seed, n)
		if e != api.OK || len(l) != n {
			t.Fatalf("Chain of %d = %d states, %d", n, len(l), e)
		}
		want := seed
		for i, s := range slices.Backward(l) {
			if s != want {
				t.Fatalf("state %d of %d is %x, not %x", i, n, s, want)
			}
			want = key(want[:], "regress")
		}
	}
}

// P12.2: numbers of states that no chain has.
func TestNoChain(t *testing.T) {
	for _, n := range []int{0, -1, -2, -4096, 4097, 4098, 8192, 1 << 16, 1 << 32, 1<<32 + 1, -1 << 32, math.MinInt, math.MaxInt} {
		if l, e := derive.Chain(rising(), n); e != api.ErrArg || len(l) != 0 {
			t.Errorf("Chain of %d = %d states, %d", n, len(l), e)
		}
	}
}

// checkBoth wants Back by a number of steps, and then by another one, to be Back by both.
func checkBoth(t *testing.T, s [32]byte, first, then int) {
	t.Helper()
	want, e := derive.Back(s, first+then)
	middle, e1 := derive.Back(s, first)
	got, e2 := derive.Back(middle, then)
	if e != api.OK || e1 != api.OK || e2 != api.OK || got != want {
		t.Errorf("Back by %d and by %d = %x, %d, %d, %d, not %x", first, then, got, e, e1, e2, want)
	}
}

// P12.3: Back goes by parts.
func TestBackByParts(t *testing.T) {
	d := newDraw(11)
	for steps := range 25 {
		s := d.state()
		for first := range steps + 1 {
			checkBoth(t, s, first, steps-first)
		}
	}
	for _, first := range []int{0, 1, 4, 2048, 3000, 4092, 4095, 4096} {
		checkBoth(t, d.state(), first, 4096-first)
	}
}

// P12.3: from the newest state of a chain all of it, from each other one what is older.
func TestOlderStates(t *testing.T) {
	l, _ := derive.Chain(rising(), 12)
	for from, s := range l {
		for to := range from + 1 {
			if got, e := derive.Back(s, from-to); e != api.OK || got != l[to] {
				t.Errorf("state %d from state %d = %x, %d, not %x", to, from, got, e, l[to])
			}
		}
	}
}

// P12.1: what is given stays as it was (rule 5), and so does what lies behind it.
func TestArgumentsStay(t *testing.T) {
	d := newDraw(12)
	for _, size := range []int{1, 32, 100, 128, 129, 200} {
		room := d.bytes(1000)
		kept := bytes.Clone(room)
		k := room[:size:1000]
		parts := [][]byte{room[300:350:1000], room[400:401:1000], nil, {9}}
		given := slices.Clone(parts)
		derive.Tag(k, parts[:2]...)
		derive.Key(k, "label", parts[:2]...)
		if !bytes.Equal(room, kept) || !slices.EqualFunc(parts, given, bytes.Equal) {
			t.Errorf("with a key of %d bytes, what was given or stands behind it was changed", size)
		}
	}
}

// P12.2: a caller's chain is its own.
func TestChainIsNew(t *testing.T) {
	l, _ := derive.Chain(rising(), 4)
	kept := slices.Clone(l)
	again, _ := derive.Chain(rising(), 4)
	clear(again[:cap(again)])
	if third, _ := derive.Chain(rising(), 4); !slices.Equal(l, kept) || !slices.Equal(third, kept) {
		t.Error("changing a chain changes another one")
	}
}
