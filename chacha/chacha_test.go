package chacha_test

import (
	"bytes"
	"encoding/binary"
	"encoding/hex"
	"iter"
	"math"
	"math/rand/v2"
	"testing"

	"bastille/api"
	"bastille/chacha"
)

// A row is four words of the square of four by four that a state is.
type row [4]uint32

func (r row) add(o row) row {
	for i := range r {
		r[i] = uint32((uint64(r[i]) + uint64(o[i])) % (1 << 32))
	}
	return r
}

// xor is exclusive or, and then so many bits to the left.
func (r row) xor(o row, left int) row {
	for i := range r {
		x := r[i] ^ o[i]
		r[i] = x<<left | x>>(32-left)
	}
	return r
}

// turned is the words, each of them so many places further to the front.
func (r row) turned(n int) row {
	return row{r[n%4], r[(n+1)%4], r[(n+2)%4], r[(n+3)%4]}
}

// quarters is four quarter rounds side by side.
func quarters(a, b, c, d row) (row, row, row, row) {
	a = a.add(b)
	d = d.xor(a, 16)
	c = c.add(d)
	b = b.xor(c, 12)
	a = a.add(b)
	d = d.xor(a, 8)
	c = c.add(d)
	b = b.xor(c, 7)
	return a, b, c, d
}

// block is a block made of rows: where the chapter goes along diagonals, the rows are turned until these are columns.
func block(key [32]byte, nonce [12]byte, count uint32) []byte {
	in := append([]byte("expand 32-byte k"), key[:]...)
	in = binary.LittleEndian.AppendUint32(in, count)
	in = append(in, nonce[:]...)
	var first [4]row
	if _, err := binary.Decode(in, binary.LittleEndian, &first); err != nil {
		panic(err)
	}
	a, b, c, d := first[0], first[1], first[2], first[3]
	for range 10 {
		a, b, c, d = quarters(a, b, c, d)
		a, b, c, d = quarters(a, b.turned(1), c.turned(2), d.turned(3))
		b, c, d = b.turned(3), c.turned(2), d.turned(1)
	}
	out := [4]row{a.add(first[0]), b.add(first[1]), c.add(first[2]), d.add(first[3])}
	l, err := binary.Append(nil, binary.LittleEndian, out)
	if err != nil {
		panic(err)
	}
	return l
}

// keyStream is so many bytes of the key stream from a counter on, which does not come to its end there.
func keyStream(key [32]byte, nonce [12]byte, count uint32, size int) []byte {
	var l []byte
	for n := uint64(count); len(l) < size; n++ {
		if n > math.MaxUint32 {
			panic("behind the end of the key stream")
		}
		l = append(l, block(key, nonce, uint32(n))...)
	}
	return l[:size]
}

// A draw is bytes that look like any, the same ones in each run.
type draw struct{ *rand.ChaCha8 }

func newDraw(n byte) draw { return draw{rand.NewChaCha8([32]byte{n})} }

func (d draw) bytes(size int) []byte {
	b := make([]byte, size)
	d.Read(b)
	return b
}

func (d draw) key() [32]byte { return [32]byte(d.bytes(32)) }

func (d draw) nonce() [12]byte { return [12]byte(d.bytes(12)) }

// counts is counters next to those at which a byte of them begins again, and the greatest ones.
func counts() []uint32 {
	return []uint32{
		0, 1, 2, 0x7f, 0x80, 0xff, 0x100, 0xffff, 0x10000, 0xffffff, 0x1000000, 0x01020304,
		0x7fffffff, 0x80000000, 0xfffffffc, 0xfffffffd, 0xfffffffe, 0xffffffff,
	}
}

// bytesOf is the bytes that digits stand for.
func bytesOf(t *testing.T, digits string) []byte {
	t.Helper()
	b, err := hex.DecodeString(digits)
	if err != nil {
		t.Fatal(err)
	}
	return b
}

// checkBlock wants a block, and the test's own block to be the same.
func checkBlock(t *testing.T, key [32]byte, nonce [12]byte, count uint32, want []byte) {
	t.Helper()
	if own := block(key, nonce, count); !bytes.Equal(own, want) {
		t.Errorf("the test's own block %d of %x, %x is %x, not %x", count, key, nonce, own, want)
	}
	if got := chacha.Block(key, nonce, count); !bytes.Equal(got[:], want) {
		t.Errorf("Block(%x, %x, %d) = %x, not %x", key, nonce, count, got, want)
	}
}

// checkHide wants what comes of b, and b to stay as it was.
func checkHide(t *testing.T, key [32]byte, nonce [12]byte, count uint32, b, want []byte) {
	t.Helper()
	before := bytes.Clone(b)
	got, e := chacha.Hide(key, nonce, count, b)
	if e != api.OK || !bytes.Equal(got, want) {
		t.Errorf("Hide of %d bytes from block %d = %.100x, %d, not %.100x", len(b), count, got, e, want)
	}
	if !bytes.Equal(b, before) {
		t.Errorf("Hide changed its %d bytes", len(b))
	}
}

// checkLimit wants so many bytes to be too many.
func checkLimit(t *testing.T, count uint32, size int) {
	t.Helper()
	if h, e := chacha.Hide([32]byte{1}, [12]byte{2}, count, make([]byte, size)); e != api.ErrLimit || h != nil {
		t.Errorf("Hide of %d bytes from block %d = %d bytes, %d", size, count, len(h), e)
	}
}

// hidden is b combined with the key stream, byte by byte.
func hidden(key [32]byte, nonce [12]byte, count uint32, b []byte) []byte {
	l := keyStream(key, nonce, count, len(b))
	for i := range l {
		l[i] ^= b[i]
	}
	return l
}

// P9.1: the quarter rounds of RFC 8439, 2.1.1 and 2.2.1.
func TestKnownQuarters(t *testing.T) {
	for _, c := range []struct{ in, out row }{
		{row{0x11111111, 0x01020304, 0x9b8d6f43, 0x01234567}, row{0xea2a92f4, 0xcb1cf8ce, 0x4581472e, 0x5881c4bb}},
		{row{0x516461b1, 0x2a5f714c, 0x53372767, 0x3d631689}, row{0xbdb886dc, 0xcfacafd2, 0xe46bea80, 0xccc07c79}},
		{row{}, row{}},
	} {
		a, b, c2, d := chacha.Quarter(c.in[0], c.in[1], c.in[2], c.in[3])
		if got := (row{a, b, c2, d}); got != c.out {
			t.Errorf("Quarter(%x) = %x, not %x", c.in, got, c.out)
		}
	}
}

// P9.1: words of which sums begin again at 0, in all places, and any words.
func TestQuarters(t *testing.T) {
	edges := []uint32{0, 1, 2, 0xffff, 0x10000, 0x7fffffff, 0x80000000, 0xfffffffe, 0xffffffff}
	var l []row
	for _, a := range edges {
		for _, b := range edges {
			for _, c := range edges {
				for _, d := range edges {
					l = append(l, row{a, b, c, d})
				}
			}
		}
	}
	draws := newDraw(1)
	for range 1000 {
		x, y := draws.Uint64(), draws.Uint64()
		l = append(l, row{uint32(x), uint32(x >> 32), uint32(y), uint32(y >> 32)})
	}
	for _, in := range l {
		a, b, c, d := quarters(row{in[0]}, row{in[1]}, row{in[2]}, row{in[3]})
		want := row{a[0], b[0], c[0], d[0]}
		a[0], b[0], c[0], d[0] = chacha.Quarter(in[0], in[1], in[2], in[3])
		if got := (row{a[0], b[0], c[0], d[0]}); got != want {
			t.Fatalf("Quarter(%x) = %x, not %x", in, got, want)
		}
	}
}

// P9.1: the blocks of RFC 8439, 2.3.2 and A.1, and the last block of the key and nonce of 2.3.2.
func TestKnownBlocks(t *testing.T) {
	var ascending [32]byte
	for i := range ascending {
		ascending[i] = byte(i)
	}
	for _, c := range []struct {
		key   [32]byte
		nonce [12]byte
		count uint32
		block string
	}{
		{ascending, [12]byte{3: 9, 7: 0x4a}, 1, "10f1e7e4d13b5915500fdd1fa32071c4c7d1f4c733c068030422aa9ac3d46c4ed2826446079faa0914c2d705d98b02a2b5129cd1de164eb9cbd083e8a2503c4e"},
		{ascending, [12]byte{3: 9, 7: 0x4a}, 1<<32 - 1, "ff2941b8d740f6cbb50936bf997ebd5218cb108dc53f41c64841d0218167430ca03b770ca74ccb642a28194d1dedd2ed13151e25ec5d7faeb6d060bfb7e6b146"},
		{[32]byte{}, [12]byte{}, 0, "76b8e0ada0f13d90405d6ae55386bd28bdd219b8a08ded1aa836efcc8b770dc7da41597c5157488d7724e03fb8d84a376a43b8f41518a11cc387b669b2ee6586"},
		{[32]byte{}, [12]byte{}, 1, "9f07e7be5551387a98ba977c732d080dcb0f29a048e3656912c6533e32ee7aed29b721769ce64e43d57133b074d839d531ed1f28510afb45ace10a1f4b794d6f"},
		{[32]byte{31: 1}, [12]byte{}, 1, "3aeb5224ecf849929b9d828db1ced4dd832025e8018b8160b82284f3c949aa5a8eca00bbb4a73bdad192b5c42f73f2fd4e273644c8b36125a64addeb006c13a0"},
		{[32]byte{1: 0xff}, [12]byte{}, 2, "72d54dfbf12ec44b362692df94137f328fea8da73990265ec1bbbea1ae9af0ca13b25aa26cb4a648cb9b9d1be65b2c0924a66c54d545ec1b7374f4872e99f096"},
		{[32]byte{}, [12]byte{11: 2}, 0, "c2c64d378cd536374ae204b9ef933fcd1a8b2288b3dfa49672ab765b54ee27c78a970e0e955c14f3a88e741b97c286f75f8fc299e8148362fa198a39531bed6d"},
	} {
		checkBlock(t, c.key, c.nonce, c.count, bytesOf(t, c.block))
	}
}

// P9.1: each bit of a key, of a nonce and of a counter, set alone and turned.
func TestBlockOfEachBit(t *testing.T) {
	d := newDraw(2)
	for _, full := range []bool{false, true} {
		var in [48]byte
		if full {
			in = [48]byte(d.bytes(48))
		}
		for bit := range 8 * len(in) {
			in[bit/8] ^= 1 << (bit % 8)
			key, nonce, count := [32]byte(in[:32]), [12]byte(in[32:44]), binary.BigEndian.Uint32(in[44:])
			checkBlock(t, key, nonce, count, block(key, nonce, count))
			in[bit/8] ^= 1 << (bit % 8)
		}
	}
}

// P9.1: any keys and nonces, with all kinds of counters, and with ones alone.
func TestBlocks(t *testing.T) {
	d := newDraw(3)
	ones := bytes.Repeat([]byte{0xff}, 32)
	for _, count := range counts() {
		key, nonce := d.key(), d.nonce()
		checkBlock(t, key, nonce, count, block(key, nonce, count))
		key, nonce = [32]byte(ones), [12]byte(ones[:12])
		checkBlock(t, key, nonce, count, block(key, nonce, count))
	}
}

// P9.1: the key stream from each counter is the blocks, and can be left behind each byte of the first three, and at once.
func TestStream(t *testing.T) {
	d := newDraw(4)
	for _, count := range counts() {
		key, nonce := d.key(), d.nonce()
		size := int(min(3, 1<<32-uint64(count))) * 64
		want := keyStream(key, nonce, count, size)
		stream := chacha.Stream(key, nonce, count) // gone through again and again
		for stop := 1; stop <= size; stop++ {
			var got []byte
			stream(func(k byte) bool {
				got = append(got, k)
				return len(got) != stop
			})
			if !bytes.Equal(got, want[:stop]) {
				t.Fatalf("from block %d, left behind %d bytes: %x, not %x", count, stop, got, want[:stop])
			}
		}
	}
}

// P9.1: the key stream ends behind the block with the greatest counter, and does not begin again.
func TestEndOfStream(t *testing.T) {
	d := newDraw(5)
	key, nonce := d.key(), d.nonce()
	for _, left := range []int{1, 2, 3, 4, 20, 255, 256, 257, 1000} {
		count := uint32(1<<32 - left)
		var got []byte
		for k := range chacha.Stream(key, nonce, count) {
			got = append(got, k)
			if len(got) > 64*left { // a stream that began again would not end
				break
			}
		}
		if !bytes.Equal(got, keyStream(key, nonce, count, 64*left)) {
			t.Errorf("from block %d, the stream has %d bytes, or others", count, len(got))
		}
	}
}

// P9.1: streams that are gone through side by side do not disturb each other, even those of one range.
func TestStreamsSideBySide(t *testing.T) {
	d := newDraw(6)
	key, nonce, other := d.key(), d.nonce(), d.nonce()
	one, two := keyStream(key, nonce, 7, 300), keyStream(key, other, 8, 300)
	stream := chacha.Stream(key, nonce, 7)
	a, stopA := iter.Pull(stream)
	defer stopA()
	b, stopB := iter.Pull(stream)
	defer stopB()
	c, stopC := iter.Pull(chacha.Stream(key, other, 8))
	defer stopC()
	for range 50 { // b is ahead of a from here on
		b()
	}
	for i := range 250 {
		x, okX := a()
		y, okY := b()
		z, okZ := c()
		if x != one[i] || y != one[i+50] || z != two[i] || !okX || !okY || !okZ {
			t.Fatalf("byte %d: %x, %x, %x", i, x, y, z)
		}
	}
}

// P9.2: the texts of RFC 8439, 2.4.2 and A.2.
func TestKnownTexts(t *testing.T) {
	for _, c := range []struct {
		key, nonce   string
		count        uint32
		text, hidden string
	}{
		{
			"000102030405060708090a0b0c0d0e0f101112131415161718191a1b1c1d1e1f", "000000000000004a00000000", 1,
			"Ladies and Gentlemen of the class of '99: If I could offer you only one tip for the future, sunscreen would be it.",
			"6e2e359a2568f98041ba0728dd0d6981e97e7aec1d4360c20a27afccfd9fae0bf91b65c5524733ab8f593dabcd62b3571639d624e65152ab8f530c359f0861d807ca0dbf500d6a6156a38e088a22b65e52bc514d16ccf806818ce91ab77937365af90bbf74a35be6b40b8eedf2785e42874d",
		},
		{
			"0000000000000000000000000000000000000000000000000000000000000001", "000000000000000000000002", 1,
			`Any submission to the IETF intended by the Contributor for publication as all or part of an IETF Internet-Draft or RFC and any statement made within the context of an IETF activity is considered an "IETF Contribution". Such statements include oral statements in IETF sessions, as well as written and electronic communications made at any time or place, which are addressed to`,
			"a3fbf07df3fa2fde4f376ca23e82737041605d9f4f4f57bd8cff2c1d4b7955ec2a97948bd3722915c8f3d337f7d370050e9e96d647b7c39f56e031ca5eb6250d4042e02785ececfa4b4bb5e8ead0440e20b6e8db09d881a7c6132f420e52795042bdfa7773d8a9051447b3291ce1411c680465552aa6c405b7764d5e87bea85ad00f8449ed8f72d0d662ab052691ca66424bc86d2df80ea41f43abf937d3259dc4b2d0dfb48a6c9139ddd7f76966e928e635553ba76c5c879d7b35d49eb2e62b0871cdac638939e25e8a1e0ef9d5280fa8ca328b351c3c765989cbcf3daa8b6ccc3aaf9f3979c92b3720fc88dc95ed84a1be059c6499b9fda236e7e818b04b0bc39c1e876b193bfe5569753f88128cc08aaa9b63d1a16f80ef2554d7189c411f5869ca52c5b83fa36ff216b9c1d30062bebcfd2dc5bce0911934fda79a86f6e698ced759c3ff9b6477338f3da4f9cd8514ea9982ccafb341b2384dd902f3d1ab7ac61dd29c6f21ba5b862f3730e37cfdc4fd806c22f221",
		},
		{
			"1c9240a5eb55d38af333888604f6b5f0473917c1402b80099dca5cbc207075c0", "000000000000000000000002", 42,
			"'Twas brillig, and the slithy toves\nDid gyre and gimble in the wabe:\nAll mimsy were the borogoves,\nAnd the mome raths outgrabe.",
			"62e6347f95ed87a45ffae7426f27a1df5fb69110044c0d73118effa95b01e5cf166d3df2d721caf9b21e5fb14c616871fd84c54f9d65b283196c7fe4f60553ebf39c6402c42234e32a356b3e764312a61a5532055716ead6962568f87d3f3f7704c6a8d1bcd1bf4d50d6154b6da731b187b58dfd728afa36757a797ac188d1",
		},
	} {
		key, nonce := [32]byte(bytesOf(t, c.key)), [12]byte(bytesOf(t, c.nonce))
		checkHide(t, key, nonce, c.count, []byte(c.text), bytesOf(t, c.hidden))
	}
}

// P9.2: each length about the first blocks, and each kind of bytes.
func TestHideOfEachLength(t *testing.T) {
	d := newDraw(7)
	for size := range 260 {
		key, nonce, count := d.key(), d.nonce(), uint32(d.Uint64())>>1
		for _, b := range [][]byte{make([]byte, size), bytes.Repeat([]byte{0xff}, size), d.bytes(size)} {
			checkHide(t, key, nonce, count, b, hidden(key, nonce, count, b))
		}
	}
	checkHide(t, d.key(), d.nonce(), 0, nil, nil)
}

// P9.2: MaxText bytes, and more, from the first block and from the last one from which there is room for them.
func TestLimit(t *testing.T) {
	d := newDraw(8)
	key, nonce, b := d.key(), d.nonce(), d.bytes(api.MaxText)
	const room = api.MaxText / 64
	for _, count := range []uint32{0, 1, 1<<32 - room - 1, 1<<32 - room} {
		checkHide(t, key, nonce, count, b, hidden(key, nonce, count, b))
		checkHide(t, key, nonce, count, b[1:], hidden(key, nonce, count, b[1:]))
		checkLimit(t, count, api.MaxText+1)
		checkLimit(t, count, api.MaxText+64)
		checkLimit(t, count, 2*api.MaxText)
	}
	short := b[:api.MaxText-64]
	checkHide(t, key, nonce, 1<<32-room+1, short, hidden(key, nonce, 1<<32-room+1, short))
	checkLimit(t, 1<<32-room+1, len(short)+1)
	checkLimit(t, 1<<32-room+1, api.MaxText)
	checkLimit(t, 1<<32-1, api.MaxText+1)
}

// P9.2: bytes up to the end of the key stream, none at all there, and one more.
func TestHideUpToTheEnd(t *testing.T) {
	d := newDraw(9)
	key, nonce := d.key(), d.nonce()
	for left := 1; left <= 20; left++ {
		count := uint32(1<<32 - left)
		for _, size := range []int{0, 1, 63, 64, 64*left - 1, 64 * left} {
			b := d.bytes(size)
			checkHide(t, key, nonce, count, b, hidden(key, nonce, count, b))
		}
		for _, size := range []int{64*left + 1, 64*left + 64, 64*left + 65, api.MaxText, api.MaxText + 1} {
			checkLimit(t, count, size)
		}
	}
}

// P9.2: bytes hidden in parts, from the counters of these, are the parts of the hidden bytes.
func TestParts(t *testing.T) {
	d := newDraw(10)
	key, nonce, b := d.key(), d.nonce(), d.bytes(1000)
	for _, count := range []uint32{0, 1, 0xff, 0xffff, 1<<32 - 16} {
		whole, _ := chacha.Hide(key, nonce, count, b)
		for at := 0; at < len(b); at += 64 {
			from := count + uint32(at/64)
			checkHide(t, key, nonce, from, b[at:], whole[at:])
			checkHide(t, key, nonce, from, b[at:at+1], whole[at:at+1])
		}
	}
}

// P9.2: what is hidden shares no memory with what it was made of, and bytes behind that stay as they are.
func TestOwnMemory(t *testing.T) {
	d := newDraw(11)
	whole := d.bytes(300)
	before := bytes.Clone(whole)
	for size := range 200 {
		h, _ := chacha.Hide(d.key(), d.nonce(), 1, whole[:size])
		clear(h[:cap(h)])
	}
	if !bytes.Equal(whole, before) {
		t.Error("bytes that were hidden, or bytes behind them, were changed")
	}
}

// P9.3: encrypting twice yields the original bytes, and encrypting once others.
func TestTwice(t *testing.T) {
	d := newDraw(12)
	for _, size := range []int{0, 1, 63, 64, 65, 127, 128, 129, 1000, 4096, api.MaxText} {
		for _, count := range []uint32{0, 1, 1 << 31, 1<<32 - api.MaxText/64} {
			key, nonce, b := d.key(), d.nonce(), d.bytes(size)
			h, e := chacha.Hide(key, nonce, count, b)
			if e != api.OK || len(h) != size || size > 60 && bytes.Equal(h, b) {
				t.Errorf("Hide of %d bytes from block %d = %d bytes, %d", size, count, len(h), e)
			}
			checkHide(t, key, nonce, count, h, b)
		}
	}
}
