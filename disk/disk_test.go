package disk_test

import (
	"bytes"
	"math"
	"math/rand/v2"
	"slices"
	"testing"

	"bastille/api"
	"bastille/disk"
)

// A model keeps every write there ever was. Its calls are told apart from a disk's by nothing but how they find their answers.
type model struct {
	size    int
	writes  []written
	limited bool // there is a fuse
	left    int  // how many more writes and flushes succeed, if there is one
	off     bool
	lives   int
}

// A written is a write, and how many bytes of it were kept when it was flushed or the power failed.
type written struct {
	n       int
	data    []byte
	pending bool
	kept    int
}

func (m *model) Write(n int, b []byte) api.Errno {
	switch {
	case m.off:
		return api.ErrPower
	case n < 0 || n >= m.size:
		return api.ErrDisk
	case len(b) != 64:
		return api.ErrArg
	}
	m.writes = append(m.writes, written{n, bytes.Clone(b), true, 64})
	return m.count()
}

func (m *model) Read(n int) ([]byte, api.Errno) {
	switch {
	case m.off:
		return nil, api.ErrPower
	case n < 0 || n >= m.size:
		return nil, api.ErrDisk
	}
	b := make([]byte, 64)
	for i := range b {
		b[i] = m.byteAt(n, i)
	}
	return b, api.OK
}

// byteAt is what the last write says of which this byte was kept.
func (m *model) byteAt(n, i int) byte {
	for _, w := range slices.Backward(m.writes) {
		if w.n == n && i < w.kept {
			return w.data[i]
		}
	}
	return 0
}

func (m *model) Flush() api.Errno {
	if m.off {
		return api.ErrPower
	}
	if e := m.count(); e != api.OK {
		return e
	}
	for i := range m.writes {
		m.writes[i].pending = false
	}
	return api.OK
}

// count is the error of a write or a flush, by the fuse.
func (m *model) count() api.Errno {
	if !m.limited {
		return api.OK
	}
	if m.left == 0 {
		m.off = true
		return api.ErrPower
	}
	m.left--
	return api.OK
}

func (m *model) Fuse(n int) { m.limited, m.left = n >= 0, n }

func (m *model) Crash(choices []byte) api.Errno {
	index := 0
	for i := range m.writes {
		w := &m.writes[i]
		if !w.pending {
			continue
		}
		w.pending, w.kept = false, 0
		if index < len(choices) {
			w.kept = int(choices[index])
		}
		index++
	}
	m.off, m.limited = false, false
	m.lives++
	return api.OK
}

func (m *model) Clone() *model {
	c := *m
	c.writes = slices.Clone(m.writes)
	return &c
}

func (m *model) Size() int { return m.size }

func (m *model) Waiting() int {
	n := 0
	for _, w := range m.writes {
		if w.pending {
			n++
		}
	}
	return n
}

func (m *model) Lives() int { return m.lives }

func (m *model) Off() bool { return m.off }

// newDisk is a disk of n sectors.
func newDisk(t *testing.T, n int) *disk.Disk {
	t.Helper()
	d, e := disk.New(n)
	if e != api.OK || d == nil {
		t.Fatalf("New(%d) = %v, %d", n, d, e)
	}
	return d
}

// full is a sector's bytes, all of them the same.
func full(b byte) []byte { return bytes.Repeat([]byte{b}, api.Sector) }

// drawn is a sector's bytes by lot.
func drawn(r *rand.Rand) []byte {
	b := make([]byte, api.Sector)
	for i := range b {
		b[i] = byte(r.Uint32())
	}
	return b
}

// checkErr wants an error.
func checkErr(t *testing.T, what string, e, want api.Errno) {
	t.Helper()
	if e != want {
		t.Errorf("%s = %d, not %d", what, e, want)
	}
}

// checkRead wants a sector to have bytes.
func checkRead(t *testing.T, d *disk.Disk, n int, want []byte) {
	t.Helper()
	if b, e := d.Read(n); e != api.OK || !bytes.Equal(b, want) {
		t.Errorf("Read(%d) = %x, %d, not %x", n, b, e, want)
	}
}

// checkNoRead wants an error, and nothing beside it.
func checkNoRead(t *testing.T, d *disk.Disk, n int, want api.Errno) {
	t.Helper()
	if b, e := d.Read(n); e != want || b != nil {
		t.Errorf("Read(%d) = %x, %d, not %d", n, b, e, want)
	}
}

// checkTold wants what a disk tells of itself.
func checkTold(t *testing.T, d *disk.Disk, size, waiting, lives int, off bool) {
	t.Helper()
	if d.Size() != size || d.Waiting() != waiting || d.Lives() != lives || d.Off() != off {
		t.Errorf("Size, Waiting, Lives, Off = %d, %d, %d, %t, not %d, %d, %d, %t", d.Size(), d.Waiting(), d.Lives(), d.Off(), size, waiting, lives, off)
	}
}

// checkSame wants a disk and a model to be told apart by no call that changes nothing.
func checkSame(t *testing.T, d *disk.Disk, m *model) {
	t.Helper()
	checkTold(t, d, m.Size(), m.Waiting(), m.Lives(), m.Off())
	for n := -1; n <= m.Size(); n++ {
		b, e := d.Read(n)
		want, wantErr := m.Read(n)
		if e != wantErr || !bytes.Equal(b, want) {
			t.Errorf("Read(%d) = %x, %d, not %x, %d", n, b, e, want, wantErr)
		}
	}
}

// P17.1, P17.3: a new disk has sectors of zero bytes, nothing is pending, no life has ended, the power is on.
func TestNew(t *testing.T) {
	for _, n := range []int{1, 2, 3, 100, api.MaxSectors - 1, api.MaxSectors} {
		d := newDisk(t, n)
		checkTold(t, d, n, 0, 0, false)
		for i := range n {
			checkRead(t, d, i, full(0))
		}
		checkNoRead(t, d, n, api.ErrDisk)
	}
}

// P17.1: there are no other sizes.
func TestNewError(t *testing.T) {
	for _, n := range []int{0, -1, api.MaxSectors + 1, 1 << 32, 1<<32 + 1, math.MinInt, math.MaxInt} {
		if d, e := disk.New(n); e != api.ErrArg || d != nil {
			t.Errorf("New(%d) = %v, %d", n, d, e)
		}
	}
}

// P17.1: a new disk has no fuse: the power does not fail.
func TestNoFuse(t *testing.T) {
	d := newDisk(t, 1)
	for i := range 5000 {
		checkErr(t, "Write", d.Write(0, full(byte(i))), api.OK)
		checkErr(t, "Flush", d.Flush(), api.OK)
	}
	checkTold(t, d, 1, 0, 0, false)
}

// P17.1: what is written is read, in every sector and in no other one, ahead of a flush and behind it.
func TestWrite(t *testing.T) {
	for _, size := range []int{1, 2, 7, api.MaxSectors} {
		for _, n := range []int{0, size / 2, size - 1} {
			d := newDisk(t, size)
			checkErr(t, "Write", d.Write(n, full(7)), api.OK)
			checkTold(t, d, size, 1, 0, false)
			checkRead(t, d, n, full(7))
			checkErr(t, "Flush", d.Flush(), api.OK)
			checkTold(t, d, size, 0, 0, false)
			for i := range size {
				if i != n {
					checkRead(t, d, i, full(0))
				}
			}
			checkRead(t, d, n, full(7))
		}
	}
}

// P17.1: each byte of a sector is written at its place.
func TestWritePlaces(t *testing.T) {
	d := newDisk(t, 2)
	b := make([]byte, api.Sector)
	for i := range b {
		b[i] = byte(i + 1)
	}
	checkErr(t, "Write", d.Write(1, b), api.OK)
	checkRead(t, d, 1, b)
	checkErr(t, "Flush", d.Flush(), api.OK)
	checkErr(t, "Crash", d.Crash(nil), api.OK)
	checkRead(t, d, 1, b)
	checkRead(t, d, 0, full(0))
}

// P17.1: each write is pending, also one of a sector that was written already, or of the bytes that it has; the last one is read.
func TestWriteAgain(t *testing.T) {
	d := newDisk(t, 2)
	for i := range 1000 {
		b := full(byte(i / 2))
		checkErr(t, "Write", d.Write(1, b), api.OK)
		checkRead(t, d, 1, b)
		checkTold(t, d, 2, i+1, 0, false)
	}
	checkErr(t, "Flush", d.Flush(), api.OK)
	checkTold(t, d, 2, 0, 0, false)
	checkErr(t, "Crash", d.Crash(nil), api.OK)
	checkRead(t, d, 1, full(999/2%256))
}

// P17.1: there are no sectors beside a disk's, and no other sizes of a sector; such a call changes nothing.
func TestErrors(t *testing.T) {
	for _, size := range []int{1, 3, api.MaxSectors} {
		d := newDisk(t, size)
		checkErr(t, "Write", d.Write(size-1, full(9)), api.OK)
		for _, n := range []int{-1, size, size + 1, 1 << 32, math.MinInt, math.MaxInt} {
			checkErr(t, "Write of no sector", d.Write(n, full(1)), api.ErrDisk)
			checkNoRead(t, d, n, api.ErrDisk)
		}
		for _, l := range []int{0, 1, 63, 65, 128} {
			checkErr(t, "Write of another size", d.Write(size-1, make([]byte, l)), api.ErrArg)
		}
		checkErr(t, "Write of nothing", d.Write(size-1, nil), api.ErrArg)
		checkTold(t, d, size, 1, 0, false)
		checkRead(t, d, size-1, full(9))
	}
}

// P17.1: the errors come in the order of the chapter: the power, the sector, the bytes.
func TestErrorOrder(t *testing.T) {
	d := newDisk(t, 2)
	checkErr(t, "Write", d.Write(2, nil), api.ErrDisk)
	checkErr(t, "Write", d.Write(-1, full(1)[:63]), api.ErrDisk)
	d.Fuse(0)
	checkErr(t, "Flush", d.Flush(), api.ErrPower)
	checkErr(t, "Write without power", d.Write(0, full(1)), api.ErrPower)
	checkErr(t, "Write without power", d.Write(2, full(1)), api.ErrPower)
	checkErr(t, "Write without power", d.Write(2, nil), api.ErrPower)
	checkErr(t, "Write without power", d.Write(0, nil), api.ErrPower)
	checkNoRead(t, d, 0, api.ErrPower)
	checkNoRead(t, d, 2, api.ErrPower)
	checkNoRead(t, d, -1, api.ErrPower)
	checkErr(t, "Flush without power", d.Flush(), api.ErrPower)
	checkTold(t, d, 2, 0, 0, true)
	checkErr(t, "Crash", d.Crash(nil), api.OK)
	checkRead(t, d, 0, full(0))
}

// P17.1, P17.2: with a fuse of n, n more writes and flushes succeed. The write at which the power fails is pending nevertheless.
func TestFuseWrite(t *testing.T) {
	for fuse := range 12 {
		d := newDisk(t, 20)
		d.Fuse(fuse)
		for i := range fuse {
			checkErr(t, "Write", d.Write(i, full(1)), api.OK)
			checkTold(t, d, 20, i+1, 0, false)
		}
		checkErr(t, "Write at the fuse", d.Write(fuse, full(1)), api.ErrPower)
		checkTold(t, d, 20, fuse+1, 0, true)
		checkErr(t, "Write behind the fuse", d.Write(fuse+1, full(1)), api.ErrPower)
		checkErr(t, "Flush behind the fuse", d.Flush(), api.ErrPower)
		checkTold(t, d, 20, fuse+1, 0, true)
		checkErr(t, "Crash", d.Crash(full(64)), api.OK)
		checkTold(t, d, 20, 0, 1, false)
		for i := range 20 {
			want := full(0)
			if i <= fuse {
				want = full(1)
			}
			checkRead(t, d, i, want)
		}
	}
}

// P17.1, P17.2: the flush at which the power fails is not done: the writes remain pending.
func TestFuseFlush(t *testing.T) {
	for fuse := range 12 {
		for _, choice := range []int{0, 5, 64} {
			d := newDisk(t, 20)
			d.Fuse(fuse)
			for i := range fuse {
				checkErr(t, "Write", d.Write(i, full(1)), api.OK)
			}
			checkErr(t, "Flush at the fuse", d.Flush(), api.ErrPower)
			checkTold(t, d, 20, fuse, 0, true)
			checkErr(t, "Crash", d.Crash(full(byte(choice))), api.OK)
			checkTold(t, d, 20, 0, 1, false)
			for i := range 20 {
				want := full(0)
				if i < fuse {
					copy(want, full(1)[:choice])
				}
				checkRead(t, d, i, want)
			}
		}
	}
}

// P17.2: flushes count as writes do, also those without anything pending.
func TestFuseCountsFlushes(t *testing.T) {
	d := newDisk(t, 3)
	d.Fuse(4)
	checkErr(t, "Flush", d.Flush(), api.OK)
	checkErr(t, "Write", d.Write(0, full(1)), api.OK)
	checkErr(t, "Flush", d.Flush(), api.OK)
	checkErr(t, "Flush", d.Flush(), api.OK)
	checkErr(t, "Write", d.Write(1, full(1)), api.ErrPower)
	checkErr(t, "Crash", d.Crash(nil), api.OK)
	checkRead(t, d, 0, full(1))
	checkRead(t, d, 1, full(0))
}

// P17.2: what is rejected for another reason does not count, nor does a read; also right at the fuse.
func TestFuseRejected(t *testing.T) {
	d := newDisk(t, 2)
	d.Fuse(2)
	for left := 2; left >= 0; left-- {
		for range 5 {
			checkErr(t, "Write of no sector", d.Write(2, full(1)), api.ErrDisk)
			checkErr(t, "Write of no sector", d.Write(-1, full(1)), api.ErrDisk)
			checkErr(t, "Write of another size", d.Write(0, full(1)[1:]), api.ErrArg)
			checkRead(t, d, 0, full(byte(2-left)))
			checkNoRead(t, d, 2, api.ErrDisk)
		}
		checkTold(t, d, 2, 2-left, 0, false)
		if left > 0 {
			checkErr(t, "Write", d.Write(0, full(byte(3-left))), api.OK)
		}
	}
	checkErr(t, "Write at the fuse", d.Write(0, full(3)), api.ErrPower)
}

// P17.2: a fuse replaces the one that there was, longer or shorter; the greatest one does not burn down.
func TestFuseReplaced(t *testing.T) {
	d := newDisk(t, 1)
	for _, fuses := range [][2]int{{0, 3}, {3, 0}, {1, 1}, {5, 2}, {math.MaxInt, 1}, {-1, 1}, {math.MinInt, 0}} {
		d.Fuse(fuses[0])
		d.Fuse(fuses[1])
		for range fuses[1] {
			checkErr(t, "Write", d.Write(0, full(1)), api.OK)
		}
		checkErr(t, "Write at the fuse", d.Write(0, full(1)), api.ErrPower)
		checkErr(t, "Crash", d.Crash(nil), api.OK)
	}
	d.Fuse(2)
	checkErr(t, "Write", d.Write(0, full(1)), api.OK)
	d.Fuse(2)
	checkErr(t, "Write", d.Write(0, full(1)), api.OK)
	checkErr(t, "Write", d.Write(0, full(1)), api.OK)
	d.Fuse(math.MaxInt)
	for range 1000 {
		checkErr(t, "Write", d.Write(0, full(1)), api.OK)
	}
}

// P17.2: a negative number removes the fuse.
func TestFuseRemoved(t *testing.T) {
	for _, n := range []int{-1, -2, -1 << 32, math.MinInt} {
		for _, fuse := range []int{0, 1, 5} {
			d := newDisk(t, 1)
			d.Fuse(fuse)
			d.Fuse(n)
			for range 10 {
				checkErr(t, "Write", d.Write(0, full(1)), api.OK)
				checkErr(t, "Flush", d.Flush(), api.OK)
			}
			checkTold(t, d, 1, 0, 0, false)
		}
	}
}

// P17.2: no fuse, and nothing but a crash, brings the power back; a fuse that was laid without power is gone after the crash.
func TestFuseWithoutPower(t *testing.T) {
	for _, n := range []int{-1, 0, 3, math.MaxInt} {
		d := newDisk(t, 1)
		d.Fuse(0)
		checkErr(t, "Flush", d.Flush(), api.ErrPower)
		d.Fuse(n)
		checkErr(t, "Write", d.Write(0, full(1)), api.ErrPower)
		checkErr(t, "Flush", d.Flush(), api.ErrPower)
		checkTold(t, d, 1, 0, 0, true)
		checkErr(t, "Crash", d.Crash(nil), api.OK)
		for range 10 {
			checkErr(t, "Write", d.Write(0, full(1)), api.OK)
		}
	}
}

// P17.2: a crash removes the fuse, burnt or not.
func TestCrashRemovesFuse(t *testing.T) {
	for _, fuse := range []int{0, 1, 2, 7} {
		d := newDisk(t, 1)
		d.Fuse(fuse)
		checkErr(t, "Crash", d.Crash(nil), api.OK)
		for range 10 {
			checkErr(t, "Write", d.Write(0, full(1)), api.OK)
			checkErr(t, "Flush", d.Flush(), api.OK)
		}
		checkTold(t, d, 1, 0, 1, false)
	}
}

// P17.2: of one pending write the first bytes are kept, as many as its choice says; with each choice that a byte can be.
func TestCrashChoice(t *testing.T) {
	for choice := range 256 {
		for _, flushed := range []bool{false, true} {
			d := newDisk(t, 3)
			old := full(0)
			if flushed {
				old = full(5)
				checkErr(t, "Write", d.Write(1, old), api.OK)
				checkErr(t, "Flush", d.Flush(), api.OK)
			}
			checkErr(t, "Write", d.Write(1, full(6)), api.OK)
			checkErr(t, "Crash", d.Crash([]byte{byte(choice)}), api.OK)
			kept := min(choice, 64)
			checkRead(t, d, 1, append(full(6)[:kept:kept], old[kept:]...))
			checkRead(t, d, 0, full(0))
			checkRead(t, d, 2, full(0))
			checkTold(t, d, 3, 0, 1, false)
		}
	}
}

// P17.2: of two pending writes of one sector, each is kept as its choice says, the later one above what was kept of the earlier one.
func TestCrashTwice(t *testing.T) {
	for first := range 67 {
		for second := range 67 {
			d := newDisk(t, 1)
			checkErr(t, "Write", d.Write(0, full(1)), api.OK)
			checkErr(t, "Write", d.Write(0, full(2)), api.OK)
			checkErr(t, "Crash", d.Crash([]byte{byte(first), byte(second)}), api.OK)
			want := full(0)
			copy(want, full(1)[:min(first, 64)])
			copy(want, full(2)[:min(second, 64)])
			checkRead(t, d, 0, want)
		}
	}
}

// P17.2: choices go by the order of the writes, not of the sectors; writes without a choice are lost, choices without a write are nothing.
func TestCrashOrder(t *testing.T) {
	for many := range 8 {
		d := newDisk(t, 4)
		for i, n := range []int{3, 0, 2, 1} {
			checkErr(t, "Write", d.Write(n, full(byte(i+1))), api.OK)
		}
		choices := []byte{40, 10, 64, 1, 64, 64, 64, 64}[:many]
		checkErr(t, "Crash", d.Crash(choices), api.OK)
		for i, n := range []int{3, 0, 2, 1} {
			want := full(0)
			if i < many {
				copy(want, full(byte(i + 1))[:choices[i]])
			}
			checkRead(t, d, n, want)
		}
		checkTold(t, d, 4, 0, 1, false)
	}
}

// P17.2: choices are of the writes that are pending: neither of those that have been flushed, nor of those of a life that has ended.
func TestCrashPending(t *testing.T) {
	d := newDisk(t, 3)
	checkErr(t, "Write", d.Write(0, full(1)), api.OK)
	checkErr(t, "Flush", d.Flush(), api.OK)
	checkErr(t, "Write", d.Write(1, full(2)), api.OK)
	checkErr(t, "Crash", d.Crash([]byte{7}), api.OK)
	checkErr(t, "Write", d.Write(2, full(3)), api.OK)
	checkErr(t, "Crash", d.Crash([]byte{9, 64, 64}), api.OK)
	checkErr(t, "Crash", d.Crash([]byte{64, 64, 64}), api.OK)
	checkRead(t, d, 0, full(1))
	checkRead(t, d, 1, append(full(2)[:7:7], full(0)[7:]...))
	checkRead(t, d, 2, append(full(3)[:9:9], full(0)[9:]...))
	checkTold(t, d, 3, 0, 3, false)
}

// P17.2, P17.3: each crash ends a life, with the power on or off; nothing else does.
func TestLives(t *testing.T) {
	d := newDisk(t, 1)
	for i := range 300 {
		if i%2 == 0 {
			d.Fuse(0)
			checkErr(t, "Write at the fuse", d.Write(0, full(1)), api.ErrPower)
			checkTold(t, d, 1, 1, i, true)
		}
		checkErr(t, "Crash", d.Crash(nil), api.OK)
		checkTold(t, d, 1, 0, i+1, false)
	}
}

// P17.4: what has been flushed remains, through crashes, fuses and writes of other sectors, until it is overwritten; where the overwriting is kept in part, so is it.
func TestFlushed(t *testing.T) {
	d := newDisk(t, 3)
	checkErr(t, "Write", d.Write(1, full(8)), api.OK)
	checkErr(t, "Flush", d.Flush(), api.OK)
	for i := range 100 {
		checkErr(t, "Write", d.Write(i%2*2, full(byte(i))), api.OK)
		switch i % 4 {
		case 0:
			checkErr(t, "Flush", d.Flush(), api.OK)
		case 1:
			d.Fuse(0)
			checkErr(t, "Flush at the fuse", d.Flush(), api.ErrPower)
		}
		checkErr(t, "Crash", d.Crash([]byte{byte(i), 64, 64}), api.OK)
		checkRead(t, d, 1, full(8))
	}
	for i := range 65 {
		checkErr(t, "Write", d.Write(1, full(9)), api.OK)
		checkRead(t, d, 1, full(9))
		checkErr(t, "Crash", d.Crash([]byte{byte(i)}), api.OK)
		checkRead(t, d, 1, append(full(9)[:i:i], full(8)[i:]...))
	}
}

// P17.3: a clone is the same disk, with what is pending, its fuse, its power and its lives, and neither changes with the other.
func TestClone(t *testing.T) {
	d := newDisk(t, 3)
	checkErr(t, "Crash", d.Crash(nil), api.OK)
	checkErr(t, "Write", d.Write(0, full(1)), api.OK)
	checkErr(t, "Flush", d.Flush(), api.OK)
	checkErr(t, "Write", d.Write(1, full(2)), api.OK)
	d.Fuse(1)
	c := d.Clone()
	checkTold(t, c, 3, 1, 1, false)
	checkRead(t, c, 0, full(1))
	checkRead(t, c, 1, full(2))

	checkErr(t, "Write", c.Write(0, full(3)), api.OK)
	checkErr(t, "Write at the fuse", c.Write(2, full(3)), api.ErrPower)
	checkTold(t, c, 3, 3, 1, true)
	checkTold(t, d, 3, 1, 1, false)
	checkRead(t, d, 0, full(1))
	checkRead(t, d, 2, full(0))

	checkErr(t, "Crash", c.Crash([]byte{64, 64, 64}), api.OK)
	checkTold(t, c, 3, 0, 2, false)
	checkRead(t, c, 1, full(2))
	checkErr(t, "Write", d.Write(1, full(4)), api.OK)
	checkErr(t, "Write at the fuse", d.Write(1, full(5)), api.ErrPower)
	off := d.Clone()
	checkTold(t, off, 3, 3, 1, true)
	checkErr(t, "Crash", off.Crash(nil), api.OK)
	checkTold(t, d, 3, 3, 1, true)
	checkErr(t, "Crash", d.Crash([]byte{1, 2}), api.OK)
	checkRead(t, d, 0, full(1))
	checkRead(t, d, 1, append(full(4)[:2:2], full(0)[2:]...))
	checkRead(t, c, 0, full(3))
	checkRead(t, c, 1, full(2))
	checkRead(t, off, 1, full(0))
}

// P17.3: writes that are added to a disk and to its clone do not get in each other's way, at any number of pending ones.
func TestClonePending(t *testing.T) {
	for many := range 40 {
		d := newDisk(t, 50)
		for i := range many {
			checkErr(t, "Write", d.Write(i, full(1)), api.OK)
		}
		c := d.Clone()
		checkErr(t, "Write", d.Write(many, full(2)), api.OK)
		checkErr(t, "Write", c.Write(many+1, full(3)), api.OK)
		checkErr(t, "Crash", d.Crash(full(64)), api.OK)
		checkErr(t, "Crash", c.Crash(full(64)), api.OK)
		checkRead(t, d, many, full(2))
		checkRead(t, d, many+1, full(0))
		checkRead(t, c, many, full(0))
		checkRead(t, c, many+1, full(3))
	}
}

// P17.1, P17.2, P17.3: nothing happens to a disk that no constructor made.
func TestNoDisk(t *testing.T) {
	for _, d := range []*disk.Disk{nil, {}} {
		for range 2 {
			checkErr(t, "Write of no disk", d.Write(0, full(1)), api.ErrNil)
			checkErr(t, "Write of no disk", d.Write(-1, nil), api.ErrNil)
			checkNoRead(t, d, 0, api.ErrNil)
			checkNoRead(t, d, -1, api.ErrNil)
			checkErr(t, "Flush of no disk", d.Flush(), api.ErrNil)
			checkErr(t, "Crash of no disk", d.Crash([]byte{1}), api.ErrNil)
			d.Fuse(0)
			checkTold(t, d, 0, 0, 0, false)
			if c := d.Clone(); c != nil {
				t.Errorf("Clone of no disk = %v", c)
			}
		}
	}
}

// DOC.md, rule 5; LANGUAGE.md, rule 7: what is given is neither changed nor kept, and what is read is the reader's own.
func TestOwnMemory(t *testing.T) {
	d := newDisk(t, 2)
	b := full(1)
	checkErr(t, "Write", d.Write(0, b), api.OK)
	b[0] = 9
	checkRead(t, d, 0, full(1))
	read, _ := d.Read(0)
	read[1] = 9
	checkRead(t, d, 0, full(1))
	choices := []byte{64, 255}
	checkErr(t, "Crash", d.Crash(choices), api.OK)
	checkRead(t, d, 0, full(1))
	if !bytes.Equal(choices, []byte{64, 255}) || b[0] != 9 || !bytes.Equal(b[1:], full(1)[1:]) {
		t.Errorf("what was given is %x and %x now", choices, b)
	}
	read, _ = d.Read(0)
	again, _ := d.Read(0)
	read[0] = 9
	if again[0] != 1 {
		t.Error("two reads share their bytes")
	}
}

// P17.1, P17.2, P17.3, P17.4: calls by lot, on a disk and on a model that keeps every write.
func TestCallsByLot(t *testing.T) {
	for seed := range uint64(60) {
		r := rand.New(rand.NewPCG(seed, 17))
		size := 1 + r.IntN(5)
		d, m := newDisk(t, size), &model{size: size}
		for range 250 {
			call(t, r, d, m)
			checkSame(t, d, m)
			if r.IntN(25) == 0 {
				old, oldModel := d, m
				d, m = d.Clone(), m.Clone()
				call(t, r, old, oldModel)
				checkSame(t, old, oldModel)
				checkSame(t, d, m)
			}
		}
		if t.Failed() {
			t.Fatalf("with seed %d", seed)
		}
	}
}

// call does the same to a disk and to a model, and wants the same answer.
func call(t *testing.T, r *rand.Rand, d *disk.Disk, m *model) {
	t.Helper()
	switch k := r.IntN(20); {
	case k < 10:
		n, b := r.IntN(m.size+2)-1, drawn(r)
		if r.IntN(10) == 0 {
			b = b[1:]
		}
		checkErr(t, "Write", d.Write(n, b), m.Write(n, b))
	case k < 14:
		checkErr(t, "Flush", d.Flush(), m.Flush())
	case k < 17:
		n := r.IntN(12) - 2
		d.Fuse(n)
		m.Fuse(n)
	default:
		choices := make([]byte, r.IntN(12))
		for i := range choices {
			choices[i] = byte(r.IntN(90))
		}
		checkErr(t, "Crash", d.Crash(choices), m.Crash(choices))
	}
}
