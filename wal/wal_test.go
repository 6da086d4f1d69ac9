package wal_test

import (
	"bytes"
	"encoding/binary"
	"hash/crc32"
	"math"
	"math/rand/v2"
	"slices"
	"testing"

	"bastille/api"
	"bastille/disk"
	"bastille/wal"
)

const limit = 1 << 61 // the greatest base

// extremes are numbers that no disk has as a home, and no log as a size.
var extremes = []int{-1, -2, 1 << 32, 1<<32 + 1, math.MinInt, math.MaxInt, math.MaxInt - 1}

// A step is what is done to a disk: a write, or a flush.
type step struct {
	n int // the sector; -1 for a flush
	b []byte
}

var flush = step{n: -1}

// do does steps to a disk, up to an error.
func do(d *disk.Disk, steps []step) api.Errno {
	for _, s := range steps {
		e := api.OK
		if s.n < 0 {
			e = d.Flush()
		} else {
			e = d.Write(s.n, s.b)
		}
		if e != api.OK {
			return e
		}
	}
	return api.OK
}

// full is a sector's bytes, all of them the same.
func full(b byte) []byte { return bytes.Repeat([]byte{b}, api.Sector) }

// rising is a sector's bytes, all of them different.
func rising(b byte) []byte {
	l := make([]byte, api.Sector)
	for i := range l {
		l[i] = b + byte(i)
	}
	return l
}

// slotOf is the bytes of a slot.
func slotOf(base, size int) []byte {
	b := binary.BigEndian.AppendUint64(nil, uint64(base))
	b = binary.BigEndian.AppendUint32(b, uint32(size))
	b = append(b, make([]byte, 44)...)
	return binary.BigEndian.AppendUint64(b, uint64(base))
}

// entryOf is the bytes of an entry.
func entryOf(kind byte, number int, data []byte, stamp int) []byte {
	b := binary.BigEndian.AppendUint32([]byte{kind}, uint32(number))
	b = append(b, data...)
	b = append(b, make([]byte, 52-len(b))...)
	return seal(b, stamp)
}

// seal is the first bytes of an entry, with a checksum and a stamp.
func seal(b []byte, stamp int) []byte {
	last := binary.BigEndian.AppendUint64(nil, uint64(stamp))
	sum := crc32.ChecksumIEEE(slices.Concat(b[:52], last))
	return slices.Concat(binary.BigEndian.AppendUint32(bytes.Clone(b[:52]), sum), last)
}

// entriesOf is the sectors of a transaction, the first of them with a stamp.
func entriesOf(stamp int, w []api.Write) [][]byte {
	var l [][]byte
	for _, x := range w {
		l = append(l, entryOf(1, x.Home, x.Data[:32], stamp+len(l)))
		l = append(l, entryOf(2, x.Home, x.Data[32:], stamp+len(l)))
	}
	return append(l, entryOf(3, len(w), make([]byte, 32), stamp+len(l)))
}

// noteSteps is how a transaction is written from a place on.
func noteSteps(base, place int, w []api.Write) []step {
	var l []step
	for i, b := range entriesOf(base+place, w) {
		l = append(l, step{2 + place + i, b})
	}
	return append(l, flush)
}

// homeSteps is how writes are executed.
func homeSteps(size int, w []api.Write) []step {
	var l []step
	for _, x := range w {
		l = append(l, step{2 + size + x.Home, x.Data})
	}
	return l
}

// raiseSteps is how the base is raised to another one, in a slot.
func raiseSteps(slot, base, size int) []step {
	return []step{flush, {slot, slotOf(base, size)}, flush}
}

// newDisk is a disk of n sectors.
func newDisk(t *testing.T, n int) *disk.Disk {
	t.Helper()
	d, e := disk.New(n)
	if e != api.OK {
		t.Fatalf("New(%d) = %d", n, e)
	}
	return d
}

// laid is a disk of n sectors with these bytes from sector 0 on, all of them flushed.
func laid(t *testing.T, n int, sectors ...[]byte) *disk.Disk {
	t.Helper()
	d := newDisk(t, n)
	for i, b := range sectors {
		checkErr(t, "Write of the disk", d.Write(i, b), api.OK)
	}
	checkErr(t, "Flush of the disk", d.Flush(), api.OK)
	return d
}

// open is the log of a disk.
func open(t *testing.T, d *disk.Disk) *wal.Log {
	t.Helper()
	l, e := wal.Open(d)
	if e != api.OK || l == nil {
		t.Fatalf("Open = %v, %d", l, e)
	}
	return l
}

// newLog is a log of a size, with some homes, opened for the first time.
func newLog(t *testing.T, size, homes int) (*disk.Disk, *wal.Log) {
	t.Helper()
	d := newDisk(t, 2+size+homes)
	checkErr(t, "Format", wal.Format(d, size), api.OK)
	return d, open(t, d)
}

// begin is a transaction of a log.
func begin(t *testing.T, l *wal.Log) *wal.Txn {
	t.Helper()
	x, e := l.Begin()
	if e != api.OK || x == nil {
		t.Fatalf("Begin = %v, %d", x, e)
	}
	return x
}

// checkErr wants an error.
func checkErr(t *testing.T, what string, e, want api.Errno) {
	t.Helper()
	if e != want {
		t.Errorf("%s = %d, not %d", what, e, want)
	}
}

// checkNoOpen wants an error, and nothing beside it.
func checkNoOpen(t *testing.T, what string, d *disk.Disk, want api.Errno) {
	t.Helper()
	if l, e := wal.Open(d); l != nil || e != want {
		t.Errorf("Open of %s = %v, %d, not %d", what, l, e, want)
	}
}

// A reader is a log or a transaction.
type reader interface {
	Read(home int) ([]byte, api.Errno)
}

// checkRead wants a home to have bytes.
func checkRead(t *testing.T, r reader, home int, want []byte) {
	t.Helper()
	if b, e := r.Read(home); e != api.OK || !bytes.Equal(b, want) {
		t.Errorf("Read(%d) = %x, %d, not %x", home, b, e, want)
	}
}

// checkNoRead wants an error, and nothing beside it.
func checkNoRead(t *testing.T, r reader, home int, want api.Errno) {
	t.Helper()
	if b, e := r.Read(home); e != want || b != nil {
		t.Errorf("Read(%d) = %x, %d, not %d", home, b, e, want)
	}
}

// checkTold wants what a log tells of itself.
func checkTold(t *testing.T, l *wal.Log, homes, base, left, commits int) {
	t.Helper()
	if l.Homes() != homes || l.Base() != base || l.Left() != left || l.Commits() != commits {
		t.Errorf("Homes, Base, Left, Commits = %d, %d, %d, %d, not %d, %d, %d, %d", l.Homes(), l.Base(), l.Left(), l.Commits(), homes, base, left, commits)
	}
}

// checkHomes wants the bytes of all homes.
func checkHomes(t *testing.T, l *wal.Log, want [][]byte) {
	t.Helper()
	if l.Homes() != len(want) {
		t.Errorf("Homes = %d, not %d", l.Homes(), len(want))
	}
	for home, b := range want {
		checkRead(t, l, home, b)
	}
}

// checkSector wants a sector to have bytes.
func checkSector(t *testing.T, d *disk.Disk, n int, want []byte) {
	t.Helper()
	if b, e := d.Read(n); e != api.OK || !bytes.Equal(b, want) {
		t.Errorf("sector %d = %x, %d, not %x", n, b, e, want)
	}
}

// checkSame wants two disks to be told apart by nothing, also when a write is tried and the power fails, whatever is kept then.
func checkSame(t *testing.T, d, want *disk.Disk) {
	t.Helper()
	if d.Waiting() != want.Waiting() || d.Off() != want.Off() || d.Lives() != want.Lives() {
		t.Errorf("Waiting, Off, Lives = %d, %t, %d, not %d, %t, %d", d.Waiting(), d.Off(), d.Lives(), want.Waiting(), want.Off(), want.Lives())
	}
	r := rand.New(rand.NewPCG(18, uint64(d.Waiting())))
	for round := range 4 {
		a, b := d.Clone(), want.Clone()
		checkErr(t, "Write", a.Write(0, full(99)), b.Write(0, full(99)))
		choices := bytes.Repeat([]byte{64}, d.Waiting()+1)
		for i := range choices {
			if round > 0 {
				choices[i] = byte(r.IntN(70))
			}
		}
		a.Crash(choices)
		b.Crash(choices)
		for n := range b.Size() {
			x, _ := b.Read(n)
			checkSector(t, a, n, x)
		}
	}
}

// checkSteps wants a call to do steps, these and in this order: the power fails at each of them.
func checkSteps(t *testing.T, steps []step, setup func() (*disk.Disk, func() api.Errno)) {
	t.Helper()
	for fuse := -1; fuse < len(steps)+2; fuse++ {
		d, call := setup()
		want := d.Clone()
		d.Fuse(fuse)
		want.Fuse(fuse)
		checkErr(t, "the call", call(), do(want, steps))
		checkSame(t, d, want)
		if t.Failed() {
			t.Fatalf("with a fuse of %d", fuse)
		}
	}
}

// P18.1: the checksum is CRC-32, of all parts one after the other.
func TestSum(t *testing.T) {
	if s := wal.Sum([]byte("123456789")); s != 0xcbf43926 {
		t.Errorf("Sum = %x", s)
	}
	if wal.Sum() != 0 || wal.Sum(nil) != 0 || wal.Sum(nil, []byte{}, nil) != 0 {
		t.Error("the checksum of no bytes is not 0")
	}
	for c := range 256 {
		b := []byte{byte(c)}
		if s := wal.Sum(b); s != crc32.ChecksumIEEE(b) {
			t.Errorf("Sum(%x) = %x", b, s)
		}
	}
	r := rand.New(rand.NewPCG(18, 1))
	for n := range 300 {
		b := make([]byte, n)
		for i := range b {
			b[i] = byte(r.Uint32())
		}
		i := r.IntN(n + 1)
		j := i + r.IntN(n-i+1)
		kept := bytes.Clone(b)
		if s := wal.Sum(b[:i], b[i:j], nil, b[j:]); s != crc32.ChecksumIEEE(b) {
			t.Errorf("Sum(%x, %x, %x) = %x", b[:i], b[i:j], b[j:], s)
		}
		if !bytes.Equal(b, kept) {
			t.Errorf("%x was changed to %x", kept, b)
		}
	}
}

// P18.1: Format does these steps, whatever is on the disk.
func TestFormat(t *testing.T) {
	for _, x := range [][2]int{{3, 1}, {3, 5}, {4, 2}, {9, 1}, {300, 3}} {
		size, homes := x[0], x[1]
		var steps []step
		for n := 1; n < 2+size; n++ {
			steps = append(steps, step{n, full(0)})
		}
		steps = append(steps, flush, step{0, slotOf(1, size)}, flush)
		checkSteps(t, steps, func() (*disk.Disk, func() api.Errno) {
			d := newDisk(t, 2+size+homes)
			for n := range d.Size() {
				d.Write(n, rising(byte(n)))
			}
			return d, func() api.Errno { return wal.Format(d, size) }
		})
	}
}

// P18.1: the bytes of the slot, written out.
func TestFormatSlot(t *testing.T) {
	d := newDisk(t, 300)
	checkErr(t, "Format", wal.Format(d, 258), api.OK)
	want := full(0)
	want[7], want[10], want[11], want[63] = 1, 1, 2, 1
	checkSector(t, d, 0, want)
	checkErr(t, "Crash", d.Crash(nil), api.OK)
	checkSector(t, d, 0, want)
}

// P18.1: a log has at least three places, and leaves at least one home; one that does not fit is an error ahead of the power.
func TestFormatSizes(t *testing.T) {
	for _, n := range []int{1, 2, 3, 5, 6, 7, 100, api.MaxSectors} {
		for _, size := range append([]int{0, 1, 2, 3, n - 4, n - 3, n - 2, n - 1, n, n + 1}, extremes...) {
			d := newDisk(t, n)
			want := api.ErrArg
			if size >= 3 && size <= n-3 {
				want = api.OK
			}
			checkErr(t, "Format", wal.Format(d, size), want)
			d.Fuse(0)
			d.Flush()
			if want == api.OK {
				want = api.ErrPower
			}
			checkErr(t, "Format without power", wal.Format(d, size), want)
			d.Crash(nil)
			if want == api.ErrArg {
				checkSector(t, d, 0, full(0))
			} else {
				checkTold(t, open(t, d), n-2-size, 1+size, size, 0)
			}
			if t.Failed() {
				t.Fatalf("with %d sectors, size %d", n, size)
			}
		}
	}
}

// P18.1, P18.2: a log that is laid over another one knows nothing of it.
func TestFormatAgain(t *testing.T) {
	for _, size := range []int{3, 9, 10, 17} {
		d, l := newLog(t, 9, 20)
		for i := range 7 {
			checkErr(t, "Commit", l.Commit([]api.Write{{Home: i, Data: full(1)}}), api.OK)
		}
		checkErr(t, "Format", wal.Format(d, size), api.OK)
		checkErr(t, "Crash", d.Crash(nil), api.OK)
		before := d.Clone()
		checkTold(t, open(t, d), 29-size, 1+size, size, 0)
		for n := 2; n < d.Size(); n++ {
			b, _ := before.Read(n)
			checkSector(t, d, n, b)
		}
	}
}

// P18.1, P18.2: no log is on a disk that is none.
func TestNoDisk(t *testing.T) {
	for _, d := range []*disk.Disk{nil, {}} {
		checkErr(t, "Format of no disk", wal.Format(d, 3), api.ErrNil)
		checkErr(t, "Format of no disk", wal.Format(d, 0), api.ErrNil)
		checkNoOpen(t, "no disk", d, api.ErrNil)
	}
}

// P18.2: no disk without a valid slot is a log, also one that is too small to be.
func TestOpenNothing(t *testing.T) {
	for _, n := range []int{1, 2, 3, 5, 6, 100, api.MaxSectors} {
		checkNoOpen(t, "an empty disk", newDisk(t, n), api.ErrForm)
	}
	checkNoOpen(t, "one sector", laid(t, 1, slotOf(1, 3)), api.ErrForm)
	checkNoOpen(t, "two sectors", laid(t, 2, slotOf(1, 3), slotOf(1, 3)), api.ErrForm)
	checkNoOpen(t, "five sectors", laid(t, 5, slotOf(1, 3), slotOf(1, 2)), api.ErrForm)
	checkNoOpen(t, "a slot elsewhere", laid(t, 20, full(0), full(0), slotOf(1, 3)), api.ErrForm)
}

// P18.2: the errors come in the order of the chapter: the power, the slots, the base.
func TestOpenErrorOrder(t *testing.T) {
	for what, d := range map[string]*disk.Disk{
		"an empty disk":     newDisk(t, 20),
		"the greatest base": laid(t, 20, slotOf(limit, 9)),
		"a log":             laid(t, 20, slotOf(1, 9)),
	} {
		d.Fuse(0)
		checkErr(t, "Flush", d.Flush(), api.ErrPower)
		checkNoOpen(t, what+" without power", d, api.ErrPower)
	}
	checkNoOpen(t, "a slot above all bases", laid(t, 20, slotOf(limit+1, 9)), api.ErrForm)
}

// P18.2: each slot is valid on its own, with bases and sizes at their bounds; it is one of a log of its size.
func TestSlots(t *testing.T) {
	const n = 30
	for slot := range 2 {
		for _, size := range []int{0, 1, 2, 3, 4, 26, 27, 28, 29, 1 << 31, 1<<32 - 1} {
			for _, base := range []int{0, 1, 255, 256, 1 << 40, limit - 28, limit - 3, limit - 2, limit - 1, limit, limit + 1, 1 << 62, 1<<62 + 1, -1, math.MinInt} {
				sectors := [][]byte{full(0), full(0)}
				sectors[slot] = slotOf(base, size)
				d := laid(t, n, sectors...)
				if base < 1 || base > limit || size < 3 || size > n-3 {
					checkNoOpen(t, "an invalid slot", d, api.ErrForm)
				} else if base+size > limit {
					checkNoOpen(t, "a base that cannot be raised", d, api.ErrLimit)
				} else {
					checkTold(t, open(t, d), n-2-size, base+size, size, 0)
					checkSector(t, d, slot, slotOf(base, size))
					checkSector(t, d, 1-slot, slotOf(base+size, size))
				}
				if t.Failed() {
					t.Fatalf("with slot %d, base %d, size %d", slot, base, size)
				}
			}
		}
	}
}

// P18.2: each byte of a slot counts.
func TestSlotBytes(t *testing.T) {
	for slot := range 2 {
		for i := range api.Sector {
			for bit := range 8 {
				sectors := [][]byte{full(0), full(0)}
				sectors[slot] = slotOf(0x0102030405060708, 0x2021)
				sectors[slot][i] ^= 1 << bit
				size := int(binary.BigEndian.Uint32(sectors[slot][8:]))
				d := laid(t, 0x2100, sectors...)
				if size != 0x2021 && size >= 3 && size <= 0x20fd {
					checkTold(t, open(t, d), 0x20fe-size, 0x0102030405060708+size, size, 0)
				} else {
					checkNoOpen(t, "a turned slot", d, api.ErrForm)
				}
				if t.Failed() {
					t.Fatalf("with bit %d of byte %d", bit, i)
				}
			}
		}
	}
}

// P18.2: the greatest base counts; of two equal ones, that of sector 0; the other slot is written.
func TestTwoSlots(t *testing.T) {
	bad := slotOf(50, 9)
	bad[63]++
	for _, x := range []struct {
		first, second []byte
		slot          int
		base, size    int
	}{
		{slotOf(5, 9), slotOf(4, 8), 0, 5, 9},
		{slotOf(5, 9), slotOf(6, 8), 1, 6, 8},
		{slotOf(255, 9), slotOf(256, 8), 1, 256, 8},
		{slotOf(256, 9), slotOf(255, 8), 0, 256, 9},
		{slotOf(7, 9), slotOf(7, 8), 0, 7, 9},
		{slotOf(7, 8), slotOf(7, 9), 0, 7, 8},
		{slotOf(7, 8), bad, 0, 7, 8},
		{bad, slotOf(7, 8), 1, 7, 8},
		{slotOf(limit+1, 8), slotOf(7, 9), 1, 7, 9},
		{slotOf(50, 2), slotOf(7, 9), 1, 7, 9},
		{slotOf(7, 9), slotOf(50, 28), 0, 7, 9},
	} {
		d := laid(t, 30, x.first, x.second)
		checkTold(t, open(t, d), 28-x.size, x.base+x.size, x.size, 0)
		sectors := [2][]byte{x.first, x.second}
		checkSector(t, d, x.slot, sectors[x.slot])
		checkSector(t, d, 1-x.slot, slotOf(x.base+x.size, x.size))
	}
	checkNoOpen(t, "a greatest base that cannot be raised", laid(t, 30, slotOf(5, 9), slotOf(limit, 8)), api.ErrLimit)
}

// P18.2: a log at the end of its bases does nothing to the disk, though it has content.
func TestOpenLimit(t *testing.T) {
	w := []api.Write{{Home: 2, Data: rising(1)}}
	for _, room := range []int{0, 1, 8, 9} {
		base := limit - room
		checkSteps(t, nil, func() (*disk.Disk, func() api.Errno) {
			d := laid(t, 20, append([][]byte{full(0), slotOf(base, 9)}, entriesOf(base, w)...)...)
			if room == 9 {
				open(t, d)
				checkSector(t, d, 0, slotOf(limit, 9))
				checkSector(t, d, 13, rising(1))
			}
			return d, func() api.Errno {
				checkNoOpen(t, "a log at its end", d, api.ErrLimit)
				return api.OK
			}
		})
	}
}

// P18.2: Open does these steps: the writes of the content, then the base is raised.
func TestOpenSteps(t *testing.T) {
	first := []api.Write{{Home: 5, Data: rising(1)}, {Home: 0, Data: rising(2)}, {Home: 5, Data: rising(3)}}
	second := []api.Write{{Home: 0, Data: rising(4)}}
	for _, x := range []struct {
		base, slot, size int
		content          [][]api.Write
	}{
		{1, 0, 9, nil},
		{7, 1, 9, nil},
		{1, 0, 3, [][]api.Write{second}},
		{300, 1, 10, [][]api.Write{first, second}},
		{limit - 20, 0, 20, [][]api.Write{second, first, second}},
	} {
		sectors := [][]byte{full(0), full(0)}
		sectors[x.slot] = slotOf(x.base, x.size)
		var steps []step
		for _, w := range x.content {
			sectors = append(sectors, entriesOf(x.base+len(sectors)-2, w)...)
			steps = append(steps, homeSteps(x.size, w)...)
		}
		steps = append(steps, raiseSteps(1-x.slot, x.base+x.size, x.size)...)
		checkSteps(t, steps, func() (*disk.Disk, func() api.Errno) {
			d := laid(t, 40, sectors...)
			return d, func() api.Errno {
				l, e := wal.Open(d)
				if (l != nil) != (e == api.OK) {
					t.Errorf("Open = %v, %d", l, e)
				}
				return e
			}
		})
	}
}

// contents are transactions, and what the homes have after so many of them.
func contents() (logged [][]api.Write, homes [][][]byte) {
	logged = [][]api.Write{
		{{Home: 1, Data: rising(10)}},
		{{Home: 0, Data: rising(20)}, {Home: 1, Data: rising(30)}},
		{{Home: 2, Data: rising(40)}},
	}
	present := [][]byte{full(0), full(0), full(0)}
	homes = append(homes, slices.Clone(present))
	for _, w := range logged {
		for _, x := range w {
			present[x.Home] = x.Data
		}
		homes = append(homes, slices.Clone(present))
	}
	return logged, homes
}

const contentBase = 0x0807060504030201

// contentSectors is a log of 12 places and three homes, with all contents.
func contentSectors() [][]byte {
	sectors := [][]byte{slotOf(contentBase, 12), full(0)}
	logged, _ := contents()
	for _, w := range logged {
		sectors = append(sectors, entriesOf(contentBase+len(sectors)-2, w)...)
	}
	return sectors
}

// checkContent wants a log with these sectors to have so many of the transactions.
func checkContent(t *testing.T, what string, sectors [][]byte, many int) {
	t.Helper()
	d := laid(t, 17, sectors...)
	l := open(t, d)
	_, homes := contents()
	checkHomes(t, l, homes[many])
	checkTold(t, l, 3, contentBase+12, 12, 0)
	if t.Failed() {
		t.Fatalf("with %s", what)
	}
}

// transactionOf is which transaction an entry of the contents belongs to.
func transactionOf(place int) int {
	switch {
	case place < 3:
		return 0
	case place < 8:
		return 1
	}
	return 2
}

// P18.2: each bit of an entry counts: with it, the content ends ahead of its transaction.
func TestContentBits(t *testing.T) {
	checkContent(t, "all as it should be", contentSectors(), 3)
	for place := range 11 {
		for i := range api.Sector {
			for bit := range 8 {
				sectors := contentSectors()
				sectors[2+place][i] ^= 1 << bit
				checkContent(t, "a turned bit", sectors, transactionOf(place))
			}
		}
	}
}

// P18.2: an entry that is not there ends the content, whatever comes behind it.
func TestContentGaps(t *testing.T) {
	for place := range 12 {
		sectors := contentSectors()
		checkContent(t, "a cut", sectors[:2+place], transactionOf(place)+place/11)
		if place < 11 {
			sectors[2+place] = full(0)
			checkContent(t, "a gap", sectors, transactionOf(place))
		}
	}
}

// P18.2: an entry with the right checksum and stamp has to have the required form as well.
func TestContentForm(t *testing.T) {
	for place := range 11 {
		stamp := contentBase + place
		entry := func() []byte { return bytes.Clone(contentSectors()[2+place]) }
		check := func(what string, b []byte, stamp int) {
			t.Helper()
			sectors := contentSectors()
			sectors[2+place] = seal(b, stamp)
			checkContent(t, what, sectors, transactionOf(place))
		}
		for kind := range 256 {
			if b := entry(); b[0] != byte(kind) {
				b[0] = byte(kind)
				check("another kind", b, stamp)
			}
		}
		for i := 37; i < 52; i++ {
			b := entry()
			b[i] = 1
			check("a byte that should be zero", b, stamp)
		}
		for _, other := range []int{stamp - 1, stamp + 1, stamp ^ 1<<61, stamp - 12, stamp + 12, 0, place, stamp ^ math.MinInt} {
			check("another stamp", entry(), other)
		}
		for _, number := range []int{0, 1, 2, 3, 4, 255, 1 << 31, 1<<32 - 1} {
			b := entry()
			if int(binary.BigEndian.Uint32(b[1:])) != number {
				binary.BigEndian.PutUint32(b[1:], uint32(number))
				check("another number", b, stamp)
			}
		}
		if b := entry(); b[0] == 3 {
			for i := 5; i < 37; i++ {
				b := entry()
				b[i] = 1
				check("an end with data", b, stamp)
			}
		}
	}
}

// P18.2: both halves of a write may change their bytes, for they have no form.
func TestContentData(t *testing.T) {
	_, homes := contents()
	for i := range 32 {
		sectors := contentSectors()
		for half := range 2 {
			sectors[2+half][5+i]++
			sectors[2+half] = seal(sectors[2+half], contentBase+half)
		}
		want := bytes.Clone(homes[1][1])
		want[i]++
		want[32+i]++
		d := laid(t, 17, sectors[:5]...)
		checkHomes(t, open(t, d), [][]byte{full(0), want, full(0)})
	}
}

// P18.2: other sequences of entries are no transactions, and neither are those of homes that there are not.
func TestContentOrder(t *testing.T) {
	data := rising(7)
	first := func(home int) func(int) []byte {
		return func(stamp int) []byte { return entryOf(1, home, data[:32], stamp) }
	}
	second := func(home int) func(int) []byte {
		return func(stamp int) []byte { return entryOf(2, home, data[32:], stamp) }
	}
	end := func(n int) func(int) []byte {
		return func(stamp int) []byte { return entryOf(3, n, full(0)[:32], stamp) }
	}
	for _, x := range []struct {
		entries []func(int) []byte
		homes   []int // that are written
	}{
		{[]func(int) []byte{first(1), second(1), end(1)}, []int{1}},
		{[]func(int) []byte{first(0), second(0), first(2), second(2), end(2)}, []int{0, 2}},
		{[]func(int) []byte{first(0), second(0), end(1), first(2), second(2), end(1)}, []int{0, 2}},
		{[]func(int) []byte{first(0), second(0), end(1), end(0), first(2), second(2), end(1)}, []int{0}},
		{[]func(int) []byte{first(0), second(0), end(1), end(1), first(2), second(2), end(1)}, []int{0}},
		{[]func(int) []byte{first(0), second(0), end(1), first(2), second(2), end(2)}, []int{0}},
		{[]func(int) []byte{first(0), second(0), first(2), second(2), end(1)}, nil},
		{[]func(int) []byte{first(0), second(0), end(2), first(2), second(2), end(1)}, nil},
		{[]func(int) []byte{end(0)}, nil},
		{[]func(int) []byte{end(0), first(0), second(0), end(1)}, nil},
		{[]func(int) []byte{end(1), first(0), second(0), end(1)}, nil},
		{[]func(int) []byte{first(0), end(1)}, nil},
		{[]func(int) []byte{first(0), end(0)}, nil},
		{[]func(int) []byte{second(0), first(0), end(1)}, nil},
		{[]func(int) []byte{first(0), first(0), end(1)}, nil},
		{[]func(int) []byte{second(0), second(0), end(1)}, nil},
		{[]func(int) []byte{first(0), second(1), end(1)}, nil},
		{[]func(int) []byte{first(1), second(0), end(1)}, nil},
		{[]func(int) []byte{first(0), first(1), second(0), second(1), end(2)}, nil},
		{[]func(int) []byte{first(0), second(0), first(3), second(3), end(2)}, nil},
		{[]func(int) []byte{first(0), second(0), end(1), first(3), second(3), end(1)}, []int{0}},
		{[]func(int) []byte{first(3), second(3), end(1), first(0), second(0), end(1)}, nil},
		{[]func(int) []byte{first(1<<32 - 1), second(1<<32 - 1), end(1)}, nil},
		{[]func(int) []byte{first(1 << 31), second(1 << 31), end(1)}, nil},
		{[]func(int) []byte{first(0), second(0), end(1), first(1), second(1), end(1), first(2), second(2), end(1), first(0), second(0), end(1)}, []int{0, 1, 2}},
		{[]func(int) []byte{first(0), second(0), first(1), second(1), first(2), second(2), first(0), second(0), first(1), second(1), end(5)}, []int{0, 1, 2}},
		{[]func(int) []byte{first(0), second(0), first(1), second(1), first(2), second(2), first(0), second(0), first(1), second(1), first(2), second(2)}, nil},
		{[]func(int) []byte{first(0), second(0), first(1), second(1), first(2), second(2), first(0), second(0), first(1), second(1), first(2), second(2), end(6)}, nil},
		{[]func(int) []byte{first(0), second(0), end(1), first(1), second(1), first(2), second(2), first(0), second(0), first(2), second(2), first(1), second(1), end(5)}, []int{0}},
	} {
		sectors := [][]byte{slotOf(contentBase, 12), full(0)}
		for place, f := range x.entries {
			sectors = append(sectors, f(contentBase+place))
		}
		homes := [][]byte{full(0), full(0), full(0)}
		if len(sectors) > 14 { // an entry behind the places is what a home contains
			homes[0] = sectors[14]
		}
		if len(sectors) > 15 {
			homes[1] = sectors[15]
		}
		for _, home := range x.homes {
			homes[home] = data
		}
		l := open(t, laid(t, 17, sectors...))
		checkHomes(t, l, homes)
		if t.Failed() {
			t.Fatalf("with %d entries, of which homes %v are written", len(x.entries), x.homes)
		}
	}
}

// P18.3: Read is the bytes of the home's sector, and there are no other homes.
func TestRead(t *testing.T) {
	for _, x := range [][2]int{{3, 1}, {3, 4}, {9, 7}} {
		d, l := newLog(t, x[0], x[1])
		for home := range x[1] {
			checkRead(t, l, home, full(0))
			checkErr(t, "Write", d.Write(2+x[0]+home, rising(byte(home))), api.OK)
			checkRead(t, l, home, rising(byte(home)))
		}
		for _, home := range append([]int{x[1], x[1] + 1, -2 - x[0], -1 - x[0]}, extremes...) {
			checkNoRead(t, l, home, api.ErrDisk)
		}
	}
}

// P18.3: Commit does these steps: the entries from the next place on, a flush, the homes in the order of the writes.
func TestCommitSteps(t *testing.T) {
	many := []api.Write{{Home: 3, Data: rising(1)}, {Home: 0, Data: rising(2)}, {Home: 3, Data: rising(3)}, {Home: 4, Data: rising(4)}}
	for place := 0; place <= 8; place += 3 {
		for n := range 4 {
			w := many[:n+1]
			size := 3*place + 2*len(w) + 1
			base := 1 + size
			var l *wal.Log
			checkSteps(t, slices.Concat(noteSteps(base, place, w), homeSteps(size, w)), func() (*disk.Disk, func() api.Errno) {
				var d *disk.Disk
				d, l = newLog(t, size, 5)
				for range place / 3 {
					checkErr(t, "Commit", l.Commit(many[:1]), api.OK)
				}
				checkTold(t, l, 5, base, size-place, place/3)
				return d, func() api.Errno { return l.Commit(w) }
			})
			checkTold(t, l, 5, base, size-place-2*len(w)-1, place/3+1)
		}
	}
}

// P18.3: the bytes of entries, written out.
func TestEntries(t *testing.T) {
	d, l := newLog(t, 9, 300)
	checkErr(t, "Commit", l.Commit([]api.Write{{Home: 258, Data: rising(1)}}), api.OK)
	for place, want := range [][]byte{
		slices.Concat([]byte{1, 0, 0, 1, 2}, rising(1)[:32]),
		slices.Concat([]byte{2, 0, 0, 1, 2}, rising(1)[32:]),
		{3, 0, 0, 0, 1},
	} {
		want = slices.Concat(want, make([]byte, 52-len(want)))
		stamp := []byte{0, 0, 0, 0, 0, 0, 0, byte(10 + place)}
		sum := wal.Sum(want, stamp)
		want = slices.Concat(want, []byte{byte(sum >> 24), byte(sum >> 16), byte(sum >> 8), byte(sum)}, stamp)
		checkSector(t, d, 2+place, want)
	}
	checkSector(t, d, 5, full(0))
	checkSector(t, d, 2+9+258, rising(1))
}

// P18.3: if too few places are left, the base is raised first; with just enough, it is not.
func TestCommitCheckpoint(t *testing.T) {
	w := []api.Write{{Home: 1, Data: rising(1)}, {Home: 0, Data: rising(2)}}
	for size := 5; size < 20; size++ {
		for place := 0; place <= size; place += 3 {
			base := 1 + size
			var l *wal.Log
			steps := noteSteps(base, place, w)
			left, raised := size-place-5, base
			if left < 0 {
				left, raised = size-5, base+size
				steps = slices.Concat(raiseSteps(0, raised, size), noteSteps(raised, 0, w))
			}
			checkSteps(t, slices.Concat(steps, homeSteps(size, w)), func() (*disk.Disk, func() api.Errno) {
				var d *disk.Disk
				d, l = newLog(t, size, 2)
				for range place / 3 {
					checkErr(t, "Commit", l.Commit([]api.Write{{Home: 0, Data: rising(9)}}), api.OK)
				}
				checkTold(t, l, 2, base, size-place, place/3)
				return d, func() api.Errno { return l.Commit(w) }
			})
			checkTold(t, l, 2, raised, left, place/3+1)
		}
	}
}

// P18.3: many commits, with bases that are raised again and again, in both slots.
func TestCommitMany(t *testing.T) {
	for size := 3; size < 13; size++ {
		d, l := newLog(t, size, 3)
		base, slot, left := 1+size, 1, size
		for i := range 100 {
			w := make([]api.Write, 1+i%min(3, (size-1)/2))
			for j := range w {
				w[j] = api.Write{Home: (i + j) % 3, Data: rising(byte(i + 3*j))}
			}
			if left -= 2*len(w) + 1; left < 0 {
				base, slot, left = base+size, 1-slot, size-2*len(w)-1
			}
			checkErr(t, "Commit", l.Commit(w), api.OK)
			checkTold(t, l, 3, base, left, i+1)
			checkSector(t, d, slot, slotOf(base, size))
			for _, x := range w {
				checkRead(t, l, x.Home, x.Data)
			}
		}
	}
}

// P18.3: writes that cannot be committed change nothing, though others among them could.
func TestCommitErrors(t *testing.T) {
	good := api.Write{Home: 0, Data: rising(1)}
	var bad [][]api.Write
	for _, home := range append([]int{3, 4, -11, -9}, extremes...) {
		bad = append(bad, []api.Write{{Home: home, Data: rising(2)}}, []api.Write{good, {Home: home, Data: rising(2)}}, []api.Write{{Home: home, Data: rising(2)}, good})
	}
	for _, data := range [][]byte{nil, {}, {1}, full(1)[:32], full(1)[:63], append(full(1), 1), append(full(1), full(1)...)} {
		bad = append(bad, []api.Write{{Home: 1, Data: data}}, []api.Write{good, {Home: 1, Data: data}}, []api.Write{{Home: 1, Data: data}, good})
	}
	for _, w := range bad {
		checkSteps(t, nil, func() (*disk.Disk, func() api.Errno) {
			d, l := newLog(t, 9, 3)
			checkErr(t, "Commit", l.Commit([]api.Write{good, good, good}), api.OK)
			return d, func() api.Errno {
				checkErr(t, "Commit of what cannot be", l.Commit(w), api.ErrArg)
				checkTold(t, l, 3, 10, 2, 1)
				return api.OK
			}
		})
	}
}

// P18.3: a transaction has to have room in the whole log; what is wrong with a write comes first.
func TestCommitLimit(t *testing.T) {
	for size := 3; size < 12; size++ {
		for n := 1; n < 10; n++ {
			_, l := newLog(t, size, 3)
			w := slices.Repeat([]api.Write{{Home: 1, Data: rising(1)}}, n)
			if 2*n+1 <= size {
				checkErr(t, "Commit", l.Commit(w), api.OK)
				checkTold(t, l, 3, 1+size, size-2*n-1, 1)
				continue
			}
			checkErr(t, "Commit of too many", l.Commit(w), api.ErrLimit)
			checkTold(t, l, 3, 1+size, size, 0)
			checkRead(t, l, 1, full(0))
			w[n-1].Home = 3
			checkErr(t, "Commit of too many, and a wrong one", l.Commit(w), api.ErrArg)
			w[n-1] = api.Write{Home: 0, Data: full(1)[1:]}
			checkErr(t, "Commit of too many, and a wrong one", l.Commit(w), api.ErrArg)
		}
	}
}

// P18.3: without writes, Commit does nothing, however few places are left.
func TestCommitNothing(t *testing.T) {
	for _, w := range [][]api.Write{nil, {}} {
		checkSteps(t, nil, func() (*disk.Disk, func() api.Errno) {
			d, l := newLog(t, 3, 2)
			checkErr(t, "Commit", l.Commit([]api.Write{{Home: 1, Data: rising(1)}}), api.OK)
			x := begin(t, l)
			return d, func() api.Errno {
				e := l.Commit(w)
				checkTold(t, l, 2, 4, 0, 1)
				checkRead(t, x, 1, rising(1))
				return e
			}
		})
	}
}

// P18.3: Checkpoint flushes everything and raises the base, also when the log has no content.
func TestCheckpoint(t *testing.T) {
	for _, commits := range []int{0, 1, 3} {
		var l *wal.Log
		checkSteps(t, slices.Concat(raiseSteps(0, 19, 9), raiseSteps(1, 28, 9)), func() (*disk.Disk, func() api.Errno) {
			var d *disk.Disk
			d, l = newLog(t, 9, 3)
			for i := range commits {
				checkErr(t, "Commit", l.Commit([]api.Write{{Home: i, Data: rising(byte(i))}}), api.OK)
			}
			return d, func() api.Errno {
				if e := l.Checkpoint(); e != api.OK {
					return e
				}
				checkTold(t, l, 3, 19, 9, commits)
				return l.Checkpoint()
			}
		})
		checkTold(t, l, 3, 28, 9, commits)
		for i := range commits {
			checkRead(t, l, i, rising(byte(i)))
		}
	}
}

// P18.3: at the end of the bases, the log can be filled, but not emptied any more.
func TestCheckpointLimit(t *testing.T) {
	w := []api.Write{{Home: 1, Data: rising(1)}}
	for raises := range 3 {
		for extra := range 9 {
			d := laid(t, 20, slotOf(limit-9*(1+raises)-extra, 9))
			l := open(t, d)
			for range raises {
				checkErr(t, "Checkpoint", l.Checkpoint(), api.OK)
			}
			for i := range 3 {
				checkErr(t, "Checkpoint at the end", l.Checkpoint(), api.ErrLimit)
				checkTold(t, l, 9, limit-extra, 9-3*i, i)
				checkErr(t, "Commit", l.Commit(w), api.OK)
			}
			checkErr(t, "Commit at the end", l.Commit(w), api.ErrLimit)
			checkErr(t, "Commit of nothing", l.Commit(nil), api.OK)
			checkTold(t, l, 9, limit-extra, 0, 3)
			checkRead(t, l, 1, rising(1))
			x := begin(t, l)
			checkErr(t, "Write", x.Write(0, rising(5)), api.OK)
			checkErr(t, "Commit at the end", x.Commit(), api.ErrLimit)
			checkRead(t, x, 0, rising(5))
			checkRead(t, l, 0, full(0))
			checkErr(t, "Crash", d.Crash(nil), api.OK)
			checkNoOpen(t, "a log at its end", d, api.ErrLimit)
		}
	}
}

// checkOver wants a log and a transaction of it, neither of which has a life any more, to say so whatever is asked.
func checkOver(t *testing.T, l *wal.Log, x *wal.Txn, want api.Errno) {
	t.Helper()
	for _, home := range []int{0, 1, -1, 1000} {
		checkNoRead(t, l, home, want)
		checkNoRead(t, x, home, want)
		checkErr(t, "Write", x.Write(home, full(1)), want)
		checkErr(t, "Write", x.Write(home, nil), want)
		checkErr(t, "Commit", l.Commit([]api.Write{{Home: home, Data: full(1)}}), want)
		checkErr(t, "Commit", l.Commit([]api.Write{{Home: home}}), want)
	}
	checkErr(t, "Commit of too many", l.Commit(slices.Repeat([]api.Write{{Data: full(1)}}, 20)), want)
	checkErr(t, "Commit of nothing", l.Commit(nil), want)
	checkErr(t, "Checkpoint", l.Checkpoint(), want)
	checkErr(t, "Commit", x.Commit(), want)
	if y, e := l.Begin(); y != nil || e != want {
		t.Errorf("Begin = %v, %d, not %d", y, e, want)
	}
}

// P18.3, P18.4: without power, and in another life than its own, a log does nothing, but tells what it was.
func TestLives(t *testing.T) {
	d, l := newLog(t, 9, 3)
	checkErr(t, "Commit", l.Commit([]api.Write{{Home: 1, Data: rising(1)}}), api.OK)
	x := begin(t, l)
	checkErr(t, "Write", x.Write(1, rising(2)), api.OK)
	stale := begin(t, l)
	done := begin(t, l)
	checkErr(t, "Commit of nothing", done.Commit(), api.OK)
	d.Fuse(0)
	checkErr(t, "Flush", d.Flush(), api.ErrPower)
	for round := range 3 {
		checkOver(t, l, x, api.ErrPower)
		checkOver(t, l, stale, api.ErrPower)
		checkOver(t, l, done, api.ErrPower)
		checkTold(t, l, 3, 10, 6, 1)
		if x.Weight() != 1 || stale.Weight() != 0 {
			t.Errorf("Weight = %d, %d", x.Weight(), stale.Weight())
		}
		checkErr(t, "Crash", d.Crash(full(64)), api.OK)
		checkOver(t, l, x, api.ErrPower)
		other := open(t, d)
		checkTold(t, other, 3, 10+9*(round+1), 9, 0)
		checkRead(t, other, 1, rising(1))
	}
}

// P18.3: the errors of the power come as they occur; what had been flushed by then is committed.
func TestCommitPower(t *testing.T) {
	w := []api.Write{{Home: 1, Data: rising(1)}, {Home: 2, Data: rising(2)}}
	for fuse := range 8 {
		d, l := newLog(t, 9, 3)
		d.Fuse(fuse)
		checkErr(t, "Commit", l.Commit(w), api.ErrPower)
		if fuse < 6 {
			checkTold(t, l, 3, 10, 9, 0)
		} else {
			checkTold(t, l, 3, 10, 4, 1)
		}
		checkErr(t, "Commit behind it", l.Commit(w), api.ErrPower)
	}
	for fuse := range 3 {
		d, l := newLog(t, 9, 3)
		checkErr(t, "Commit", l.Commit(w), api.OK)
		d.Fuse(fuse)
		checkErr(t, "Checkpoint", l.Checkpoint(), api.ErrPower)
		checkTold(t, l, 3, 10, 4, 1)
	}
}

// P18.3, P18.4: nothing happens to a log and to a transaction that no constructor made.
func TestNoLog(t *testing.T) {
	for _, l := range []*wal.Log{nil, {}} {
		for _, x := range []*wal.Txn{nil, {}} {
			for range 2 {
				checkOver(t, l, x, api.ErrNil)
				checkTold(t, l, 0, 0, 0, 0)
				if x.Weight() != 0 {
					t.Errorf("Weight of no transaction = %d", x.Weight())
				}
			}
		}
	}
}

// P18.4: what a log tells of itself, for disks and sizes of all kinds.
func TestTold(t *testing.T) {
	for _, x := range [][2]int{{3, 1}, {3, 2}, {100, 1}, {3, api.MaxSectors - 5}, {api.MaxSectors - 3, 1}} {
		d, l := newLog(t, x[0], x[1])
		checkTold(t, l, x[1], 1+x[0], x[0], 0)
		checkErr(t, "Commit", l.Commit([]api.Write{{Home: x[1] - 1, Data: rising(1)}}), api.OK)
		checkTold(t, l, x[1], 1+x[0], x[0]-3, 1)
		checkErr(t, "Crash", d.Crash(nil), api.OK)
		l = open(t, d)
		checkTold(t, l, x[1], 1+2*x[0], x[0], 0)
		checkRead(t, l, x[1]-1, rising(1))
	}
}

// P18.4: a transaction reads what has been written in it, the last write of each home; nobody else does, ahead of its Commit.
func TestTxn(t *testing.T) {
	d, l := newLog(t, 9, 5)
	checkErr(t, "Commit", l.Commit([]api.Write{{Home: 3, Data: rising(1)}}), api.OK)
	x, y := begin(t, l), begin(t, l)
	want := [][]byte{full(0), full(0), full(0), rising(1), full(0)}
	for i, home := range []int{4, 0, 4, 3, 0, 4} {
		checkErr(t, "Write", x.Write(home, rising(byte(50+i))), api.OK)
		want[home] = rising(byte(50 + i))
		for n, b := range want {
			checkRead(t, x, n, b)
		}
		if weight := []int{1, 2, 2, 3, 3, 3}[i]; x.Weight() != weight || y.Weight() != 0 {
			t.Errorf("Weight = %d, %d, not %d, 0", x.Weight(), y.Weight(), weight)
		}
	}
	for _, r := range []reader{l, y} {
		checkRead(t, r, 3, rising(1))
		checkRead(t, r, 4, full(0))
	}
	if d.Waiting() != 1 {
		t.Errorf("%d writes wait", d.Waiting())
	}
	checkErr(t, "Commit", x.Commit(), api.OK)
	checkHomes(t, l, want)
	checkTold(t, l, 5, 19, 2, 2)
	if x.Weight() != 3 {
		t.Errorf("Weight = %d", x.Weight())
	}
}

// P18.4: there are no other homes, and no other sizes of a sector; such a call changes nothing.
func TestTxnErrors(t *testing.T) {
	_, l := newLog(t, 9, 3)
	x := begin(t, l)
	for _, home := range append([]int{3, 4, -11}, extremes...) {
		checkErr(t, "Write of no home", x.Write(home, full(1)), api.ErrDisk)
		checkErr(t, "Write of no home", x.Write(home, nil), api.ErrDisk)
		checkNoRead(t, x, home, api.ErrDisk)
	}
	for _, n := range []int{0, 1, 32, 63, 65, 128} {
		checkErr(t, "Write of another size", x.Write(2, make([]byte, n)), api.ErrArg)
	}
	checkErr(t, "Write of nothing", x.Write(2, nil), api.ErrArg)
	if x.Weight() != 0 {
		t.Errorf("Weight = %d", x.Weight())
	}
	checkRead(t, x, 2, full(0))
}

// P18.4: Commit does what the log's Commit does, for the writes in ascending order of homes.
func TestTxnSteps(t *testing.T) {
	r := rand.New(rand.NewPCG(18, 4))
	for range 20 {
		order := r.Perm(8)
		var w []api.Write
		for home := range 8 {
			w = append(w, api.Write{Home: home, Data: rising(byte(home))})
		}
		checkSteps(t, slices.Concat(noteSteps(21, 0, w), homeSteps(20, w)), func() (*disk.Disk, func() api.Errno) {
			d, l := newLog(t, 20, 8)
			x := begin(t, l)
			for _, home := range order {
				checkErr(t, "Write", x.Write(home, rising(byte(home))), api.OK)
			}
			return d, x.Commit
		})
	}
}

// checkStale wants a transaction to be over.
func checkStale(t *testing.T, x *wal.Txn, weight int) {
	t.Helper()
	for _, home := range []int{0, 1, 2, -1, 1000} {
		checkNoRead(t, x, home, api.ErrStale)
		checkErr(t, "Write", x.Write(home, full(1)), api.ErrStale)
		checkErr(t, "Write", x.Write(home, nil), api.ErrStale)
	}
	checkErr(t, "Commit", x.Commit(), api.ErrStale)
	if x.Weight() != weight {
		t.Errorf("Weight = %d, not %d", x.Weight(), weight)
	}
}

// P18.4: a transaction ends with its Commit, and with any other one of the log, but not by anything else.
func TestTxnStale(t *testing.T) {
	_, l := newLog(t, 30, 3)
	old, idle, x := begin(t, l), begin(t, l), begin(t, l)
	checkErr(t, "Write", old.Write(0, rising(1)), api.OK)
	checkErr(t, "Write", x.Write(1, rising(2)), api.OK)
	checkErr(t, "Commit of nothing", begin(t, l).Commit(), api.OK)
	checkErr(t, "Commit of nothing", l.Commit(nil), api.OK)
	checkErr(t, "Commit of too many", l.Commit(slices.Repeat([]api.Write{{Data: full(1)}}, 20)), api.ErrLimit)
	checkErr(t, "Commit of no home", l.Commit([]api.Write{{Home: 9, Data: full(1)}}), api.ErrArg)
	checkErr(t, "Checkpoint", l.Checkpoint(), api.OK)
	checkRead(t, old, 0, rising(1))
	checkErr(t, "Commit", x.Commit(), api.OK)
	checkStale(t, x, 1)
	checkStale(t, old, 1)
	checkStale(t, idle, 0)
	checkRead(t, l, 0, full(0))
	checkRead(t, l, 1, rising(2))
	checkTold(t, l, 3, 61, 27, 1)

	x = begin(t, l)
	checkRead(t, x, 1, rising(2))
	checkErr(t, "Commit of the log", l.Commit([]api.Write{{Home: 2, Data: rising(3)}}), api.OK)
	checkStale(t, x, 0)
	x = begin(t, l)
	checkErr(t, "Commit of nothing", x.Commit(), api.OK)
	checkStale(t, x, 0)
	checkTold(t, l, 3, 61, 24, 2)
}

// P18.4: a transaction that the log does not have enough places for is not committed, and nothing of it is.
func TestTxnLimit(t *testing.T) {
	_, l := newLog(t, 6, 5)
	x := begin(t, l)
	for home := range 3 {
		checkErr(t, "Write", x.Write(home, rising(byte(home))), api.OK)
	}
	checkErr(t, "Commit", x.Commit(), api.ErrLimit)
	checkRead(t, x, 1, rising(1))
	checkErr(t, "Commit", x.Commit(), api.ErrLimit)
	checkTold(t, l, 5, 7, 6, 0)
	checkHomes(t, l, slices.Repeat([][]byte{full(0)}, 5))
}

// DOC.md, rule 5; LANGUAGE.md, rule 7: what is given is neither changed nor kept, and what is read is the reader's own.
func TestOwnMemory(t *testing.T) {
	_, l := newLog(t, 9, 3)
	w := []api.Write{{Home: 2, Data: rising(1)}, {Home: 0, Data: rising(2)}}
	checkErr(t, "Commit", l.Commit(w), api.OK)
	if w[0].Home != 2 || !bytes.Equal(w[0].Data, rising(1)) || w[1].Home != 0 || !bytes.Equal(w[1].Data, rising(2)) {
		t.Errorf("the writes are %v now", w)
	}
	clear(w[0].Data)
	checkRead(t, l, 2, rising(1))

	x := begin(t, l)
	b := rising(3)
	checkErr(t, "Write", x.Write(1, b), api.OK)
	clear(b)
	for _, home := range []int{1, 2} {
		read, _ := x.Read(home)
		again, _ := x.Read(home)
		clear(read)
		if bytes.Equal(read, again) {
			t.Error("two reads share their bytes")
		}
	}
	checkRead(t, x, 1, rising(3))
	checkErr(t, "Commit", x.Commit(), api.OK)
	checkRead(t, l, 1, rising(3))
	checkRead(t, l, 2, rising(1))
}
