package wal_test

import (
	"bytes"
	"math/rand/v2"
	"slices"
	"testing"

	"bastille/api"
	"bastille/disk"
	"bastille/wal"
)

// homesOf is the bytes of all homes.
func homesOf(t *testing.T, l *wal.Log) [][]byte {
	t.Helper()
	var all [][]byte
	for home := range l.Homes() {
		b, e := l.Read(home)
		checkErr(t, "Read", e, api.OK)
		all = append(all, b)
	}
	return all
}

func sameHomes(a, b [][]byte) bool { return slices.EqualFunc(a, b, bytes.Equal) }

// after is the homes after writes.
func after(homes [][]byte, w []api.Write) [][]byte {
	homes = slices.Clone(homes)
	for _, x := range w {
		homes[x.Home] = x.Data
	}
	return homes
}

// someChoices is what may be kept of n pending writes: all or nothing of each, one of them torn, and by lot.
func someChoices(r *rand.Rand, n int) [][]byte {
	all := [][]byte{nil, bytes.Repeat([]byte{64}, n)}
	for i := range n {
		for _, torn := range []byte{0, 1, 11, 37, 55, 56, 60, 63, 64} {
			kept := bytes.Repeat([]byte{64}, n)
			kept[i] = torn
			lost := make([]byte, n)
			lost[i] = torn
			all = append(all, kept, lost)
		}
	}
	for range 8 {
		drawn := make([]byte, n)
		for i := range drawn {
			drawn[i] = byte(r.IntN(66))
		}
		all = append(all, drawn)
	}
	return all
}

// crashed is copies of a disk after a crash, with all that may be kept.
func crashed(r *rand.Rand, d *disk.Disk) []*disk.Disk {
	var all []*disk.Disk
	for _, choices := range someChoices(r, d.Waiting()) {
		c := d.Clone()
		c.Crash(choices)
		all = append(all, c)
	}
	return all
}

// history is some commits of a log of nine places and four homes; they raise the base, too.
func history() [][]api.Write {
	return [][]api.Write{
		{{Home: 1, Data: rising(1)}},
		{{Home: 1, Data: rising(2)}, {Home: 3, Data: rising(3)}},
		{{Home: 0, Data: rising(4)}, {Home: 0, Data: rising(5)}, {Home: 1, Data: rising(6)}},
		{{Home: 2, Data: rising(7)}},
	}
}

// P18.5: wherever the power fails in a series of commits, and whatever is kept: all that were answered have survived, and nothing or all of the one in progress; all of it, once it was flushed.
func TestCrashes(t *testing.T) {
	r := rand.New(rand.NewPCG(18, 5))
	for fuse := 0; ; fuse++ {
		d, l := newLog(t, 9, 4)
		d.Fuse(fuse)
		answered := 0
		for answered < len(history()) && l.Commit(history()[answered]) == api.OK {
			answered++
		}
		before, done := afterAll(answered), afterAll(min(answered+1, len(history())))
		for _, c := range crashed(r, d) {
			got := homesOf(t, open(t, c))
			if !sameHomes(got, done) && (l.Commits() > answered || !sameHomes(got, before)) {
				t.Fatalf("with a fuse of %d, after %d commits: the homes are %x", fuse, answered, got)
			}
		}
		if answered == len(history()) {
			return
		}
	}
}

// afterAll is the homes after so many commits of the history.
func afterAll(commits int) [][]byte {
	homes := slices.Repeat([][]byte{full(0)}, 4)
	for _, w := range history()[:commits] {
		homes = after(homes, w)
	}
	return homes
}

// P18.5: wherever the power fails while a log is recovered, and whatever is kept: it is recovered to the same homes, again and again.
func TestRecoverAgain(t *testing.T) {
	r := rand.New(rand.NewPCG(18, 6))
	for commits := range 5 {
		first, l := newLog(t, 9, 4)
		for _, w := range history()[:commits] {
			checkErr(t, "Commit", l.Commit(w), api.OK)
		}
		want := afterAll(commits)
		for _, kept := range crashed(r, first)[:4] {
			recoverAgain(t, r, kept, want, 1)
		}
	}
}

// recoverAgain lets the power fail at each step of a recovery, and recovers again.
func recoverAgain(t *testing.T, r *rand.Rand, d *disk.Disk, want [][]byte, deep int) {
	t.Helper()
	for fuse := 0; ; fuse++ {
		c := d.Clone()
		c.Fuse(fuse)
		l, e := wal.Open(c)
		if e == api.OK {
			checkHomes(t, l, want)
			return
		}
		checkErr(t, "Open", e, api.ErrPower)
		for i, k := range crashed(r, c) {
			if deep > 0 && i < 6 {
				recoverAgain(t, r, k, want, deep-1)
			}
			checkHomes(t, open(t, k), want)
			if t.Failed() {
				t.Fatalf("with a fuse of %d", fuse)
			}
		}
	}
}

// P18.5: a log that is opened again without a crash is the same, with what it had committed, and another base.
func TestOpenAgain(t *testing.T) {
	d, l := newLog(t, 9, 4)
	checkErr(t, "Commit", l.Commit(history()[1]), api.OK)
	want := homesOf(t, l)
	for i := range 5 {
		l = open(t, d)
		checkHomes(t, l, want)
		checkTold(t, l, 4, 19+9*i, 9, 0)
	}
}

// P18.5: what was torn in one life is nothing in the next ones, though its entries remain on the disk.
func TestTornEntriesRemain(t *testing.T) {
	w := history()[1]
	d, l := newLog(t, 9, 4)
	d.Fuse(5)
	checkErr(t, "Commit", l.Commit(w), api.ErrPower)
	checkErr(t, "Crash", d.Crash([]byte{64, 64, 64, 64}), api.OK)
	l = open(t, d)
	checkSector(t, d, 2, entriesOf(10, w)[0])
	d.Fuse(5)
	checkErr(t, "Commit", l.Commit(w), api.ErrPower)
	checkErr(t, "Crash", d.Crash([]byte{0, 0, 0, 0, 64}), api.OK)
	l = open(t, d)
	checkHomes(t, l, slices.Repeat([][]byte{full(0)}, 4))
	checkTold(t, l, 4, 28, 9, 0)
}

// A journal is a log beside what it should be.
type journal struct {
	d                   *disk.Disk
	l                   *wal.Log
	homes               [][]byte
	size, base, left, n int
	open                []*draft
}

// A draft is a transaction beside what it should be.
type draft struct {
	x      *wal.Txn
	since  int
	writes map[int][]byte
	done   bool
}

// P18.1 to P18.5: calls by lot, on a log and beside it.
func TestCallsByLot(t *testing.T) {
	for seed := range uint64(1000) {
		r := rand.New(rand.NewPCG(seed, 18))
		size, homes := 3+r.IntN(15), 1+r.IntN(6)
		j := &journal{size: size, base: 1 + size, left: size, homes: slices.Repeat([][]byte{full(0)}, homes)}
		j.d, j.l = newLog(t, size, homes)
		for range 120 {
			j.call(t, r)
			checkHomes(t, j.l, j.homes)
			checkTold(t, j.l, homes, j.base, j.left, j.n)
			if t.Failed() {
				t.Fatalf("with seed %d", seed)
			}
		}
	}
}

// call does something by lot.
func (j *journal) call(t *testing.T, r *rand.Rand) {
	t.Helper()
	switch k := r.IntN(20); {
	case k < 6:
		j.commit(t, r, j.drawn(r), j.l.Commit)
	case k < 8:
		j.open = append(j.open, &draft{x: begin(t, j.l), since: j.n, writes: map[int][]byte{}})
	case k < 15:
		if len(j.open) > 0 {
			j.work(t, r, j.open[r.IntN(len(j.open))])
		}
	case k < 16:
		checkErr(t, "Checkpoint", j.l.Checkpoint(), api.OK)
		j.base, j.left = j.base+j.size, j.size
	case k < 17:
		j.crash(t, r)
	default:
		home := r.IntN(len(j.homes)+2) - 1
		if home < 0 || home == len(j.homes) {
			checkNoRead(t, j.l, home, api.ErrDisk)
			checkErr(t, "Commit", j.l.Commit([]api.Write{{Home: home, Data: full(1)}}), api.ErrArg)
		}
	}
}

// drawn is writes by lot.
func (j *journal) drawn(r *rand.Rand) []api.Write {
	w := make([]api.Write, r.IntN(6))
	for i := range w {
		w[i] = api.Write{Home: r.IntN(len(j.homes)), Data: rising(byte(r.IntN(256)))}
	}
	return w
}

// commit commits writes, perhaps with a power failure.
func (j *journal) commit(t *testing.T, r *rand.Rand, w []api.Write, call func([]api.Write) api.Errno) {
	t.Helper()
	need := 2*len(w) + 1
	if len(w) == 0 || need > j.size {
		want := api.OK
		if len(w) > 0 {
			want = api.ErrLimit
		}
		checkErr(t, "Commit", call(w), want)
		return
	}
	fuse := -1
	if r.IntN(3) == 0 {
		fuse = r.IntN(need + len(w) + 5)
	}
	j.d.Fuse(fuse)
	e := call(w)
	j.d.Fuse(-1)
	switch {
	case e == api.ErrPower && fuse >= 0:
		j.choose(t, r, w)
	case e == api.OK:
		j.take(w, need)
	default:
		checkErr(t, "Commit", e, api.OK)
	}
}

// take does writes beside the log.
func (j *journal) take(w []api.Write, need int) {
	j.homes = after(j.homes, w)
	if j.left < need {
		j.base, j.left = j.base+j.size, j.size
	}
	j.left -= need
	j.n++
}

// choose opens a log whose power failed in a commit: it has the homes of before or after.
func (j *journal) choose(t *testing.T, r *rand.Rand, w []api.Write) {
	t.Helper()
	flushed := j.l.Commits() > j.n
	j.reopen(t, r)
	got, done := homesOf(t, j.l), after(j.homes, w)
	if !sameHomes(got, done) && (flushed || !sameHomes(got, j.homes)) {
		t.Errorf("the homes are %x, neither %x nor %x", got, j.homes, done)
	}
	j.homes = got
}

// crash ends a life, perhaps with power failures while the next one begins.
func (j *journal) crash(t *testing.T, r *rand.Rand) {
	t.Helper()
	for range r.IntN(3) {
		j.powerless(r)
		j.d.Fuse(r.IntN(8))
		wal.Open(j.d)
	}
	j.reopen(t, r)
}

// powerless lets the power fail, and come back.
func (j *journal) powerless(r *rand.Rand) {
	choices := make([]byte, r.IntN(j.d.Waiting()+1))
	for i := range choices {
		choices[i] = byte(r.IntN(90))
	}
	j.d.Crash(choices)
}

// reopen opens the log of the next life; how often its base was raised is to be told by the log alone.
func (j *journal) reopen(t *testing.T, r *rand.Rand) {
	t.Helper()
	old := j.l
	j.powerless(r)
	j.l = open(t, j.d)
	if b := j.l.Base(); b <= old.Base() || (b-1)%j.size != 0 {
		t.Errorf("Base = %d, after %d", b, old.Base())
	}
	checkErr(t, "Checkpoint of a log whose life has ended", old.Checkpoint(), api.ErrPower)
	j.base, j.left, j.n, j.open = j.l.Base(), j.size, 0, nil
}

// work does something with a transaction.
func (j *journal) work(t *testing.T, r *rand.Rand, x *draft) {
	t.Helper()
	home := r.IntN(len(j.homes)+1) - r.IntN(2)
	there := home >= 0 && home < len(j.homes)
	switch k := r.IntN(10); {
	case x.done || x.since != j.n:
		checkNoRead(t, x.x, home, api.ErrStale)
		checkErr(t, "Write", x.x.Write(home, full(1)), api.ErrStale)
		checkErr(t, "Commit", x.x.Commit(), api.ErrStale)
	case k < 4 && !there:
		checkErr(t, "Write", x.x.Write(home, full(1)), api.ErrDisk)
		checkNoRead(t, x.x, home, api.ErrDisk)
	case k < 4:
		x.writes[home] = rising(byte(r.IntN(256)))
		checkErr(t, "Write", x.x.Write(home, x.writes[home]), api.OK)
	case k < 8 && there:
		want := x.writes[home]
		if want == nil {
			want = j.homes[home]
		}
		checkRead(t, x.x, home, want)
	case k == 9:
		j.finish(t, r, x)
	}
	if x.x.Weight() != len(x.writes) {
		t.Errorf("Weight = %d, not %d", x.x.Weight(), len(x.writes))
	}
}

// finish commits a transaction.
func (j *journal) finish(t *testing.T, r *rand.Rand, x *draft) {
	t.Helper()
	var w []api.Write
	for home := range j.homes {
		if b, ok := x.writes[home]; ok {
			w = append(w, api.Write{Home: home, Data: b})
		}
	}
	j.commit(t, r, w, func([]api.Write) api.Errno { return x.x.Commit() })
	x.done = 2*len(w)+1 <= j.size
}
