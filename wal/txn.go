package wal

import (
	"bytes"
	"maps"
	"slices"

	"bastille/api"
)

// Txn is writes that are done together.
type Txn struct {
	log      *Log // nil in the zero value, which is no transaction
	since    int  // how many transactions the log had committed when this one began
	writes   map[int][]byte
	finished bool
}

// Begin is a transaction.
func (l *Log) Begin() (*Txn, api.Errno) {
	if e := l.state(); e != api.OK {
		return nil, e
	}
	return &Txn{log: l, since: l.commits, writes: map[int][]byte{}}, api.OK
}

// Read is a home's bytes, as the transaction has them.
func (t *Txn) Read(home int) ([]byte, api.Errno) {
	if e := t.state(); e != api.OK {
		return nil, e
	}
	if b, ok := t.writes[home]; ok {
		return bytes.Clone(b), api.OK
	}
	return t.log.Read(home)
}

// Write writes a home in the transaction.
func (t *Txn) Write(home int, b []byte) api.Errno {
	if e := t.state(); e != api.OK {
		return e
	}
	if !t.log.has(home) {
		return api.ErrDisk
	}
	if len(b) != api.Sector {
		return api.ErrArg
	}
	t.writes[home] = bytes.Clone(b)
	return api.OK
}

// Weight is how many homes were written.
func (t *Txn) Weight() int {
	if !t.exists() {
		return 0
	}
	return len(t.writes)
}

// Commit does all that was written.
func (t *Txn) Commit() api.Errno {
	if e := t.state(); e != api.OK {
		return e
	}
	w := make([]api.Write, 0, len(t.writes))
	for _, home := range slices.Sorted(maps.Keys(t.writes)) {
		w = append(w, api.Write{Home: home, Data: t.writes[home]})
	}
	if e := t.log.Commit(w); e != api.OK {
		return e
	}
	t.finished = true
	return api.OK
}

// exists tells whether Begin made it.
func (t *Txn) exists() bool { return t != nil && t.log != nil }

// state is the error of every call on a transaction that is none, whose log is over, or that is itself.
func (t *Txn) state() api.Errno {
	if !t.exists() {
		return api.ErrNil
	}
	if e := t.log.state(); e != api.OK {
		return e
	}
	if t.finished || t.log.commits != t.since {
		return api.ErrStale
	}
	return api.OK
}
