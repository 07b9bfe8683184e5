package cell

import (
	"marline/api"
	"marline/val"
)

// reader reads bytes from their front. What is open stands in a row, not in
// calls that lie in one another: bytes may tell of more arrays in one another
// than there is room for calls. No room is made ahead for Kids that are told:
// they may never come.
type reader struct {
	rest []byte      // what is not read yet
	open []part      // the arrays and records of which Kids are still to come
	done []api.Value // the values that are read, and in no closed one
}

// part is an array or a record that is open.
type part struct {
	kind int
	many int // how many Kids it has
	from int // where these begin among those that are done
}

// Read is the value of some bytes.
func Read(b []byte) (api.Value, api.Errno) {
	r := reader{rest: b}
	if !r.value() || len(r.rest) > 0 {
		return api.Value{}, api.ErrForm
	}
	return r.done[0], api.OK
}

// Unpack are the values of some bytes.
func Unpack(b []byte) ([]api.Value, api.Errno) {
	r := reader{rest: b}
	for len(r.rest) > 0 {
		if !r.value() {
			return nil, api.ErrForm
		}
	}
	return r.done, api.OK
}

// value reads a value that lies in no other one, with all that lies in it.
func (r *reader) value() bool {
	for r.begin() {
		r.close()
		if len(r.open) == 0 {
			return true
		}
	}
	return false
}

// begin reads a number or a flag, or of an array or a record what comes ahead
// of its Kids.
func (r *reader) begin() bool {
	kind, ok := r.next()
	if !ok {
		return false
	}
	switch kind {
	case api.ValInt:
		n, ok := r.number()
		r.done = append(r.done, val.Int(n))
		return ok
	case api.ValBool:
		n, ok := r.next()
		r.done = append(r.done, val.Bool(n == 1))
		return ok && n <= 1
	case api.ValArr, api.ValRec:
		n, ok := r.number()
		r.open = append(r.open, part{kind: int(kind), many: n, from: len(r.done)})
		return ok && n >= 0
	}
	return false
}

// close makes the arrays and records that end here, the inmost ones first.
func (r *reader) close() {
	for len(r.open) > 0 {
		last := r.open[len(r.open)-1]
		kids := r.done[last.from:]
		if len(kids) < last.many {
			return
		}
		r.done = append(r.done[:last.from], made(last.kind, kids))
		r.open = r.open[:len(r.open)-1]
	}
}

// made is an array or a record, in new memory.
func made(kind int, kids []api.Value) api.Value {
	if kind == api.ValArr {
		return val.Arr(kids...)
	}
	return val.Rec(kids...)
}

// number reads a number by its groups.
func (r *reader) number() (int, bool) {
	var u uint64
	for at := 0; at < 64; at += group {
		b, ok := r.next()
		low := uint64(b % another)
		if !ok || low<<at>>at != low { // what does not come back was above 64 bits
			return 0, false
		}
		u |= low << at
		if b < another {
			return unfolded(u), b > 0 || at == 0
		}
	}
	return 0, false
}

// next reads a byte, if there is one.
func (r *reader) next() (byte, bool) {
	if len(r.rest) == 0 {
		return 0, false
	}
	b := r.rest[0]
	r.rest = r.rest[1:]
	return b, true
}
