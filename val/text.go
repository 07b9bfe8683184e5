package val

import (
	"strconv"
	"strings"

	"marline/api"
	"marline/whole"
)

// between stands between any two Kids.
const between = ", "

// Text is a value's text.
func Text(v api.Value) string {
	if !Right(v) {
		return ""
	}
	var b strings.Builder
	write(&b, v)
	return b.String()
}

// write puts the text of a right value behind others.
func write(b *strings.Builder, v api.Value) {
	switch v.Kind {
	case api.ValInt:
		b.WriteString(whole.Text(v.N))
	case api.ValBool:
		b.WriteString(strconv.FormatBool(v.N == 1))
	case api.ValArr:
		writeAll(b, "[", v.Kids, "]")
	case api.ValRec:
		writeAll(b, "{", v.Kids, "}")
	}
}

// writeAll puts texts between two brackets.
func writeAll(b *strings.Builder, opening string, l []api.Value, closing string) {
	b.WriteString(opening)
	for i, v := range l {
		if i > 0 {
			b.WriteString(between)
		}
		write(b, v)
	}
	b.WriteString(closing)
}

// reader reads a text from its front. What is open stands in a row, not in
// calls that lie in one another: a text may open more brackets than there is
// room for calls.
type reader struct {
	rest string      // what is not read yet
	open []part      // the arrays and records that are not closed yet
	done []api.Value // the values that are read, and in no closed one
}

// part is an array or a record that is open.
type part struct {
	kind int
	from int // where its Kids begin among those that are done
}

// Read is the value of a text.
func Read(s string) (api.Value, api.Errno) {
	r := reader{rest: s}
	for r.value() {
		if len(r.open) > 0 && r.take(between) {
			continue
		}
		if len(r.open) > 0 || r.rest != "" {
			break
		}
		return r.done[0], api.OK
	}
	return api.Value{}, api.ErrForm
}

// value reads up to the end of a value, and of all that end with it.
func (r *reader) value() bool {
	if empty := r.opens() && r.closes(); !empty && !r.plain() {
		return false
	}
	for r.closes() {
	}
	return true
}

// take reads some bytes, if they come next.
func (r *reader) take(s string) bool {
	rest, ok := strings.CutPrefix(r.rest, s)
	if ok {
		r.rest = rest
	}
	return ok
}

// opens reads all opening brackets that come next, and says if there are any.
func (r *reader) opens() bool {
	was := len(r.open)
	for {
		switch {
		case r.take("["):
			r.open = append(r.open, part{api.ValArr, len(r.done)})
		case r.take("{"):
			r.open = append(r.open, part{api.ValRec, len(r.done)})
		default:
			return len(r.open) > was
		}
	}
}

// closes reads the closing bracket of what was opened last, if it comes next.
func (r *reader) closes() bool {
	if len(r.open) == 0 {
		return false
	}
	last := r.open[len(r.open)-1]
	closing := "]"
	if last.kind == api.ValRec {
		closing = "}"
	}
	if !r.take(closing) {
		return false
	}
	v := made(last.kind, r.done[last.from:])
	r.done = append(r.done[:last.from], v)
	r.open = r.open[:len(r.open)-1]
	return true
}

// plain reads a number or a flag, if one comes next: all bytes up to one that
// can only stand behind it.
func (r *reader) plain() bool {
	end := strings.IndexAny(r.rest, ",]}")
	if end < 0 {
		end = len(r.rest)
	}
	v, ok := single(r.rest[:end])
	if ok {
		r.rest = r.rest[end:]
		r.done = append(r.done, v)
	}
	return ok
}

// single is the number or the flag that a text is of.
func single(s string) (api.Value, bool) {
	switch s {
	case "true":
		return Bool(true), true
	case "false":
		return Bool(false), true
	}
	n, e := whole.Signed(s)
	return Int(n), e == api.OK
}
