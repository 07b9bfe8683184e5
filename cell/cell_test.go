package cell

import (
	"bytes"
	"math"
	"slices"
	"strconv"
	"strings"
	"testing"

	"marline/api"
	"marline/val"
)

// num, arr and rec are values of all kinds but flags, which flag makes of any
// number.
var num, arr, rec = val.Int, val.Arr, val.Rec

func flag(n int) api.Value { return api.Value{Kind: api.ValBool, N: n} }

// list is a list of values, row one of bytes.
func list(l ...api.Value) []api.Value { return l }
func row(b ...byte) []byte            { return b }

// joined are rows one behind the other, in new memory.
func joined(rows ...[]byte) []byte { return slices.Concat(rows...) }

// rep is a list of n times v.
func rep(n int, v api.Value) []api.Value { return slices.Repeat(list(v), n) }

// times is a row of n times some bytes.
func times(n int, b ...byte) []byte { return bytes.Repeat(b, n) }

// dump is a value written so that any two that are not the same are unlike.
func dump(v api.Value) string {
	var b strings.Builder
	write(&b, v)
	return b.String()
}

func write(b *strings.Builder, v api.Value) {
	b.WriteString("(" + strconv.Itoa(v.Kind) + " " + strconv.Itoa(v.N))
	for _, k := range v.Kids {
		write(b, k)
	}
	b.WriteString(")")
}

// dumps is the same of a list.
func dumps(l []api.Value) string { return strconv.Itoa(len(l)) + dump(arr(l...)) }

// sample is a right value, and its bytes.
type sample struct {
	v api.Value
	b []byte
}

// numbers are numbers and their bytes, written out, and at the edges of each
// length of groups.
func numbers() []sample {
	l := []sample{
		{num(0), row(0, 0)}, {num(-1), row(0, 1)}, {num(1), row(0, 2)}, {num(-2), row(0, 3)}, {num(2), row(0, 4)}, {num(-3), row(0, 5)},
		{num(62), row(0, 124)}, {num(63), row(0, 126)}, {num(-63), row(0, 125)}, {num(-64), row(0, 127)},
		{num(64), row(0, 128, 1)}, {num(-65), row(0, 129, 1)}, {num(65), row(0, 130, 1)}, {num(100), row(0, 200, 1)}, {num(127), row(0, 254, 1)}, {num(128), row(0, 128, 2)}, {num(-128), row(0, 255, 1)}, {num(-129), row(0, 129, 2)},
		{num(300), row(0, 216, 4)}, {num(-300), row(0, 215, 4)}, {num(8191), row(0, 254, 127)}, {num(-8192), row(0, 255, 127)}, {num(8192), row(0, 128, 128, 1)}, {num(-8193), row(0, 129, 128, 1)},
		{num(1 << 20), row(0, 128, 128, 128, 1)}, {num(1<<31 - 1), row(0, 254, 255, 255, 255, 15)}, {num(-1 << 31), row(0, 255, 255, 255, 255, 15)}, {num(1 << 32), row(0, 128, 128, 128, 128, 32)},
		{num(1 << 62), row(0, 128, 128, 128, 128, 128, 128, 128, 128, 128, 1)}, {num(math.MaxInt - 1), row(0, 252, 255, 255, 255, 255, 255, 255, 255, 255, 1)},
		{num(math.MaxInt), row(0, 254, 255, 255, 255, 255, 255, 255, 255, 255, 1)}, {num(math.MinInt), row(0, 255, 255, 255, 255, 255, 255, 255, 255, 255, 1)}, {num(math.MinInt + 1), row(0, 253, 255, 255, 255, 255, 255, 255, 255, 255, 1)},
		{api.Value{N: 5, Kids: list()}, row(0, 10)},
	}
	for groups := 2; groups <= 9; groups++ {
		least := 1 << (7*groups - 1) // of those from 0 on that have one group more
		full := times(groups-2, 255)
		l = append(l,
			sample{num(least - 1), joined(row(0, 254), full, row(127))}, sample{num(least - 2), joined(row(0, 252), full, row(127))},
			sample{num(-least), joined(row(0, 255), full, row(127))}, sample{num(1 - least), joined(row(0, 253), full, row(127))},
			sample{num(least), joined(row(0), times(groups, 128), row(1))}, sample{num(least + 1), joined(row(0, 130), times(groups-1, 128), row(1))},
			sample{num(-least - 1), joined(row(0, 129), times(groups-1, 128), row(1))}, sample{num(-least - 2), joined(row(0, 131), times(groups-1, 128), row(1))})
	}
	return l
}

// count is a number of Kids, and its groups.
type count struct {
	n      int
	groups []byte
}

// counts are numbers of Kids.
func counts() []count {
	return []count{{0, row(0)}, {1, row(2)}, {2, row(4)}, {3, row(6)}, {62, row(124)}, {63, row(126)}, {64, row(128, 1)}, {65, row(130, 1)}, {127, row(254, 1)}, {128, row(128, 2)}, {129, row(130, 2)}, {256, row(128, 4)}, {257, row(130, 4)}, {1000, row(208, 15)}, {8191, row(254, 127)}, {8192, row(128, 128, 1)}}
}

// samples are right values of every kind.
func samples() []sample {
	l := append(numbers(), sample{flag(0), row(1, 0)}, sample{flag(1), row(1, 1)}, sample{api.Value{Kind: api.ValBool, N: 1, Kids: list()}, row(1, 1)})
	for _, c := range counts() {
		n, groups := c.n, c.groups
		for kind := api.ValArr; kind <= api.ValRec; kind++ {
			k := byte(kind)
			l = append(l,
				sample{api.Value{Kind: kind, Kids: rep(n, num(0))}, joined(row(k), groups, times(n, 0, 0))},
				sample{api.Value{Kind: kind, Kids: rep(n, rec())}, joined(row(k), groups, times(n, 3, 0))},
				sample{api.Value{Kind: kind, Kids: rep(n, arr(num(64), flag(1)))}, joined(row(k), groups, times(n, 2, 4, 0, 128, 1, 1, 1))},
				sample{arr(num(7), api.Value{Kind: kind, Kids: rep(n, flag(1))}, flag(0)), joined(row(2, 6, 0, 14, k), groups, times(n, 1, 1), row(1, 0))})
		}
	}
	return append(l, []sample{
		{arr(list()...), row(2, 0)}, {api.Value{Kind: api.ValRec, Kids: list()}, row(3, 0)},
		{arr(num(3)), row(2, 2, 0, 6)}, {rec(num(3)), row(3, 2, 0, 6)}, {arr(num(1), num(2)), row(2, 4, 0, 2, 0, 4)}, {arr(num(2), num(1)), row(2, 4, 0, 4, 0, 2)},
		{arr(arr()), row(2, 2, 2, 0)}, {arr(rec()), row(2, 2, 3, 0)}, {rec(arr()), row(3, 2, 2, 0)}, {rec(rec()), row(3, 2, 3, 0)},
		{arr(arr(), arr()), row(2, 4, 2, 0, 2, 0)}, {arr(arr(arr())), row(2, 2, 2, 2, 2, 0)}, {arr(arr(num(1)), num(2)), row(2, 4, 2, 2, 0, 2, 0, 4)}, {arr(num(1), arr(num(2))), row(2, 4, 0, 2, 2, 2, 0, 4)},
		{arr(arr(num(1), num(2))), row(2, 2, 2, 4, 0, 2, 0, 4)}, {arr(arr(), num(1)), row(2, 4, 2, 0, 0, 2)}, {rec(num(1), arr(num(5), num(6))), row(3, 4, 0, 2, 2, 4, 0, 10, 0, 12)},
		{rec(arr(rec(arr(flag(0)))), num(-7), rec(rec(), arr(arr()))), row(3, 6, 2, 2, 3, 2, 2, 2, 1, 0, 0, 13, 3, 4, 3, 0, 2, 2, 2, 0)},
		{arr(num(math.MinInt), num(math.MaxInt)), joined(row(2, 4, 0, 255), times(8, 255), row(1, 0, 254), times(8, 255), row(1))},
		{tower(5, flag(1)), row(2, 2, 3, 2, 2, 2, 3, 2, 2, 2, 1, 1)},
	}...)
}

// tower is a value with n others around it, arrays and records in turn, the
// inmost one an array.
func tower(n int, inmost api.Value) api.Value {
	v := inmost
	for i := range n {
		v = api.Value{Kind: api.ValArr + i%2, Kids: list(v)}
	}
	return v
}

// towerBytes are what comes ahead of the bytes of the inmost one.
func towerBytes(n int) []byte {
	b := times(n, 3, 2)
	for i := range n {
		b[2*i] = byte(api.ValArr + (n-1-i)%2)
	}
	return b
}

// wrong are values that are not right: of themselves, and by what lies in
// them: as the first Kid, the last one, among others, and deep inside.
func wrong() []api.Value {
	var l []api.Value
	for _, kind := range []int{math.MinInt, -1 << 32, -256, -255, -254, -253, -2, -1, 4, 5, 255, 256, 257, 258, 259, 1 << 32, 1<<32 + 1, 1<<32 + api.ValArr, 1<<32 + api.ValRec, math.MaxInt} {
		l = append(l, api.Value{Kind: kind}, api.Value{Kind: kind, N: 1}, api.Value{Kind: kind, Kids: list(num(1))})
	}
	for _, n := range []int{math.MinInt, -1 << 32, -256, -255, -2, -1, 2, 3, 127, 128, 255, 256, 257, 1 << 32, 1<<32 + 1, math.MaxInt} {
		l = append(l, flag(n), api.Value{Kind: api.ValArr, N: n}, api.Value{Kind: api.ValRec, N: n}, api.Value{Kind: api.ValArr, N: n, Kids: list(num(1))}, api.Value{Kind: api.ValRec, N: n, Kids: list(num(1))})
	}
	l = append(l, api.Value{Kind: api.ValArr, N: 1}, api.Value{Kind: api.ValRec, N: 1})
	for _, kids := range [][]api.Value{list(num(0)), list(arr()), list(num(1), flag(0))} {
		l = append(l, api.Value{Kids: kids}, api.Value{N: 7, Kids: kids}, api.Value{Kind: api.ValBool, Kids: kids}, api.Value{Kind: api.ValBool, N: 1, Kids: kids})
	}
	for _, w := range slices.Clone(l) {
		l = append(l, arr(w), rec(w), arr(w, num(1), num(2)), rec(num(1), num(2), w), arr(num(1), w, arr()), rec(arr(), arr(rec(w), num(1)), flag(1)), tower(40, w), arr(append(rep(70, num(1)), w)...))
	}
	return l
}

// told says by an error if a call's value is not the one that it should be.
func told(t *testing.T, b []byte, v api.Value, e api.Errno, want api.Value) {
	t.Helper()
	if e != api.OK || dump(v) != dump(want) {
		t.Errorf("Read(%.40v) = %.80s, %v; want %.80s", b, dump(v), e, dump(want))
	}
}

// nothing says by an error if a row is read, or something stands beside the
// error.
func nothing(t *testing.T, b []byte) {
	t.Helper()
	if v, e := Read(b); e != api.ErrForm || v.Kind != 0 || v.N != 0 || len(v.Kids) != 0 {
		t.Errorf("Read(%.40v) = %.80s, %v; want none", b, dump(v), e)
	}
}

// unpacked says by an error if the values of a row are not those that they
// should be.
func unpacked(t *testing.T, b []byte, want ...api.Value) {
	t.Helper()
	if l, e := Unpack(b); e != api.OK || dumps(l) != dumps(want) {
		t.Errorf("Unpack(%.40v) = %.80s, %v; want %.80s", b, dumps(l), e, dumps(want))
	}
}

// notUnpacked says by an error if a row has values, or some stand beside the
// error.
func notUnpacked(t *testing.T, b []byte) {
	t.Helper()
	if l, e := Unpack(b); e != api.ErrForm || len(l) != 0 {
		t.Errorf("Unpack(%.40v) = %.80s, %v; want none", b, dumps(l), e)
	}
}

// TestExamples: the chapter's (8.1, 8.2).
func TestExamples(t *testing.T) {
	for _, c := range []sample{{num(-3), row(0, 5)}, {arr(num(64), flag(1)), row(2, 4, 0, 128, 1, 1, 1)}} {
		if b := Bytes(c.v); !bytes.Equal(b, c.b) || Long(c.v) != len(c.b) {
			t.Error(dump(c.v), b, Long(c.v))
		}
		v, e := Read(c.b)
		told(t, c.b, v, e, c.v)
	}
}

// TestBytes: 8.1, of right values their bytes, and how many.
func TestBytes(t *testing.T) {
	for _, s := range samples() {
		if b := Bytes(s.v); !bytes.Equal(b, s.b) {
			t.Errorf("Bytes(%.80s) = %.40v; want %.40v", dump(s.v), b, s.b)
		}
		if n := Long(s.v); n != len(s.b) {
			t.Errorf("Long(%.80s) = %d; want %d", dump(s.v), n, len(s.b))
		}
	}
}

// TestWrong: 8.1, values that are not right have no bytes.
func TestWrong(t *testing.T) {
	for _, v := range wrong() {
		if b := Bytes(v); len(b) != 0 {
			t.Errorf("Bytes(%.80s) = %.40v", dump(v), b)
		}
		if n := Long(v); n != 0 {
			t.Errorf("Long(%.80s) = %d", dump(v), n)
		}
	}
}

// TestNew: 8.1, 8.2, bytes and values are new memory: what becomes of them,
// or of the bytes that were read, changes no other answer.
func TestNew(t *testing.T) {
	v := arr(num(64), flag(1))
	first, pack := Bytes(v), Pack(v, v)
	for i := range first {
		first[i], pack[i] = 99, 99
	}
	_, _ = append(first, 98, 97), append(pack, 98, 97)
	want := row(2, 4, 0, 128, 1, 1, 1)
	if b := Bytes(v); !bytes.Equal(b, want) || !bytes.Equal(Pack(v, v), joined(want, want)) {
		t.Error(b, Pack(v, v))
	}
	b := joined(want, row(3, 2), want, row(0, 9))
	l, e := Unpack(b)
	again, other := Unpack(b)
	clear(b)
	clear(again)
	_ = append(again, num(77))
	if e != api.OK || other != api.OK || dumps(l) != dumps(list(v, rec(v), num(-5))) {
		t.Error(e, other, dumps(l))
	}
	clear(l[0].Kids)
	_ = append(l[0].Kids, num(77), num(78), num(79))
	if dumps(l[1:]) != dumps(list(rec(v), num(-5))) {
		t.Error(dumps(l))
	}
}

// TestReadBytes: 8.2, 8.3, the bytes of right values are read as these; so
// are they in the midst of longer memory.
func TestReadBytes(t *testing.T) {
	for _, s := range samples() {
		v, e := Read(s.b)
		told(t, s.b, v, e, s.v)
		if !val.Right(v) || !val.Same(v, s.v) {
			t.Errorf("%.80s is not the same, or not right", dump(v))
		}
		long := joined(row(0), s.b, row(0, 0, 2, 0))
		within := long[1 : 1+len(s.b)]
		v, e = Read(within)
		told(t, within, v, e, s.v)
		v, e = Read(Bytes(s.v))
		told(t, s.b, v, e, s.v)
	}
}

// faults are rows that no value's bytes are or begin with, none of them too
// short only.
func faults() [][]byte {
	var l [][]byte
	for kind := 4; kind < 256; kind++ { // no such kind
		l = append(l, row(byte(kind)), row(byte(kind), 0), row(byte(kind), 2, 0, 2), row(2, 2, byte(kind), 0), row(3, 4, 0, 0, byte(kind), 0))
	}
	for n := 2; n < 256; n++ { // neither 0 nor 1
		l = append(l, row(1, byte(n)), row(2, 2, 1, byte(n)), row(3, 4, 1, 1, 1, byte(n)), row(2, 4, 1, byte(n), 0, 0))
	}
	for _, groups := range badGroups() {
		l = append(l, joined(row(0), groups), joined(row(2), groups), joined(row(3), groups), joined(row(2, 2, 0), groups), joined(row(3, 4, 0, 0, 2), groups), joined(row(2, 4, 0), groups, row(0, 0)), joined(row(2), groups, times(200, 0, 0)))
	}
	for _, groups := range [][]byte{row(1), row(3), row(5), row(127), row(129, 1), row(255, 127), joined(times(9, 255), row(1)), joined(row(129), times(8, 128), row(1))} { // below 0 Kids
		l = append(l, joined(row(2), groups), joined(row(3), groups), joined(row(2), groups, row(0, 0)), joined(row(3), groups, times(70, 0, 0)), joined(row(2, 2, 3), groups), joined(row(3, 4, 2), groups, row(0, 0)))
	}
	return l
}

// badGroups are rows that no number's groups are or begin with: not as few
// as can be, above 64 bits, or too many.
func badGroups() [][]byte {
	var l [][]byte
	for _, low := range []byte{128, 129, 130, 131, 132, 254, 255} {
		for n := range 12 {
			l = append(l, joined(row(low), times(n, 128), row(0)), joined(row(low), times(n, 255), row(0)))
		}
		for high := 2; high < 256; high++ {
			l = append(l, joined(times(9, low), row(byte(high))))
		}
		for n := 10; n < 25; n++ {
			l = append(l, joined(times(n, low), row(1)), joined(times(n, low), row(0)), times(n, low))
		}
		l = append(l, times(1000, low), joined(times(9, low), row(128, 128, 1)), joined(times(9, low), row(129, 0)))
	}
	return l
}

// TestReadNone: 8.2, rows that are no value's bytes, alone and with bytes
// behind them.
func TestReadNone(t *testing.T) {
	nothing(t, nil)
	nothing(t, row())
	for _, b := range faults() {
		nothing(t, b)
		nothing(t, joined(b, row(0)))
		nothing(t, joined(b, row(1, 1)))
		nothing(t, joined(row(2, 2), b))
		notUnpacked(t, b)
		notUnpacked(t, joined(b, row(1, 1)))
	}
}

// TestReadShort: 8.2, 8.3, bytes of right values of which some are missing at
// the end, or that have others behind them.
func TestReadShort(t *testing.T) {
	for _, s := range samples() {
		step := 1 + len(s.b)/60 // of the long ones not each
		for n := 0; n < len(s.b); n += step {
			nothing(t, s.b[:n])
		}
		nothing(t, s.b[:len(s.b)-1])
		for _, more := range [][]byte{row(0), row(1), row(0, 0), row(1, 1), row(2, 0), row(128), row(255), s.b} {
			nothing(t, joined(s.b, more))
		}
	}
}

// TestReadManyTold: 8.2, more Kids told than come, also very many more, in
// many arrays in one another; all that ends.
func TestReadManyTold(t *testing.T) {
	for _, c := range counts()[1:] {
		n, groups := c.n, c.groups
		for kind := byte(api.ValArr); kind <= api.ValRec; kind++ {
			head := joined(row(kind), groups)
			nothing(t, head)
			nothing(t, joined(head, times(n-1, 1, 1)))
			nothing(t, joined(head, times(n-1, 1, 1), row(1)))
			nothing(t, joined(head, times(n+1, 1, 1)))
			nothing(t, joined(row(2, 4), head, times(n, 1, 1)))
			notUnpacked(t, joined(head, times(n-1, 1, 1)))
		}
	}
	great := [][]byte{row(128, 128, 128, 1), row(254, 255, 255, 255, 15), row(128, 128, 128, 128, 16), joined(times(9, 128), row(1)), joined(row(254), times(8, 255), row(1)), joined(row(254), times(7, 255), row(127))}
	for _, groups := range great {
		for kind := byte(api.ValArr); kind <= api.ValRec; kind++ {
			head := joined(row(kind), groups)
			for _, b := range [][]byte{head, joined(head, row(0, 0)), joined(head, times(5000, 1, 1)), times(100_000, head...), joined(times(3000, head...), times(3000, 0, 0)), joined(row(2, 4, 0, 0), head)} {
				nothing(t, b)
				notUnpacked(t, b)
				notUnpacked(t, joined(row(0, 0), b))
			}
		}
	}
}

// TestPack: 8.2, the bytes of right values, and of no others.
func TestPack(t *testing.T) {
	if b := Pack(); len(b) != 0 {
		t.Error(b)
	}
	if b := Pack(list()...); len(b) != 0 {
		t.Error(b)
	}
	if b := Pack(num(-3), arr(num(64), flag(1)), rec(), flag(0), num(-3)); !bytes.Equal(b, row(0, 5, 2, 4, 0, 128, 1, 1, 1, 3, 0, 1, 0, 0, 5)) {
		t.Error(b)
	}
	var all []api.Value
	var want []byte
	bad := wrong()
	for i, s := range samples() {
		w := bad[(37*i)%len(bad)]
		if b := Pack(s.v); !bytes.Equal(b, s.b) {
			t.Errorf("Pack(%.80s) = %.40v", dump(s.v), b)
		}
		if b := Pack(w, s.v, w, w, s.v, num(1), w); !bytes.Equal(b, joined(s.b, s.b, row(0, 2))) {
			t.Errorf("Pack of %.80s among %.80s: %.40v", dump(s.v), dump(w), b)
		}
		all, want = append(all, s.v, w), append(want, s.b...)
	}
	if b := Pack(all...); !bytes.Equal(b, want) {
		t.Error("not those of the right ones:", len(b), len(want))
	}
	if b := Pack(bad...); len(b) != 0 {
		t.Errorf("of wrong ones: %.80v", b)
	}
	for _, w := range bad {
		if b := Pack(w); len(b) != 0 {
			t.Errorf("Pack(%.80s) = %.40v", dump(w), b)
		}
	}
}

// TestUnpack: 8.2, the values of rows: of none, one, some, and many.
func TestUnpack(t *testing.T) {
	unpacked(t, nil)
	unpacked(t, row())
	unpacked(t, row(0, 5, 2, 4, 0, 128, 1, 1, 1, 3, 0, 1, 0, 0, 5), num(-3), arr(num(64), flag(1)), rec(), flag(0), num(-3))
	unpacked(t, row(2, 2, 0, 2, 0, 4), arr(num(1)), num(2))
	unpacked(t, row(2, 0, 0, 2, 2, 0), arr(), num(1), arr())
	unpacked(t, times(1000, 1, 1), rep(1000, flag(1))...)
	var all []api.Value
	var b []byte
	for _, s := range samples() {
		unpacked(t, s.b, s.v)
		unpacked(t, joined(s.b, row(0, 5), s.b), s.v, num(-3), s.v)
		all, b = append(all, s.v), append(b, s.b...)
	}
	unpacked(t, b, all...)
	unpacked(t, Pack(all...), all...)
	for i, s := range samples() {
		head := joined(samples()[0].b, s.b[:len(s.b)-1])
		if i%50 == 0 {
			notUnpacked(t, joined(b, s.b[:len(s.b)-1]))
		}
		notUnpacked(t, head)
		notUnpacked(t, joined(s.b, row(2)))
		notUnpacked(t, joined(s.b, s.b, row(0)))
		notUnpacked(t, joined(s.b, row(4, 0)))
	}
}

// TestUnpackNone: 8.2, rows that are none behind values and ahead of them.
func TestUnpackNone(t *testing.T) {
	for _, b := range faults() {
		for _, ahead := range [][]byte{nil, row(0, 0), row(2, 4, 0, 128, 1, 1, 1, 3, 0), times(100, 1, 1)} {
			notUnpacked(t, joined(ahead, b))
			notUnpacked(t, joined(ahead, b, row(1, 1)))
		}
	}
	for _, b := range [][]byte{row(0), row(1), row(2), row(3), row(0, 128), row(0, 255, 255), row(2, 2), row(2, 4, 0, 2), row(3, 2, 3, 2), row(2, 128), row(2, 128, 1, 0, 0)} {
		for n := range 4 {
			notUnpacked(t, joined(times(n, 3, 2, 0, 9), b))
		}
	}
}

// small are all right values of few bytes of a few ones, by these bytes: put
// together here from what the chapter says, not by the package's calls.
type small map[string]api.Value

// alphabet are the bytes of such values.
const alphabet = "\x00\x01\x02\x03\x04\x05\x7f\x80\x81\xff"

// groupsOf are all rows of up to n bytes of the alphabet that are a number's
// groups, and the numbers.
func groupsOf(n int) map[string]int {
	out, rows := map[string]int{}, []string{""}
	for at := range n {
		var longer []string
		for _, s := range rows {
			for i := range len(alphabet) {
				c := alphabet[i]
				if c >= 128 {
					longer = append(longer, s+alphabet[i:i+1])
				} else if c > 0 || at == 0 {
					out[s+alphabet[i:i+1]] = numberOf(s + alphabet[i:i+1])
				}
			}
		}
		rows = longer
	}
	return out
}

// numberOf is the number of a few groups.
func numberOf(s string) int {
	sum, weight := 0, 1
	for i := range len(s) {
		sum += int(s[i]) % 128 * weight
		weight *= 128
	}
	if sum%2 == 0 {
		return sum / 2
	}
	return -(sum + 1) / 2
}

// smallOnes are such values of up to n bytes.
func smallOnes(n int) small {
	out := small{"\x01\x00": flag(0), "\x01\x01": flag(1)}
	groups := groupsOf(n - 1)
	for s, k := range groups {
		out["\x00"+s] = num(k)
	}
	for most := 2; most <= n; most++ { // what lies in a value is shorter than it
		for s, k := range groups {
			if k < 0 || 1+len(s)+2*k > most {
				continue
			}
			for kids, l := range out.lists(k, most-1-len(s)) {
				out["\x02"+s+kids], out["\x03"+s+kids] = arr(l...), rec(l...)
			}
		}
	}
	return out
}

// lists are all lists of k of the values that there are yet, of up to n bytes.
func (m small) lists(k, n int) map[string][]api.Value {
	out := map[string][]api.Value{"": nil}
	for range k {
		longer := map[string][]api.Value{}
		for s, l := range out {
			for first, v := range m {
				if len(s)+len(first) <= n {
					longer[s+first] = append(slices.Clone(l), v)
				}
			}
		}
		out = longer
	}
	return out
}

// split are the values of a row, one behind the other, if it has any.
func (m small) split(s string) ([]api.Value, bool) {
	if s == "" {
		return nil, true
	}
	for n := 1; n <= len(s); n++ {
		v, ok := m[s[:n]]
		if rest, fits := m.split(s[n:]); ok && fits {
			return append(list(v), rest...), true
		}
	}
	return nil, false
}

// TestAllRows: 8.2, all rows of up to six bytes of an alphabet: just those of
// values are read, each as its value, and just rows of these as the values.
func TestAllRows(t *testing.T) {
	const longest = 6
	all := smallOnes(longest)
	found := 0
	var walk func(s string)
	walk = func(s string) {
		b := []byte(s)
		if want, ok := all[s]; ok {
			found++
			v, e := Read(b)
			told(t, b, v, e, want)
		} else {
			nothing(t, b)
		}
		if want, ok := all.split(s); len(s) < longest && ok {
			unpacked(t, b, want...)
		} else if len(s) < longest {
			notUnpacked(t, b)
		}
		for i := 0; i < len(alphabet) && len(s) < longest; i++ {
			walk(s + alphabet[i:i+1])
		}
	}
	walk("")
	if found != len(all) || found < 1000 {
		t.Errorf("of %d rows %d were found", len(all), found)
	}
}

// TestSpoilt: 8.2, 8.3, bytes of which one is missing, another one, or more:
// if they are read, then as the values whose bytes they are.
func TestSpoilt(t *testing.T) {
	for _, s := range samples() {
		if len(s.b) > 30 {
			continue
		}
		var rows [][]byte
		for i := range len(s.b) {
			rows = append(rows, joined(s.b[:i], s.b[i+1:]))
			for c := range 256 {
				rows = append(rows, joined(s.b[:i], row(byte(c)), s.b[i+1:]), joined(s.b[:i], row(byte(c)), s.b[i:]), joined(s.b, row(byte(c))))
			}
		}
		for _, b := range rows {
			if v, e := Read(b); e != api.OK {
				nothing(t, b)
			} else if !val.Right(v) || !bytes.Equal(Bytes(v), b) {
				t.Errorf("Read(%v) = %s", b, dump(v))
			}
			if l, e := Unpack(b); e != api.OK {
				notUnpacked(t, b)
			} else if !bytes.Equal(Pack(l...), b) {
				t.Errorf("Unpack(%v) = %s", b, dumps(l))
			}
		}
	}
}

// TestNumbers: 8.1 to 8.3, many numbers of all lengths, by a row of numbers
// that is always the same, are read as they were written, and are unlike.
func TestNumbers(t *testing.T) {
	seen := map[string]int{}
	mixed := uint64(5)
	for i := range 200_000 {
		mixed = mixed*6364136223846793005 + 1442695040888963407
		n := int(mixed) >> (i % 64)
		b := Bytes(num(n))
		if m, ok := seen[string(b)]; ok && m != n {
			t.Fatal(n, m, b)
		}
		seen[string(b)] = n
		u := 2 * uint64(n)
		if n < 0 {
			u = 2*uint64(-(n+1)) + 1
		}
		groups := 1
		for rest := u / 128; rest > 0; rest /= 128 {
			groups++
		}
		if len(b) != 1+groups || Long(num(n)) != 1+groups {
			t.Fatal(n, b, Long(num(n)))
		}
		if v, e := Read(b); e != api.OK || v.Kind != api.ValInt || v.N != n || len(v.Kids) != 0 {
			t.Fatal(n, b, dump(v), e)
		}
	}
}

// TestUnlike: 8.3, unlike values have unlike bytes, and none begins those of
// another one: by order, a row that begins others comes next ahead of one.
func TestUnlike(t *testing.T) {
	by := map[string]string{}
	note := func(v api.Value) {
		b := string(Bytes(v))
		if was, ok := by[b]; ok && was != dump(v) {
			t.Errorf("%.40q are the bytes of %.80s and %.80s", b, was, dump(v))
		}
		by[b] = dump(v)
	}
	for _, v := range smallOnes(7) {
		note(v)
	}
	for _, s := range samples() {
		note(s.v)
	}
	for n := -20_000; n <= 20_000; n++ {
		note(num(n))
		note(arr(num(n)))
	}
	rows := make([]string, 0, len(by))
	for b := range by {
		rows = append(rows, b)
	}
	slices.Sort(rows)
	for i := 1; i < len(rows); i++ {
		if strings.HasPrefix(rows[i], rows[i-1]) {
			t.Errorf("%.40q begins %.40q", rows[i-1], rows[i])
		}
	}
	if len(rows) < 80_000 {
		t.Error("too few:", len(rows))
	}
}

// TestDeep: 8.1, 8.2, P1, as many values in one another as may be handed in.
func TestDeep(t *testing.T) {
	const many = 1 << 16
	v := tower(many-1, num(64))
	want := joined(towerBytes(many-1), row(0, 128, 1))
	if b := Bytes(v); !bytes.Equal(b, want) || Long(v) != len(want) {
		t.Error(len(b), Long(v))
	}
	if b := Pack(num(1), v, num(2)); !bytes.Equal(b, joined(row(0, 2), want, row(0, 4))) {
		t.Error(len(b))
	}
	w := tower(many-1, flag(2))
	if len(Bytes(w)) != 0 || Long(w) != 0 || len(Pack(w)) != 0 {
		t.Error("bytes of a wrong one")
	}
	if got, e := Read(want); e != api.OK || !val.Same(got, v) {
		t.Error(e)
	}
	if l, e := Unpack(joined(row(0, 2), want, row(0, 4))); e != api.OK || len(l) != 3 || !val.Same(l[1], v) {
		t.Error(e, len(l))
	}
}

// TestReadDeep: 8.2, P1, rows that tell of very many arrays in one another,
// whole ones and others.
func TestReadDeep(t *testing.T) {
	const many = 1 << 19
	head := towerBytes(many)
	for _, end := range [][]byte{nil, row(0), row(2), row(2, 2), row(4, 0), row(1, 2), row(0, 128, 0), row(0, 2, 0), row(0, 2, 0, 2)} {
		if v, e := Read(joined(head, end)); e != api.ErrForm || len(v.Kids) != 0 || v.Kind != 0 {
			t.Error(end, e)
		}
	}
	nothing(t, times(many, 2, 4))
	nothing(t, times(many, 2, 4, 0, 0))
	nothing(t, times(2*many, 2))
	v, e := Read(joined(head, row(2, 4, 0, 128, 1, 1, 1)))
	deep := 0
	for ; deep < many && len(v.Kids) == 1 && v.N == 0 && v.Kind == api.ValArr+(many-1-deep)%2; v = v.Kids[0] {
		deep++
	}
	if e != api.OK || deep != many || dump(v) != dump(arr(num(64), flag(1))) {
		t.Error(e, deep)
	}
}

// TestAsItWas: what is handed in stays as it was, also behind the members of
// lists that lie in longer ones.
func TestAsItWas(t *testing.T) {
	bad := wrong()
	for i, s := range samples() {
		for _, x := range list(s.v, bad[(41*i)%len(bad)]) {
			kids := append(make([]api.Value, 0, len(x.Kids)+3), x.Kids...)
			all := kids[:cap(kids)]
			v := api.Value{Kind: x.Kind, N: x.N, Kids: kids}
			args := list(v, num(4), v, num(-100))
			was, allWas, argsWas := dump(v), dumps(all), dumps(args)
			Bytes(v)
			Long(v)
			Pack(kids...)
			Pack(args[:3]...)
			if dump(v) != was || dumps(all) != allWas || dumps(args) != argsWas {
				t.Errorf("written into %.80s", was)
			}
		}
		long := joined(row(9), s.b, row(9, 9, 9))
		longWas := slices.Clone(long)
		Read(long[1 : 1+len(s.b)])
		Read(long[1:len(s.b)])
		Unpack(long[1 : 1+len(s.b)])
		Unpack(long[1:])
		if !bytes.Equal(long, longWas) {
			t.Errorf("written into %.40v", longWas)
		}
	}
}
