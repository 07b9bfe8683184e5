package place

import (
	"math"
	"strings"
	"testing"

	"marline/api"
)

// spot is a line and a column.
type spot struct{ line, col int }

// walk is where each place of a text stands, found byte by byte.
func walk(src string) []spot {
	at := spot{1, 1}
	spots := []spot{at}
	for _, b := range []byte(src) {
		at.col++
		if b == '\n' {
			at = spot{at.line + 1, 1}
		}
		spots = append(spots, at)
	}
	return spots
}

// texts are the edges, ordinary texts, and all of up to five bytes that are a, b,
// line feeds and carriage returns.
func texts() []string {
	srcs := []string{
		"", "\n", "\n\n", "\n\n\n", "a", "a\n", "\na", "a\n\nb", "ab\nc", "ab\nc\n", "\n\nab\n\n\nc\n\n",
		"main {\n\tprint 1;\n}\n", "one\r\ntwo\r\n", "\r", "\x00\n\x00", "\xff\xfe\n\xff", "\v\f\u0085\u2028\u2029", "\u00e9\u20ac\n\U0001f600x",
		strings.Repeat("\n", api.MaxSrc), strings.Repeat("x", api.MaxSrc), strings.Repeat("four\nx\n", 1000),
	}
	row := []string{""}
	for range 5 {
		var longer []string
		for _, s := range row {
			longer = append(longer, s+"a", s+"b", s+"\n", s+"\r")
		}
		srcs = append(srcs, longer...)
		row = longer
	}
	return srcs
}

// far are numbers that are no line, no column and no place of any text here.
func far() []int {
	return []int{math.MinInt, math.MinInt + 1, -1 << 32, -1 << 31, -2, -1, 1 << 31, 1 << 32, 1<<32 + 1, 1 << 62, math.MaxInt - 1, math.MaxInt}
}

// TestCount: 2.1, one more than there are line feeds.
func TestCount(t *testing.T) {
	for _, src := range texts() {
		if n := Of(src).Count(); n != 1+strings.Count(src, "\n") {
			t.Errorf("%.40q: Count %d", src, n)
		}
	}
}

// TestAt: 2.1, every place of every text.
func TestAt(t *testing.T) {
	for _, src := range texts() {
		l := Of(src)
		for off, want := range walk(src) {
			if line, col := l.At(off); line != want.line || col != want.col {
				t.Errorf("%.40q: At(%d) = %d, %d; want %d, %d", src, off, line, col, want.line, want.col)
			}
		}
	}
}

// TestAtEdges: 2.1, written out by hand.
func TestAtEdges(t *testing.T) {
	for _, x := range []struct {
		src            string
		off, line, col int
	}{
		{"ab\nc", 0, 1, 1},
		{"ab\nc", 1, 1, 2},
		{"ab\nc", 2, 1, 3}, // the line feed itself
		{"ab\nc", 3, 2, 1},
		{"ab\nc", 4, 2, 2}, // the end
		{"", 0, 1, 1},
		{"\n", 0, 1, 1},
		{"\n", 1, 2, 1},
		{"a\n", 1, 1, 2},
		{"a\n", 2, 2, 1},
		{"a\n\n\nb", 1, 1, 2},
		{"a\n\n\nb", 2, 2, 1},
		{"a\n\n\nb", 3, 3, 1},
		{"a\n\n\nb", 4, 4, 1},
		{"a\n\n\nb", 5, 4, 2},
		{"a\r\nb", 2, 1, 3},
		{"\u20ac\nb", 3, 1, 4}, // columns count bytes
		{"\u20ac\nb", 4, 2, 1},
	} {
		if line, col := Of(x.src).At(x.off); line != x.line || col != x.col {
			t.Errorf("%q: At(%d) = %d, %d; want %d, %d", x.src, x.off, line, col, x.line, x.col)
		}
	}
}

// TestAtOutside: 2.1, places below 0 count as 0, those above the length as that.
func TestAtOutside(t *testing.T) {
	for _, src := range texts() {
		l := Of(src)
		last := walk(src)[len(src)]
		for _, off := range append(far(), len(src)+1, len(src)+2) {
			want := last
			if off < 0 {
				want = spot{1, 1}
			}
			if line, col := l.At(off); line != want.line || col != want.col {
				t.Errorf("%.40q: At(%d) = %d, %d; want %d, %d", src, off, line, col, want.line, want.col)
			}
		}
	}
}

// TestOff: 2.2, every line and column that there is.
func TestOff(t *testing.T) {
	for _, src := range texts() {
		l := Of(src)
		for want, at := range walk(src) {
			if off, ok := l.Off(at.line, at.col); off != want || !ok {
				t.Errorf("%.40q: Off(%d, %d) = %d, %t; want %d", src, at.line, at.col, off, ok, want)
			}
		}
	}
}

// TestOffEdges: 2.2, written out by hand.
func TestOffEdges(t *testing.T) {
	for _, x := range []struct {
		src            string
		line, col, off int
		ok             bool
	}{
		{"ab\nc", 1, 1, 0, true},
		{"ab\nc", 1, 3, 2, true}, // just behind the last byte
		{"ab\nc", 1, 4, 0, false},
		{"ab\nc", 1, 0, 0, false},
		{"ab\nc", 1, -1, 0, false},
		{"ab\nc", 2, 1, 3, true},
		{"ab\nc", 2, 2, 4, true},
		{"ab\nc", 2, 3, 0, false},
		{"ab\nc", 2, 0, 0, false}, // not the line feed ahead
		{"ab\nc", 0, 1, 0, false},
		{"ab\nc", -1, 1, 0, false},
		{"ab\nc", 3, 1, 0, false},
		{"", 1, 1, 0, true},
		{"", 1, 2, 0, false},
		{"", 2, 1, 0, false},
		{"\n", 1, 1, 0, true},
		{"\n", 1, 2, 0, false},
		{"\n", 2, 1, 1, true},
		{"\n", 2, 2, 0, false},
		{"\n", 3, 1, 0, false},
		{"a\n", 2, 1, 2, true},
		{"a\n\nb", 2, 1, 2, true},
		{"a\n\nb", 2, 2, 0, false},
	} {
		if off, ok := Of(x.src).Off(x.line, x.col); off != x.off || ok != x.ok {
			t.Errorf("%q: Off(%d, %d) = %d, %t; want %d, %t", x.src, x.line, x.col, off, ok, x.off, x.ok)
		}
	}
}

// none asks Off for a place that there is not.
func none(t *testing.T, src string, l *Lines, line, col int) {
	t.Helper()
	if off, ok := l.Off(line, col); off != 0 || ok {
		t.Errorf("%.40q: Off(%d, %d) = %d, %t; want none", src, line, col, off, ok)
	}
}

// TestOffNone: 2.2, lines and columns that there are not.
func TestOffNone(t *testing.T) {
	for _, src := range texts() {
		l := Of(src)
		lines := strings.Split(src, "\n")
		for _, n := range append(far(), 0, len(lines)+1, len(lines)+2) {
			none(t, src, l, n, 1)
			none(t, src, l, n, n)
		}
		for i, line := range lines[:min(len(lines), 20)] {
			for _, col := range append(far(), 0, len(line)+2, len(line)+3) {
				none(t, src, l, i+1, col)
			}
		}
		none(t, src, l, len(lines), len(lines[len(lines)-1])+2)
	}
}

// TestLine: 2.2, every line that there is, and some that there are not.
func TestLine(t *testing.T) {
	for _, src := range texts() {
		l := Of(src)
		lines := strings.Split(src, "\n")
		for i, want := range lines {
			if s, ok := l.Line(i + 1); s != want || !ok {
				t.Errorf("%.40q: Line(%d) = %.40q, %t; want %.40q", src, i+1, s, ok, want)
			}
		}
		for _, n := range append(far(), 0, len(lines)+1, len(lines)+2) {
			if s, ok := l.Line(n); s != "" || ok {
				t.Errorf("%.40q: Line(%d) = %.40q, %t; want none", src, n, s, ok)
			}
		}
	}
}

// TestLineEdges: 2.2, written out by hand.
func TestLineEdges(t *testing.T) {
	for _, x := range []struct {
		src  string
		n    int
		line string
		ok   bool
	}{
		{"ab\nc", 1, "ab", true},
		{"ab\nc", 2, "c", true},
		{"ab\nc", 3, "", false},
		{"ab\nc", 0, "", false},
		{"ab\nc", -1, "", false},
		{"", 1, "", true},
		{"", 2, "", false},
		{"a\n", 2, "", true},
		{"a\n", 3, "", false},
		{"a\n\nb", 2, "", true},
		{"a\n\nb", 3, "b", true},
		{"a\r\nb", 1, "a\r", true},
	} {
		if s, ok := Of(x.src).Line(x.n); s != x.line || ok != x.ok {
			t.Errorf("%q: Line(%d) = %q, %t; want %q, %t", x.src, x.n, s, ok, x.line, x.ok)
		}
	}
}

// TestNil: 2.1 and 2.2, nil lines.
func TestNil(t *testing.T) {
	var l *Lines
	if n := l.Count(); n != 0 {
		t.Errorf("Count %d", n)
	}
	ns := append(far(), 0, 1, 2)
	for _, n := range ns {
		if line, col := l.At(n); line != 0 || col != 0 {
			t.Errorf("At(%d) = %d, %d", n, line, col)
		}
		if s, ok := l.Line(n); s != "" || ok {
			t.Errorf("Line(%d) = %q, %t", n, s, ok)
		}
		for _, col := range ns {
			none(t, "nil", l, n, col)
		}
	}
}

// TestThereAndBack: 2.3, Off of At is the place, and At of Off is the spot.
func TestThereAndBack(t *testing.T) {
	for _, src := range texts() {
		l := Of(src)
		for want := range len(src) + 1 {
			line, col := l.At(want)
			off, ok := l.Off(line, col)
			if off != want || !ok {
				t.Errorf("%.40q: Off of At(%d) = %d, %t", src, want, off, ok)
			}
			if n, c := l.At(off); n != line || c != col {
				t.Errorf("%.40q: At of Off(%d, %d) = %d, %d", src, line, col, n, c)
			}
		}
	}
}

// TestLinesAreTheText: 2.3, with a line feed between.
func TestLinesAreTheText(t *testing.T) {
	for _, src := range texts() {
		l := Of(src)
		var lines []string
		for n := range l.Count() {
			line, ok := l.Line(n + 1)
			if !ok {
				t.Errorf("%.40q: there is no line %d", src, n+1)
			}
			lines = append(lines, line)
		}
		if s := strings.Join(lines, "\n"); s != src {
			t.Errorf("%.40q: the lines are %.40q", src, s)
		}
	}
}

// TestTextsApart: what one text's lines are does not hang on another's.
func TestTextsApart(t *testing.T) {
	one, two := Of("ab\nc"), Of("\n\n\nx")
	if n, m := one.Count(), two.Count(); n != 2 || m != 4 {
		t.Errorf("Count %d, %d", n, m)
	}
	if line, col := one.At(3); line != 2 || col != 1 {
		t.Errorf("At(3) = %d, %d", line, col)
	}
	if s, ok := two.Line(4); s != "x" || !ok {
		t.Errorf("Line(4) = %q, %t", s, ok)
	}
}
