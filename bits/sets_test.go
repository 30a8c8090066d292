package bits_test

import (
	"math"
	"testing"

	"dictum/api"
	"dictum/bits"
)

// TestTwoSets: P5.2 and P5.3, Union, Meet, Minus, Sub and Compare of each two samples, held against what the numbers say one by one.
func TestTwoSets(t *testing.T) {
	l := samples()
	for i, p := range l {
		for j, q := range l {
			a, b := p.row(), q.row()
			if got := bits.Union(a, b); got != joined(p, q, func(a, b bool) bool { return a || b }).row() {
				t.Errorf("samples %d, %d: Union %v", i, j, got)
			}
			if got := bits.Meet(a, b); got != joined(p, q, func(a, b bool) bool { return a && b }).row() {
				t.Errorf("samples %d, %d: Meet %v", i, j, got)
			}
			minus := joined(p, q, func(a, b bool) bool { return a && !b })
			if got := bits.Minus(a, b); got != minus.row() {
				t.Errorf("samples %d, %d: Minus %v", i, j, got)
			}
			if got := bits.Sub(a, b); got != (minus == plain{}) {
				t.Errorf("samples %d, %d: Sub %v", i, j, got)
			}
			if got := bits.Compare(a, b); got != compared(p, q) {
				t.Errorf("samples %d, %d: Compare %d", i, j, got)
			}
			if a != p.row() || b != q.row() {
				t.Fatalf("samples %d, %d: a row became another one", i, j)
			}
		}
	}
}

func compared(p, q plain) int {
	for n := range p {
		switch {
		case p[n] && !q[n]:
			return -1
		case q[n] && !p[n]:
			return 1
		}
	}
	return 0
}

// TestSubOneMore: P5.2, one number too many is enough, whichever it is.
func TestSubOneMore(t *testing.T) {
	whole := span(0, 1023).row()
	for n := range api.MaxForms {
		one, less := set(t, n), bits.Drop(whole, n)
		if !bits.Sub(one, whole) || bits.Sub(one, less) || bits.Sub(whole, less) || !bits.Sub(less, whole) || !bits.Sub(one, one) {
			t.Errorf("Sub at %d", n)
		}
	}
	if !bits.Sub(api.Bits{}, api.Bits{}) || !bits.Sub(api.Bits{}, whole) || bits.Sub(whole, api.Bits{}) || !bits.Sub(whole, whole) {
		t.Error("Sub of the least and the greatest set")
	}
}

// TestCompareEdges: P5.3, where sets part in one word, in several ones, and where one holds the other.
func TestCompareEdges(t *testing.T) {
	whole := span(0, 1023).row()
	for n := range api.MaxForms {
		one, less := set(t, n), bits.Drop(whole, n)
		for _, c := range []struct {
			a, b api.Bits
			want int
		}{{one, one, 0}, {one, api.Bits{}, -1}, {api.Bits{}, one, 1}, {whole, less, -1}, {less, whole, 1}} {
			if got := bits.Compare(c.a, c.b); got != c.want {
				t.Errorf("Compare(%s, %s): %d", bits.Text(c.a), bits.Text(c.b), got)
			}
		}
		if n > 0 { // the lesser number decides, however much the other set has behind it
			before, behind := set(t, n-1), span(n, 1023).row()
			if bits.Compare(before, behind) != -1 || bits.Compare(behind, before) != 1 {
				t.Errorf("Compare at %d", n)
			}
		}
	}
}

// TestCount: P5.2, how many, from none to all 1024.
func TestCount(t *testing.T) {
	for i, p := range samples() {
		if got := bits.Count(p.row()); got != len(p.list()) {
			t.Errorf("sample %d: %d", i, got)
		}
	}
	var b api.Bits
	for n := range api.MaxForms {
		if got := bits.Count(b); got != n {
			t.Errorf("%d, not %d", got, n)
		}
		b, _ = bits.Put(b, n)
	}
	if got := bits.Count(b); got != 1024 {
		t.Errorf("all: %d", got)
	}
}

// TestNext: P5.2, from every number of the row, from below it and from behind it.
func TestNext(t *testing.T) {
	for i, p := range samples() {
		b := p.row()
		want, ok := 0, false
		for from := api.MaxForms - 1; from >= 0; from-- {
			if p[from] {
				want, ok = from, true
			}
			if n, found := bits.Next(b, from); n != want || found != ok {
				t.Errorf("sample %d: Next from %d: %d, %v, not %d, %v", i, from, n, found, want, ok)
			}
		}
		for _, from := range outside() {
			n, found := bits.Next(b, from)
			if from < 0 && (n != want || found != ok) || from > 0 && (n != 0 || found) {
				t.Errorf("sample %d: Next from %d: %d, %v", i, from, n, found)
			}
		}
	}
}

// TestNextEnds: P5.2, nothing is taken round at the ends of int.
func TestNextEnds(t *testing.T) {
	b := set(t, 0, 63, 64, 1023)
	for _, c := range []struct {
		from, want int
		ok         bool
	}{{math.MinInt, 0, true}, {-1, 0, true}, {0, 0, true}, {1, 63, true}, {63, 63, true}, {64, 64, true}, {65, 1023, true}, {1023, 1023, true}, {1024, 0, false}, {math.MaxInt, 0, false}} {
		if n, ok := bits.Next(b, c.from); n != c.want || ok != c.ok {
			t.Errorf("Next from %d: %d, %v", c.from, n, ok)
		}
	}
}
