package bits_test

import (
	"math"
	"math/rand/v2"
	"slices"
	"strconv"
	"strings"
	"testing"

	"dictum/api"
	"dictum/bits"
)

// plain is a set as the chapter's words say it: of each number from 0 to 1023, whether it is in.
type plain [api.MaxForms]bool

func plainOf(l ...int) plain {
	var p plain
	for _, n := range l {
		p[n] = true
	}
	return p
}

func (p plain) list() []int {
	var l []int
	for n, in := range p {
		if in {
			l = append(l, n)
		}
	}
	return l
}

// row is the set as api says it: number n is bit n modulo 64 of word n / 64.
func (p plain) row() api.Bits {
	var b api.Bits
	for n, in := range p {
		if in {
			b[n/64] += uint64(math.Pow(2, float64(n%64)))
		}
	}
	return b
}

// text is the set in runs, made from the list of its numbers.
func (p plain) text() string {
	l := p.list()
	var runs []string
	for len(l) > 0 {
		size := 1
		for size < len(l) && l[size] == l[0]+size {
			size++
		}
		run := strconv.Itoa(l[0])
		if size > 1 {
			run += "-" + strconv.Itoa(l[size-1])
		}
		runs = append(runs, run)
		l = l[size:]
	}
	return strings.Join(runs, ",")
}

// joined is what two sets make number by number.
func joined(a, b plain, in func(a, b bool) bool) plain {
	var p plain
	for n := range p {
		p[n] = in(a[n], b[n])
	}
	return p
}

// span is from first to last.
func span(first, last int) plain {
	var p plain
	for n := first; n <= last; n++ {
		p[n] = true
	}
	return p
}

// borders are the numbers at the ends of the row and of its words.
func borders() []int {
	l := []int{0, 1, 62, 63, 64, 65, 126, 127, 128, 129, 500, 1022, 1023}
	for n := 191; n < api.MaxForms; n += 64 {
		l = append(l, n, n+1)
	}
	slices.Sort(l)
	l = slices.Compact(l)
	return l[:len(l)-1] // 1024 is none
}

// outside are numbers that no row has, among them such whose lower bits are those of one that it has.
func outside() []int {
	return []int{-1, -2, -63, -64, -65, -1023, -1024, -1025, 1024, 1025, 1087, 1088, 2048, 1 << 16, 1<<32 + 5, math.MaxInt - 1, math.MaxInt, math.MinInt, math.MinInt + 5}
}

// samples are sets at the edges and some by chance, sparse and thick.
func samples() []plain {
	l := []plain{{}, span(0, 1023), span(0, 1022), span(1, 1023), span(0, 63), span(64, 127), span(63, 64), span(60, 200), span(1, 2), span(1022, 1023), plainOf(borders()...)}
	for _, n := range borders() {
		l = append(l, plainOf(n))
	}
	r := rand.New(rand.NewPCG(5, 1))
	for i := range 40 {
		var p plain
		for n := range p {
			p[n] = r.IntN(40) <= i
		}
		l = append(l, p)
	}
	for range 20 { // alike but for a few numbers
		p := l[len(l)-1]
		n := r.IntN(api.MaxForms)
		p[n] = !p[n]
		l = append(l, p)
	}
	return l
}

// set is a set of numbers that are in the row.
func set(t *testing.T, l ...int) api.Bits {
	t.Helper()
	b, e := bits.Of(l...)
	if e != api.OK {
		t.Fatalf("Of(%v): error %d", l, e)
	}
	return b
}
