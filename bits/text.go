package bits

import (
	"strings"

	"dictum/api"
	"dictum/octet"
)

// Text writes a set: its runs, rising, with a comma between them (P5.4).
func Text(b api.Bits) string {
	var out strings.Builder
	for first, ok := Next(b, 0); ok; {
		last := runEnd(b, first)
		if out.Len() > 0 {
			out.WriteByte(',')
		}
		out.WriteString(runText(first, last))
		first, ok = Next(b, last+1)
	}
	return out.String()
}

// runEnd answers the last number of the run that begins with first.
func runEnd(b api.Bits, first int) int {
	for Has(b, first+1) {
		first++
	}
	return first
}

func runText(first, last int) string {
	if first == last {
		return octet.Dec(first)
	}
	return octet.Dec(first) + "-" + octet.Dec(last)
}

// Parse reads just what Text writes (P5.4).
func Parse(s string) (api.Bits, api.Errno) {
	var b api.Bits
	least := 0 // with which the next run may begin
	for more := s != ""; more; {
		var run string
		run, s, more = strings.Cut(s, ",")
		first, last, ok := readRun(run)
		if !ok || first < least {
			return api.Bits{}, api.ErrBits
		}
		b = Union(b, span(first, last))
		least = last + 2 // the number right behind would have been the run's own
	}
	return b, api.OK
}

func readRun(s string) (first, last int, ok bool) {
	left, right, several := strings.Cut(s, "-")
	first, e := octet.Undec(left, api.MaxForms-1)
	if e != api.OK {
		return 0, 0, false
	}
	if !several {
		return first, first, true
	}
	last, e = octet.Undec(right, api.MaxForms-1)
	if e != api.OK || last <= first {
		return 0, 0, false
	}
	return first, last, true
}

// span answers the set of the numbers from first to last, which are both in the row.
func span(first, last int) api.Bits {
	var b api.Bits
	for n := first; n <= last; n++ {
		word, bit := place(n)
		b[word] |= bit
	}
	return b
}
