package bits_test

import (
	"testing"

	"dictum/api"
	"dictum/bits"
)

// TestExampleTexts: the chapter's first example.
func TestExampleTexts(t *testing.T) {
	b := set(t, 0, 1, 2, 5, 64)
	if s := bits.Text(b); s != "0-2,5,64" {
		t.Errorf("Text: %s", s)
	}
	if c, e := bits.Parse("0-2,5,64"); c != b || e != api.OK {
		t.Errorf("Parse: %v, error %d", c, e)
	}
	for _, s := range []string{"0-1,2", "3-3", "2,1", "01", "1024"} {
		if c, e := bits.Parse(s); c != (api.Bits{}) || e != api.ErrBits {
			t.Errorf("Parse(%s): %v, error %d", s, c, e)
		}
	}
}

// TestExampleNext: the chapter's second example.
func TestExampleNext(t *testing.T) {
	if n, ok := bits.Next(set(t, 5, 64), 6); n != 64 || !ok {
		t.Errorf("Next of {5, 64} from 6: %d, %v", n, ok)
	}
	if n, ok := bits.Next(set(t, 5), 6); n != 0 || ok {
		t.Errorf("Next of {5} from 6: %d, %v", n, ok)
	}
	if c := bits.Compare(set(t, 1), set(t, 2)); c != -1 {
		t.Errorf("Compare of {1} and {2}: %d", c)
	}
	if c := bits.Compare(api.Bits{}, set(t, 0)); c != 1 {
		t.Errorf("Compare of {} and {0}: %d", c)
	}
}
