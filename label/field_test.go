package label_test

import (
	"testing"

	"silverside/api"
	"silverside/label"
)

// P3.1: all products.
func TestMul(t *testing.T) {
	if got := label.Mul(2, 128); got != 29 {
		t.Errorf("Mul(2, 128) = %d", got)
	}
	for a := range 256 {
		for b := range 256 {
			if got, want := label.Mul(byte(a), byte(b)), product(byte(a), byte(b)); got != want {
				t.Fatalf("Mul(%d, %d) = %d, not %d", a, b, got, want)
			}
		}
	}
}

// P3.1: all inverses, and that of 0.
func TestInverse(t *testing.T) {
	for a := 1; a < 256; a++ {
		if b, e := label.Inverse(byte(a)); e != api.OK || product(byte(a), b) != 1 {
			t.Errorf("Inverse(%d) = %d, %d", a, b, e)
		}
	}
	if b, e := label.Inverse(0); b != 0 || e != api.ErrNone {
		t.Errorf("Inverse(0) = %d, %d", b, e)
	}
}
