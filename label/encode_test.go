package label_test

import (
	"math/rand"
	"slices"
	"strings"
	"testing"

	"silverside/api"
	"silverside/label"
)

// P3.2: a codeword that begins with the data is the only one that does, so its values say all.
func TestEncode(t *testing.T) {
	if word, e := label.Encode("\x01", 2); word != "\x01\x03\x02" || e != api.OK {
		t.Errorf("Encode of 1: %x, %d", word, e)
	}
	r := rand.New(rand.NewSource(31))
	for _, c := range validParameters() {
		for _, data := range []string{randomText(r, c.n-c.p), strings.Repeat("\x00", c.n-c.p), strings.Repeat("\xff", c.n-c.p)} {
			word, e := label.Encode(data, c.p)
			if e != api.OK || len(word) != c.n || !strings.HasPrefix(word, data) || !isCodeword(word, c.p) {
				t.Errorf("Encode(%x, %d) = %x, %d", data, c.p, word, e)
			}
		}
	}
}

// P3.2: every number of check bytes, with the least and the greatest length of the data.
func TestEncodeAll(t *testing.T) {
	r := rand.New(rand.NewSource(32))
	for p := range 65 {
		for _, n := range []int{p + 1, 255} {
			if word := encoded(t, r, n, p); !isCodeword(word, p) {
				t.Errorf("n %d, p %d: %x is no codeword", n, p, word)
			}
		}
	}
}

// P3.2: invalid parameters, as the length of the data and the number of check bytes.
func TestEncodeInvalid(t *testing.T) {
	list := []parameters{{0, 0}, {0, 1}, {0, 64}, {256, 0}, {255, 1}, {192, 64}, {254, 2}, {100000, 8}}
	for _, c := range invalidParameters() {
		if c.p < 0 || c.p > 64 {
			list = append(list, c)
		}
	}
	for _, c := range list {
		if word, e := label.Encode(strings.Repeat("x", c.n), c.p); word != "" || e != api.ErrArg {
			t.Errorf("Encode of %d bytes with %d: %x, %d", c.n, c.p, word, e)
		}
	}
}

// P3.2: values and whether they are all 0, for codewords, codewords with one wrong byte or bit, and any words.
func TestIsAndSyndromes(t *testing.T) {
	r := rand.New(rand.NewSource(33))
	for _, c := range validParameters() {
		code := encoded(t, r, c.n, c.p)
		bit := []byte(code)
		bit[r.Intn(c.n)] ^= 1 << r.Intn(8)
		words := []string{code, string(bit), damaged(r, code, []int{0}), damaged(r, code, []int{c.n - 1}), randomText(r, c.n), strings.Repeat("\x00", c.n)}
		for _, word := range words {
			want := values(word, c.p)
			if got, e := label.Syndromes(word, c.p); e != api.OK || !slices.Equal(got, want) {
				t.Errorf("Syndromes(%x, %d) = %x, %d, not %x", word, c.p, got, e, want)
			}
			if got, e := label.Is(word, c.p); e != api.OK || got != isCodeword(word, c.p) {
				t.Errorf("Is(%x, %d) = %t, %d", word, c.p, got, e)
			}
		}
	}
}

// P3.2: a word is no codeword if only one of its values is not 0, whichever that is.
func TestIsLooksAtAllValues(t *testing.T) {
	for _, p := range []int{1, 2, 3, 8, 64} {
		for out := range p {
			word := "\x00" + string(rootsAt(p, out))
			if got, e := label.Is(word, p); got || e != api.OK {
				t.Errorf("Is(%x, %d) = %t, %d", word, p, got, e)
			}
		}
	}
}

// P3.2: invalid parameters.
func TestIsAndSyndromesInvalid(t *testing.T) {
	for _, c := range invalidParameters() {
		word := strings.Repeat("\x00", c.n)
		if got, e := label.Is(word, c.p); got || e != api.ErrArg {
			t.Errorf("Is of %d bytes with %d: %t, %d", c.n, c.p, got, e)
		}
		if got, e := label.Syndromes(word, c.p); len(got) != 0 || e != api.ErrArg {
			t.Errorf("Syndromes of %d bytes with %d: %x, %d", c.n, c.p, got, e)
		}
	}
}

// P3.4: the sum of two codewords is a codeword, and two different ones differ at more than p positions.
func TestCode(t *testing.T) {
	r := rand.New(rand.NewSource(34))
	for _, c := range validParameters() {
		a, b := encoded(t, r, c.n, c.p), encoded(t, r, c.n, c.p)
		sum, differs := make([]byte, c.n), 0
		for i := range sum {
			sum[i] = a[i] ^ b[i]
			if sum[i] != 0 {
				differs++
			}
		}
		if is, e := label.Is(string(sum), c.p); !is || e != api.OK {
			t.Errorf("the sum of %x and %x, p %d: %t, %d", a, b, c.p, is, e)
		}
		if a != b && differs <= c.p {
			t.Errorf("%x and %x, p %d, differ at %d positions", a, b, c.p, differs)
		}
	}
}
