package label_test

import (
	"math"
	"math/rand"
	"slices"
	"strings"
	"testing"

	"silverside/api"
	"silverside/label"
)

// decodes checks one result of Decode.
func decodes(t *testing.T, word string, p int, lost []int, data string, changes int, e api.Errno) {
	t.Helper()
	if gotData, gotChanges, got := label.Decode(word, p, lost); gotData != data || gotChanges != changes || got != e {
		t.Errorf("Decode(%x, %d, %v) = %x, %d, %d, not %x, %d, %d", word, p, lost, gotData, gotChanges, got, data, changes, e)
	}
}

// P3.3: the chapter's example, and the other ways to lose or spoil a byte of that word.
func TestDecodeExamples(t *testing.T) {
	decodes(t, "\x01\x03\x00", 2, []int{2}, "\x01", 1, api.OK)
	decodes(t, "\x01\x03\x02", 2, nil, "\x01", 0, api.OK)
	decodes(t, "\x01\x03\x02", 2, []int{0, 1}, "\x01", 0, api.OK)
	decodes(t, "\x00\x00\x02", 2, []int{0, 1}, "\x01", 2, api.OK)
	decodes(t, "\x01\x03\x02", 2, []int{0, 1, 2}, "", 0, api.ErrNone)
	decodes(t, "\x01\x03\x09", 2, nil, "\x01", 1, api.OK)
	decodes(t, "\x01\x09\x02", 2, []int{2}, "", 0, api.ErrNone)
}

// P3.3: without check bytes, each word is a codeword, and nothing may be lost.
func TestDecodeWithoutCheckBytes(t *testing.T) {
	for _, word := range []string{"a", "\x00", strings.Repeat("ab\xff", 85)} {
		decodes(t, word, 0, nil, word, 0, api.OK)
		decodes(t, word, 0, []int{}, word, 0, api.OK)
		decodes(t, word, 0, []int{0}, "", 0, api.ErrNone)
	}
}

// lists are all lists of different positions below n.
func lists(n int) [][]int {
	all := [][]int{}
	for bits := range 1 << n {
		list := []int{}
		for i := range n {
			if bits>>i&1 == 1 {
				list = append(list, i)
			}
		}
		all = append(all, list)
	}
	return all
}

// P3.3: short words against all codewords: each list of lost positions, with errors anywhere, as many as can be corrected and more.
func TestDecodeAgainstAllCodewords(t *testing.T) {
	r := rand.New(rand.NewSource(35))
	for p := range 7 {
		n := p + 1
		all := codewords(n, p)
		for _, lost := range lists(n) {
			for _, wrong := range lists(n) {
				word := damaged(r, all[r.Intn(len(all))], wrong)
				data, changes, e := nearOf(t, all, word, p, lost)
				decodes(t, word, p, lost, data, changes, e)
			}
		}
	}
}

// P3.3: the same with two bytes of data, where fewer words are tried.
func TestDecodeAgainstAllLongerCodewords(t *testing.T) {
	r := rand.New(rand.NewSource(36))
	for _, p := range []int{1, 2, 3, 4, 6} {
		n := p + 2
		all := codewords(n, p)
		for range 60 {
			lost := r.Perm(n)[:r.Intn(min(p, 3)+1)]
			word := damaged(r, all[r.Intn(len(all))], r.Perm(n)[:r.Intn(n/2+2)])
			data, changes, e := nearOf(t, all, word, p, lost)
			decodes(t, word, p, lost, data, changes, e)
		}
	}
}

// P3.3: any words, with as many check bytes as make words that are near no codeword frequent.
func TestDecodeOfAnyWords(t *testing.T) {
	r := rand.New(rand.NewSource(37))
	for _, p := range []int{1, 2, 3, 4, 5} {
		all := codewords(p+1, p)
		for range 2000 {
			word, lost := randomText(r, p+1), r.Perm(p + 1)[:r.Intn(p+1)]
			data, changes, e := nearOf(t, all, word, p, lost)
			decodes(t, word, p, lost, data, changes, e)
		}
	}
}

// P3.3 and P3.4: words of all lengths with as much damage as can be corrected, for each share of lost positions and other errors.
func TestDecodeAllThatCanBe(t *testing.T) {
	r := rand.New(rand.NewSource(38))
	for _, c := range validParameters() {
		for errors := range c.p/2 + 1 {
			losses := r.Intn(c.p - 2*errors + 1)
			if errors%3 == 0 {
				losses = c.p - 2*errors
			}
			code := encoded(t, r, c.n, c.p)
			places := r.Perm(c.n)[:min(c.n, losses+errors)]
			lost := places[:losses]
			wrong := places[r.Intn(losses+1):]
			decodes(t, damaged(r, code, wrong), c.p, lost, code[:c.n-c.p], len(wrong), api.OK)
		}
	}
}

// P3.3: one error more than can be corrected leads to another near codeword, or to none. The result is checked by the definition of near.
func TestDecodeMoreThanCanBe(t *testing.T) {
	r := rand.New(rand.NewSource(39))
	for _, c := range validParameters() {
		for range 10 {
			code := encoded(t, r, c.n, c.p)
			losses := r.Intn(c.p + 1)
			errors := (c.p-losses)/2 + 1
			places := r.Perm(c.n)[:min(c.n, losses+errors)]
			lost, word := places[:losses], damaged(r, code, places)
			if data, changes, e := label.Decode(word, c.p, lost); e == api.OK {
				checkNear(t, word, c.p, lost, data, changes)
			} else if e != api.ErrNone || data != "" || changes != 0 {
				t.Errorf("Decode(%x, %d, %v) = %x, %d, %d", word, c.p, lost, data, changes, e)
			}
		}
	}
}

// checkNear checks that the codeword that begins with data is near, and differs from the word at so many positions.
func checkNear(t *testing.T, word string, p int, lost []int, data string, changes int) {
	t.Helper()
	code, _ := label.Encode(data, p)
	if len(code) != len(word) || !isCodeword(code, p) {
		t.Fatalf("data %x of %x, p %d", data, word, p)
	}
	differs, errors := 0, 0
	for i := range len(word) {
		if code[i] != word[i] {
			differs++
			if !slices.Contains(lost, i) {
				errors++
			}
		}
	}
	if differs != changes || 2*errors+len(lost) > p {
		t.Errorf("Decode(%x, %d, %v) = %x, %d: %d errors", word, p, lost, data, changes, errors)
	}
}

// P3.3: a position that is lost several times counts once, and the order does not matter.
func TestDecodeDuplicates(t *testing.T) {
	r := rand.New(rand.NewSource(40))
	for _, c := range []parameters{{3, 2}, {9, 4}, {20, 8}, {255, 64}} {
		code := encoded(t, r, c.n, c.p)
		lost := r.Perm(c.n)[:c.p]
		word := damaged(r, code, lost)
		often := slices.Repeat(lost, 255/len(lost))
		r.Shuffle(len(often), func(i, j int) { often[i], often[j] = often[j], often[i] })
		decodes(t, word, c.p, often, code[:c.n-c.p], c.p, api.OK)
		full := append(slices.Clone(often), slices.Repeat(lost[:1], 255-len(often))...)
		kept := slices.Clone(full)
		decodes(t, word, c.p, full, code[:c.n-c.p], c.p, api.OK)
		if !slices.Equal(full, kept) {
			t.Errorf("the lost positions became %v", full)
		}
		decodes(t, word, c.p, append(full, lost[0]), "", 0, api.ErrArg)
	}
}

// P3.3: lost positions that the codeword does not change count too, even if there are no other errors.
func TestDecodeLostWithoutDamage(t *testing.T) {
	r := rand.New(rand.NewSource(41))
	for _, c := range []parameters{{3, 1}, {12, 5}, {255, 64}} {
		code := encoded(t, r, c.n, c.p)
		lost := r.Perm(c.n)[:c.p+1]
		decodes(t, code, c.p, lost[:c.p], code[:c.n-c.p], 0, api.OK)
		decodes(t, code, c.p, lost, "", 0, api.ErrNone)
		decodes(t, damaged(r, code, lost[c.p:]), c.p, lost[1:c.p], "", 0, api.ErrNone)
	}
	every := make([]int, 255)
	for i := range every {
		every[i] = i
	}
	decodes(t, encoded(t, r, 255, 64), 64, every, "", 0, api.ErrNone)
}

// P3.3: invalid arguments come before a word that is near no codeword.
func TestDecodeInvalid(t *testing.T) {
	for _, c := range invalidParameters() {
		decodes(t, strings.Repeat("\x00", c.n), c.p, nil, "", 0, api.ErrArg)
		decodes(t, strings.Repeat("\x00", c.n), c.p, []int{0, 1}, "", 0, api.ErrArg)
	}
	for _, n := range []int{9, 255} {
		word := strings.Repeat("\x00", n)
		for _, i := range []int{-1, n, n + 1, 256, 1 << 32, math.MaxInt, math.MinInt} {
			decodes(t, word, 8, []int{i}, "", 0, api.ErrArg)
			decodes(t, word, 8, []int{0, 1, i, 2}, "", 0, api.ErrArg)
			decodes(t, word, 0, []int{0, i}, "", 0, api.ErrArg)
			decodes(t, word, 0, []int{i, 0}, "", 0, api.ErrArg)
		}
		decodes(t, word, 8, make([]int, 255), word[8:], 0, api.OK)
		decodes(t, word, 8, make([]int, 256), "", 0, api.ErrArg)
		decodes(t, word, 8, make([]int, 1<<20), "", 0, api.ErrArg)
	}
}
