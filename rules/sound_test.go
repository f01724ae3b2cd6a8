package rules_test

import (
	"fmt"
	"math/rand"
	"strings"
	"testing"

	"silverside/api"
	"silverside/rules"
)

const soundText = "(def one 1) (def id (fn x x)) (def k (fn x (fn y x))) (def empty nil) (def swap (fn p (pair (second p) (first p)))) (def map (fn f (rec go l (case l nil h t (cons (f h) (go t))) go))) (def sum (rec f l (case l 0 h t (+ h (f t))) f)) (def down (rec f x (if (< x 1) nil (cons x (f (- x 1)))) f))"

// fits reports whether a value has the type. A variable is the type of no value.
func fits(value, kind tree) bool {
	switch kind.head() {
	case "fn":
		return value.word == "fn"
	case "list":
		if value.word == "nil" {
			return true
		}
		return value.head() == "cons" && fits(value.parts[1], kind.parts[1]) && fits(value.parts[2], kind)
	case "pair":
		return value.head() == "pair" && fits(value.parts[1], kind.parts[1]) && fits(value.parts[2], kind.parts[2])
	}
	switch kind.word {
	case "int":
		return isNumeral(strings.TrimPrefix(value.word, "-"))
	case "bool":
		return value.word == "true" || value.word == "false"
	}
	return false
}

// hasType reports whether a type follows from a principal one by replacing variables.
func hasType(kind, principal tree, replaced map[string]string) bool {
	if principal.parts != nil {
		if len(kind.parts) != len(principal.parts) {
			return false
		}
		for i, part := range principal.parts {
			if !hasType(kind.parts[i], part, replaced) {
				return false
			}
		}
		return true
	}
	if len(principal.word) > 1 { // a word; variables have one letter
		return kind.word == principal.word
	}
	if known, isKnown := replaced[principal.word]; isKnown {
		return known == kind.String()
	}
	replaced[principal.word] = kind.String()
	return true
}

// isSound checks all that P6.4 says about one expression, and returns the errors of Infer and Raw.
func isSound(t *testing.T, m rules.Module, expr string, fuel int) (typeE, valueE api.Errno) {
	t.Helper()
	kind, typeE := m.Infer(expr)
	value, used, valueE := m.Raw(expr, fuel)
	if typeE == api.OK && valueE == api.ErrStuck {
		t.Fatalf("%s of the type %s is stuck", expr, kind)
	}
	if typeE == api.OK && valueE == api.OK && !fits(treeOf(value), treeOf(kind)) {
		t.Fatalf("%s has the type %s and the value %s", expr, kind, value)
	}
	same, sameUsed, e := m.Eval(expr, fuel)
	if typeE == api.OK && (same != value || sameUsed != used || e != valueE) || typeE != api.OK && (same != "" || sameUsed != 0 || e != typeE) {
		t.Fatalf("Eval(%s, %d) = %s, %d, %d", expr, fuel, same, sameUsed, e)
	}
	for _, other := range []int{fuel / 2, fuel - 1, used - 1, used, fuel + 1, 2*fuel + 10, 3000} {
		if other < 0 || other > 65536 {
			continue
		}
		same, sameUsed, e := m.Raw(expr, other)
		isSame := same == value && sameUsed == used && e == valueE
		if other >= fuel && valueE != api.ErrFuel && !isSame || other < fuel && !isSame && e != api.ErrFuel || valueE == api.OK && isSame != (other >= used) {
			t.Fatalf("Raw(%s) with the fuel %d: %s, %d, %d; with %d: %s, %d, %d", expr, fuel, value, used, valueE, other, same, sameUsed, e)
		}
	}
	return typeE, valueE
}

// renamed gives each bound name a name of its own.
func renamed(x tree, names map[string]tree, count *int) tree {
	if x.parts == nil {
		if twin, isBound := names[x.word]; isBound {
			return twin
		}
		return x
	}
	twin := tree{parts: append([]tree{}, x.parts...)}
	inside := names
	fresh := func(i int) {
		*count++
		name := strings.NewReplacer("0", "a", "1", "b", "2", "c", "3", "d", "4", "e", "5", "f", "6", "g", "7", "h", "8", "i", "9", "j").Replace(fmt.Sprintf("v%010d", *count))
		inside = with(inside, x.parts[i], word(name))
		twin.parts[i] = word(name)
	}
	at := func(i int, names map[string]tree) { twin.parts[i] = renamed(x.parts[i], names, count) }
	switch x.head() {
	case "fn":
		fresh(1)
		at(2, inside)
	case "let":
		fresh(1)
		at(2, names)
		at(3, inside)
	case "rec":
		fresh(1)
		at(4, inside)
		fresh(2)
		at(3, inside)
	case "case":
		at(1, names)
		at(2, names)
		fresh(3)
		fresh(4)
		at(5, inside)
	default:
		for i := range x.parts {
			at(i, names)
		}
	}
	return twin
}

// staysTheSame checks that other names for what is bound change neither type nor value.
func staysTheSame(t *testing.T, m rules.Module, x tree, fuel int) {
	t.Helper()
	expr, other := x.String(), renamed(x, nil, new(int)).String()
	kind, e := m.Infer(expr)
	if twin, twinE := m.Infer(other); twin != kind || twinE != e {
		t.Fatalf("Infer(%s) = %s, %d, but Infer(%s) = %s, %d", expr, kind, e, other, twin, twinE)
	}
	value, used, e := m.Raw(expr, fuel)
	raw(t, m, other, fuel, value, used, e)
}

// TestSoundnessOfTypedExpressions makes expressions that have a certain type.
func TestSoundnessOfTypedExpressions(t *testing.T) {
	m, known := moduleOf(t, soundText), modelOf(soundText)
	names := []typed{{"one", word("int")}, {"id", treeOf("(fn int int)")}, {"id", treeOf("(fn bool bool)")}, {"empty", treeOf("(list int)")}, {"empty", treeOf("(list bool)")}, {"sum", treeOf("(fn (list int) int)")}, {"down", treeOf("(fn int (list int))")}, {"swap", treeOf("(fn (pair int bool) (pair bool int))")}}
	r := maker{rand.New(rand.NewSource(5)), strings.Fields("x y z one id")}
	counts := map[api.Errno]int{}
	for i := range 8000 {
		kind := r.kind(3)
		x := r.of(kind, 3+i%3, names)
		expr := x.String()
		if len(tokensOf(expr)) > 1000 || depthOf(tokensOf(expr)) > 64 {
			continue
		}
		principal, e := m.Infer(expr)
		if want, wantE := known.infer(expr); e != wantE || principal != want {
			t.Fatalf("Infer(%s) = %s, %d, not %s, %d", expr, principal, e, want, wantE)
		}
		if e != api.OK || !hasType(kind, treeOf(principal), map[string]string{}) {
			t.Fatalf("Infer(%s) = %s, %d, but it has the type %s", expr, principal, e, kind)
		}
		fuel := 1 + r.Intn(400)
		_, e = isSound(t, m, expr, fuel)
		counts[e]++
		staysTheSame(t, m, x, fuel)
	}
	if counts[api.OK] < 5000 || counts[api.ErrFuel] < 100 || counts[api.ErrValue] < 50 {
		t.Errorf("%v", counts)
	}
}

// TestSoundnessOfAnyExpressions makes expressions of any form, and uses those that are functions.
func TestSoundnessOfAnyExpressions(t *testing.T) {
	m := moduleOf(t, soundText)
	r := maker{rand.New(rand.NewSource(6)), strings.Fields("x y one id k empty swap map sum")}
	types, values := map[api.Errno]int{}, map[api.Errno]int{}
	for i := range 20000 {
		x := form("let", word("x"), r.of(r.kind(2), 2, nil), form("let", word("y"), word(r.pick("1", "2", "true", "nil")), r.any(2+i%2)))
		if kind, e := m.Infer(x.String()); e == api.OK && strings.HasPrefix(kind, "(fn") {
			x = tree{parts: []tree{x, r.any(2)}}
		}
		fuel := r.Intn(60)
		typeE, valueE := isSound(t, m, x.String(), fuel)
		types[typeE]++
		if typeE == api.OK {
			values[valueE]++
		}
		staysTheSame(t, m, x, fuel)
	}
	if types[api.OK] < 2000 || types[api.ErrType] < 4000 || values[api.OK] < 1500 || values[api.ErrFuel] < 200 {
		t.Errorf("%v, %v", types, values)
	}
}

// TestSoundnessOfExamples has expressions that do more than random ones.
func TestSoundnessOfExamples(t *testing.T) {
	m := moduleOf(t, soundText)
	for _, c := range [][3]string{
		{"((map (fn x (* x x))) (down 4))", "(list int)", "(cons 16 (cons 9 (cons 4 (cons 1 nil))))"},
		{"(sum ((map (fn x (second (swap (pair x true))))) (down 3)))", "int", "6"},
		{"((map swap) (cons (pair 1 true) nil))", "(list (pair bool int))", "(cons (pair true 1) nil)"},
		{"((map k) (down 2))", "(list (fn a int))", "(cons fn (cons fn nil))"},
		{"(rec fib x (if (< x 2) x (+ (fib (- x 1)) (fib (- x 2)))) (fib 12))", "int", "144"},
		{"(rec rev l (fn done (case l done h t ((rev t) (cons h done)))) ((rev (down 3)) nil))", "(list int)", "(cons 1 (cons 2 (cons 3 nil)))"},
		{"(rec gcd x (fn y (if (= y 0) x ((gcd y) (% x y)))) ((gcd 84) 36))", "int", "12"},
		{"(rec even x (if (= x 0) true (if (= x 1) false (even (- x 2)))) (pair (even 10) (even 7)))", "(pair bool bool)", "(pair true false)"},
	} {
		expect(t, m, c[0], c[1], api.OK)
		if text, _, e := m.Eval(c[0], 65536); text != c[2] || e != api.OK {
			t.Errorf("Eval(%s) = %s, %d", c[0], text, e)
		}
		isSound(t, m, c[0], 65536/2)
		staysTheSame(t, m, treeOf(c[0]), 5000)
	}
}

// TestManyAtTheSameTime: a module may be used by several callers, as nothing in it changes.
func TestManyAtTheSameTime(t *testing.T) {
	m := moduleOf(t, soundText)
	done := make(chan string)
	for i := range 8 {
		go func() {
			wrong := ""
			for range 200 {
				expr := fmt.Sprintf("(sum ((map (fn x (+ x %d))) (down 5)))", i)
				text, _, e := m.Eval(expr, 10000)
				if kind, _ := m.Infer("(pair swap (map id))"); text != fmt.Sprint(15+5*i) || e != api.OK || kind != "(pair (fn (pair a b) (pair b a)) (fn (list c) (list c)))" {
					wrong = expr + " = " + text
				}
			}
			done <- wrong
		}()
	}
	for range 8 {
		if wrong := <-done; wrong != "" {
			t.Error(wrong)
		}
	}
}
