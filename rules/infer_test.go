package rules_test

import (
	"math/rand"
	"strings"
	"testing"

	"silverside/api"
	"silverside/rules"
)

func TestTypes(t *testing.T) {
	m := moduleOf(t, "(def id (fn x x)) (def empty nil) (def swap (fn p (pair (second p) (first p)))) (def k (fn x (fn y x))) (def one 1)")
	for expr, want := range map[string]string{
		"(fn x (pair x x))":                                               "(fn a (pair a a))",
		"(fn x (fn y (pair y x)))":                                        "(fn a (fn b (pair b a)))",
		"(fn x (fn y (fn z (pair z (pair y x)))))":                        "(fn a (fn b (fn c (pair c (pair b a)))))",
		"(fn f (fn g (fn x (f (g x)))))":                                  "(fn (fn a b) (fn (fn c a) (fn c b)))",
		"(fn f (fn x (fn y (f (pair x y)))))":                             "(fn (fn (pair a b) c) (fn a (fn b c)))",
		"(fn x (first (first x)))":                                        "(fn (pair (pair a b) c) a)",
		"(fn x (second (first x)))":                                       "(fn (pair (pair a b) c) b)",
		"(fn x (pair (second x) (first x)))":                              "(fn (pair a b) (pair b a))",
		"(fn x (fn x x))":                                                 "(fn a (fn b b))",
		"(fn x (fn y (if x y y)))":                                        "(fn bool (fn a a))",
		"(fn x (fn y (if true x y)))":                                     "(fn a (fn a a))",
		"(fn x (cons x nil))":                                             "(fn a (list a))",
		"(fn x (cons (cons x nil) nil))":                                  "(fn a (list (list a)))",
		"(fn x (cons 1 x))":                                               "(fn (list int) (list int))",
		"(pair nil nil)":                                                  "(pair (list a) (list b))",
		"(cons nil nil)":                                                  "(list (list a))",
		"(let x nil (pair (cons 1 x) x))":                                 "(pair (list int) (list int))",
		"(let f (fn x x) f)":                                              "(fn a a)",
		"(let x 1 (let x true x))":                                        "bool",
		"(let x 1 (let x (= x 1) x))":                                     "bool",
		"(fn l (case l 0 h t h))":                                         "(fn (list int) int)",
		"(fn l (case l nil h t t))":                                       "(fn (list a) (list a))",
		"(fn l (case l l h t t))":                                         "(fn (list a) (list a))",
		"(fn l (case l nil h h h))":                                       "(fn (list a) (list a))",
		"(fn l (fn d (case l d h t h)))":                                  "(fn (list a) (fn a a))",
		"(rec f x x f)":                                                   "(fn a a)",
		"(rec f f f f)":                                                   "(fn a a)",
		"(rec f x (f x) f)":                                               "(fn a b)",
		"(rec f x (f (f x)) f)":                                           "(fn a a)",
		"(rec map l (case l nil h t (cons (+ h 1) (map t))) map)":         "(fn (list int) (list int))",
		"(fn f (rec map l (case l nil h t (cons (f h) (map t))) map))":    "(fn (fn a b) (fn (list a) (list b)))",
		"(fn f (fn s (rec fold l (case l s h t ((f h) (fold t))) fold)))": "(fn (fn a (fn b b)) (fn b (fn (list a) b)))",
		"(rec app l (fn m (case l m h t (cons h ((app t) m)))) app)":      "(fn (list a) (fn (list a) (list a)))",
		"(rec zip l (fn m (case l nil a b (case m nil c d (cons (pair a c) ((zip b) d))))) zip)": "(fn (list a) (fn (list b) (list (pair a b))))",
		"id":                      "(fn a a)",
		"(id id)":                 "(fn a a)",
		"(pair (id 1) (id true))": "(pair int bool)",
		"(pair id id)":            "(pair (fn a a) (fn b b))",
		"(pair (cons 1 empty) (cons true empty))": "(pair (list int) (list bool))",
		"(pair empty (pair empty empty))":         "(pair (list a) (pair (list b) (list c)))",
		"swap":                                    "(fn (pair a b) (pair b a))",
		"(fn x (swap (swap x)))":                  "(fn (pair a b) (pair a b))",
		"((k swap) k)":                            "(fn (pair a b) (pair b a))",
		"(let k 1 k)":                             "int",
		"(let id id (pair (id 1) id))":            "(pair int (fn int int))",
		"(fn one (pair one one))":                 "(fn a (pair a a))",
		"(rec one k (pair k k) one)":              "(fn a (pair a a))",
		"(case (cons id nil) id k one k)":         "(fn a a)",
	} {
		expect(t, m, expr, want, api.OK)
	}
}

func TestNoType(t *testing.T) {
	m := moduleOf(t, "(def id (fn x x)) (def one 1)")
	for _, expr := range []string{
		"(1 2)", "(true 1)", "(nil 1)", "((pair id id) 1)", "((id 1) 1)", "((fn x (+ x 1)) true)", "(((fn x x) 1) 2)",
		"(if 1 2 3)", "(if nil 2 3)", "(if true 1 false)", "(if true nil 1)", "(if true (cons 1 nil) (cons true nil))", "(if true (fn x 1) (fn x true))", "(if true (fn x (+ x 1)) (fn x (if x 1 2)))",
		"(first 1)", "(first nil)", "(first id)", "(second true)", "(second (cons 1 nil))", "(first (first (pair 1 2)))",
		"(cons 1 2)", "(cons 1 (cons true nil))", "(cons nil 1)", "(cons nil (cons 1 nil))", "(cons 1 (pair 1 nil))", "(cons 1 id)",
		"(case 1 2 h t 3)", "(case true 2 h t 3)", "(case (pair 1 2) 2 h t 3)", "(case nil 1 h t true)", "(case (cons 1 nil) 1 h t t)", "(case (cons true nil) 1 h t h)", "(case (cons 1 nil) nil h t (cons true t))", "(case id 1 h t 1)",
		"(let f (fn x x) (pair (f 1) (f true)))", "(fn f (pair (f 1) (f true)))", "(let x nil (pair (cons 1 x) (cons true x)))", "(let f id (pair (f 1) (f true)))",
		"(rec f x x (pair (f 1) (f true)))", "(rec f x (f true) (f 1))", "(rec f x (+ 1 x) (f true))", "(rec f x (if x 1 2) (+ (f true) (f 1)))", "(rec f x (pair (f 1) (f true)) 1)", "(rec f x (= (f x) (f true)) 1)",
		"(fn x (x x))", "((fn x (x x)) (fn x (x x)))", "(fn x (cons x x))", "(fn x (pair (first x) (x 1)))", "(fn f (f (pair f 1)))", "(let f (fn x x) (f f))", "(fn x (fn y (if true x (pair x y))))", "(fn x (if true x (cons x nil)))",
		"(rec f x f f)", "(rec f x (fn y (f x)) 1)", "(rec f x f 1)", "(rec f x (f f) 1)", "(rec f x (cons (f x) (f x)) 1)", "(rec f x (pair 1 (f x)) f)", "(rec f x (f (pair x x)) f)",
		"(let y (fn x (x x)) 1)", "(first (pair 1 (fn x (x x))))", "((fn y 1) (fn x (x x)))", "(if true 1 ((fn y 1) (fn x (x x))))", "(case nil 1 h t (h h))", "(case nil 1 id k (id k))", "(case nil 1 h t (first (pair 1 (cons t t))))", "(fn z (let y (fn x (x x)) z))",
		"(fn x (fn y (if true (pair x y) (pair y (pair x 1)))))", "(fn x (fn y (let a (if true x (cons y nil)) (let b (if true y (cons x nil)) 1))))", "(fn x (fn y (pair (x x) (pair (y y) (if true x y)))))",
	} {
		expect(t, m, expr, "", api.ErrType)
	}
	for _, op := range strings.Fields("+ - * / % < =") {
		for _, parts := range []string{"true 1", "1 true", "true true", "nil 1", "1 nil", "id 1", "1 id", "(pair 1 1) (pair 1 1)"} {
			expect(t, m, "("+op+" "+parts+")", "", api.ErrType)
		}
	}
	for _, op := range []string{"&", "|"} {
		for _, parts := range []string{"true 1", "1 true", "1 1", "nil true", "true nil", "id true", "true id"} {
			expect(t, m, "("+op+" "+parts+")", "", api.ErrType)
		}
	}
}

// TestNames: where a name is bound; that it is not comes before what is wrong with types.
func TestNames(t *testing.T) {
	m := moduleOf(t, "(def id (fn x x)) (def one 1)")
	for _, expr := range []string{
		"x", "y", "(fn x y)", "(let x x 1)", "(let x 1 y)", "((fn x x) x)", "(pair (fn x x) x)", "(rec f x 1 x)", "(rec f x y f)", "(pair (rec f x 1 f) f)", "(rec f x x (f x))",
		"(case h 1 h t 1)", "(case nil h h t 1)", "(case nil t h t 1)", "(case nil 1 h t x)", "(pair (case nil 1 h t 1) h)", "(pair (case nil 1 h t 1) t)", "(if true 1 y)", "(if y 1 1)", "(if true y 1)",
		"(first y)", "(second y)", "(cons y nil)", "(cons 1 y)", "(pair y 1)", "(+ 1 y)", "(+ y 1)", "(& true y)", "(y 1)", "(1 y)", "(fn y (fn x (pair x z)))", "ide", "i", "on", "ones", "(let ones 1 onesx)",
		"(+ true y)", "(pair (fn x (x x)) y)", "(pair y (+ true 1))", "(pair (1 1) (fn x y))",
	} {
		expect(t, m, expr, "", api.ErrName)
	}
	expect(t, rules.Module{}, "id", "", api.ErrName)
	expect(t, rules.Module{}, "one", "", api.ErrName)
	for expr, want := range map[string]string{
		"(fn x (let x (pair x x) x))":               "(fn a (pair a a))",
		"(let x 1 (rec f x x (pair (f true) x)))":   "(pair bool int)",
		"(let x 1 (case (cons nil nil) nil x y x))": "(list a)",
		"(let h 1 (case (cons true nil) h h t 1))":  "int",
		"(let f 1 (rec f x (+ x 1) f))":             "(fn int int)",
		"(let f true (pair (rec g x 1 (g f)) f))":   "(pair int bool)",
		"(fn f (pair (rec f x 1 f) f))":             "(fn a (pair (fn b int) a))",
	} {
		expect(t, m, expr, want, api.OK)
	}
}

// TestSizesOfTypes: only the type of the whole may not be too large, and it may not have more than 26 variables.
func TestSizesOfTypes(t *testing.T) {
	m := moduleOf(t, "(def large (fn x "+pairs(84, "x")+"))") // 1 + 1 + 83 + 84
	if text, e := m.Infer("large"); treeOf(text).count() != 169 || e != api.OK {
		t.Fatalf("%d words, %d", treeOf(text).count(), e)
	}
	for _, c := range []struct {
		expr  string
		size  int
		wantE api.Errno
	}{
		{"(let x 1 " + doubled(6, "x") + ")", 127, api.OK},
		{"(let x 1 " + doubled(7, "x") + ")", 255, api.OK},
		{"(let x 1 " + doubled(7, "(cons x nil)") + ")", 256, api.OK},
		{"(let x 1 " + doubled(7, "(cons (cons x nil) nil)") + ")", 0, api.ErrFull},
		{"(let x 1 " + doubled(7, "(fn y x)") + ")", 0, api.ErrFull},
		{"(let x 1 " + doubled(8, "x") + ")", 0, api.ErrFull},
		{"(let x 1 " + doubled(8, "(first x)") + ")", 255, api.OK},
		{"(let x 1 " + doubled(50, "x") + ")", 0, api.ErrFull},
		{"(let x 1 " + doubled(50, "1") + ")", 1, api.OK},
		{"(let x 1 " + doubled(50, "(first x)") + ")", 0, api.ErrFull},
		{"(let x 1 " + doubled(50, "(fn y (y x))") + ")", 0, api.ErrFull},
		{"(let x 1 " + doubled(50, "(= (first x) 1)") + ")", 0, api.ErrType},
		{"(let x 1 " + doubled(50, "(fn y (y y))") + ")", 0, api.ErrType},
		{"(fn x " + doubled(6, "x") + ")", 129, api.OK},
		{"(fn x " + doubled(7, "x") + ")", 0, api.ErrFull},
		{"(fn x " + nested("(cons . nil)", 60, "x") + ")", 63, api.OK},
		{nested("(fn x .)", 25, "1"), 51, api.OK},
		{nested("(fn x .)", 26, "1"), 53, api.OK},
		{nested("(fn x .)", 27, "1"), 0, api.ErrFull},
		{nested("(fn x .)", 26, "x"), 53, api.OK},
		{nested("(fn x .)", 27, "x"), 0, api.ErrFull},
		{nested("(fn x .)", 26, "(fn y (+ y 1))"), 55, api.OK},
		{nested("(fn x .)", 26, "nil"), 0, api.ErrFull},
		{pairs(26, "nil"), 77, api.OK},
		{pairs(27, "nil"), 0, api.ErrFull},
		{"(let x " + pairs(27, "nil") + " 1)", 1, api.OK},
		{"(pair large 1)", 171, api.OK},
		{"(pair large large)", 0, api.ErrFull},
		{"(first (pair large large))", 169, api.OK},
		{"(large 1)", 167, api.OK},
		{"(large (pair 1 1))", 0, api.ErrFull},
		{"(large (large 1))", 0, api.ErrFull},
		{"(let x " + pairs(240, "large") + " true)", 1, api.OK},
		{"(let x " + nested("(large .)", 60, "1") + " true)", 1, api.OK},
		{"(first " + nested("(large .)", 60, "1") + ")", 0, api.ErrFull},
	} {
		text, e := m.Infer(c.expr)
		if e != c.wantE || e == api.OK && treeOf(text).count() != c.size || e != api.OK && text != "" {
			t.Errorf("Infer(%.100s) = %.100s, %d, not of the size %d, %d", c.expr, text, e, c.size, c.wantE)
		}
	}
	want := "z"
	for letter := 'z'; letter >= 'a'; letter-- {
		want = "(fn " + string(letter) + " " + want + ")"
	}
	expect(t, m, nested("(fn x .)", 26, "x"), want, api.OK)
}

// TestLargeTypesThatAreTheSame compares types that have the same part at very many places.
func TestLargeTypesThatAreTheSame(t *testing.T) {
	var m rules.Module
	twice := func(name, inside string) string {
		return nested("(let "+name+" (pair "+name+" "+name+") .)", 28, inside)
	}
	both := func(x, y, inside string) string {
		return "(let x " + x + " (let y " + y + " " + twice("x", twice("y", inside)) + "))"
	}
	expect(t, m, both("1", "2", "(if true 1 (first (pair 1 (if true x y))))"), "int", api.OK)
	expect(t, m, both("1", "true", "(first (pair 1 (if true x y)))"), "", api.ErrType)
	expect(t, m, both("nil", "(cons 1 nil)", "(first (pair 1 (if true x y)))"), "int", api.OK)
	expect(t, m, both("(fn x x)", "(fn x (+ x 1))", "(first (pair true (if true x y)))"), "bool", api.OK)
	expect(t, m, "(fn z "+both("z", "(cons z nil)", "(let r (if true x y) 1)")+")", "", api.ErrType)
}

// TestTypesOfRandomExpressions compares Infer with the model.
func TestTypesOfRandomExpressions(t *testing.T) {
	text := "(def id (fn x x)) (def one 1) (def k (fn x (fn y x))) (def empty nil) (def app (fn f (fn x (f x))))"
	m := moduleOf(t, text)
	known := modelOf(text)
	r := maker{rand.New(rand.NewSource(2)), strings.Fields("x y z id one k empty app")}
	counts := map[api.Errno]int{}
	for i := range 20000 {
		expr := r.any(2 + i%4).String()
		if i%3 > 0 {
			expr = "(fn x (fn y (fn z " + expr + ")))"
		}
		want, wantE := known.infer(expr)
		if got, e := m.Infer(expr); got != want || e != wantE {
			t.Fatalf("Infer(%s) = %s, %d, not %s, %d", expr, got, e, want, wantE)
		}
		counts[wantE]++
	}
	if counts[api.OK] < 2000 || counts[api.ErrType] < 3000 || counts[api.ErrName] < 500 {
		t.Errorf("%v", counts)
	}
}

// TestAllSmallTypes compares Infer with the model for all expressions of few words, inside of two functions.
func TestAllSmallTypes(t *testing.T) {
	var m rules.Module
	leaves := []tree{word("x"), word("y"), word("nil"), word("1")}
	small := leaves
	for range 2 {
		bigger := leaves
		for _, a := range small {
			bigger = append(bigger, form("first", a), form("fn", word("x"), a), form("fn", word("y"), a))
			for _, b := range leaves {
				bigger = append(bigger, tree{parts: []tree{a, b}}, tree{parts: []tree{b, a}}, form("cons", a, b), form("pair", b, a), form("let", word("x"), a, b), form("let", word("y"), b, a))
				bigger = append(bigger, form("rec", word("x"), word("y"), a, b), form("case", b, a, word("x"), word("y"), a), form("if", word("x"), a, b))
			}
		}
		small = bigger
	}
	for _, x := range small {
		expr := "(fn x (fn y " + x.String() + "))"
		want, wantE := model{}.infer(expr)
		if got, e := m.Infer(expr); got != want || e != wantE {
			t.Fatalf("Infer(%s) = %s, %d, not %s, %d", expr, got, e, want, wantE)
		}
	}
}
