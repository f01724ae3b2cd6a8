package rules_test

import (
	"math"
	"math/rand"
	"strconv"
	"strings"
	"testing"

	"silverside/api"
	"silverside/rules"
)

// raw checks what Raw returns.
func raw(t *testing.T, m rules.Module, expr string, fuel int, want string, wantUsed int, wantE api.Errno) {
	t.Helper()
	if text, used, e := m.Raw(expr, fuel); text != want || used != wantUsed || e != wantE {
		t.Errorf("Raw(%.200q, %d) = %.200q, %d, %d, not %.200q, %d, %d", expr, fuel, text, used, e, want, wantUsed, wantE)
	}
}

// costs checks a value and the fuel that it costs: with less there is none, and with more it is the same. Eval returns the same, unless there is no type.
func costs(t *testing.T, m rules.Module, expr, want string, used int) {
	t.Helper()
	for fuel := range used {
		raw(t, m, expr, fuel, "", 0, api.ErrFuel)
	}
	for _, fuel := range []int{used, used + 1, 65536} {
		raw(t, m, expr, fuel, want, used, api.OK)
		_, wantE := m.Infer(expr)
		if text, n, e := m.Eval(expr, fuel); e != wantE || e == api.OK && (text != want || n != used) || e != api.OK && (text != "" || n != 0) {
			t.Errorf("Eval(%s, %d) = %s, %d, %d", expr, fuel, text, n, e)
		}
	}
}

func TestValues(t *testing.T) {
	m := moduleOf(t, "(def one 1) (def two (+ one one)) (def four (+ two two)) (def inc (fn x (+ x one))) (def sum (rec f l (case l 0 h t (+ h (f t))) f)) (def x 7) (def seven x)")
	for _, c := range []struct {
		expr, want string
		used       int
	}{
		{"0", "0", 1}, {"9007199254740992", "9007199254740992", 1}, {"true", "true", 1}, {"false", "false", 1}, {"nil", "nil", 1},
		{"(fn x (/ 1 0))", "fn", 1},
		{"((fn x x) 1)", "1", 4},
		{"((fn x 5) (+ 1 2))", "5", 6},
		{"(let x (+ 1 2) (* x x))", "9", 7},
		{"(let x (+ 1 2) 5)", "5", 5},
		{"(rec f x (/ 1 0) 1)", "1", 2},
		{"(rec f x (/ 1 0) f)", "fn", 2},
		{"(rec f x (+ x 1) (f 3))", "4", 7},
		{"(rec f x (if (= x 0) 7 (f (- x 1))) (f 2))", "7", 4 + 2*9 + 5},
		{"(rec len l (case l 0 h t (+ 1 (len t))) (len (cons 5 (cons 6 nil))))", "2", 1 + 2 + 5 + 2*7 + 3},
		{"(if true 1 (/ 1 0))", "1", 3},
		{"(if false (/ 1 0) 2)", "2", 3},
		{"(if (< 1 2) (+ 1 1) 2)", "2", 7},
		{"(pair 1 (+ 1 1))", "(pair 1 2)", 5},
		{"(first (pair 1 true))", "1", 4},
		{"(second (pair 1 true))", "true", 4},
		{"(cons 1 nil)", "(cons 1 nil)", 3},
		{"(cons (cons 1 nil) (cons nil nil))", "(cons (cons 1 nil) (cons nil nil))", 7},
		{"(cons (fn x x) (cons inc nil))", "(cons fn (cons fn nil))", 6},
		{"(pair (pair nil (fn x x)) false)", "(pair (pair nil fn) false)", 5},
		{"(case nil 1 h t (/ 1 0))", "1", 3},
		{"(case (cons 5 (cons 6 nil)) (/ 1 0) h t (pair h t))", "(pair 5 (cons 6 nil))", 9},
		{"(case (cons 5 nil) 0 h t t)", "nil", 5},
		{"(& true true)", "true", 3}, {"(& true false)", "false", 3}, {"(& false true)", "false", 3}, {"(& false false)", "false", 3},
		{"(| true true)", "true", 3}, {"(| true false)", "true", 3}, {"(| false true)", "true", 3}, {"(| false false)", "false", 3},
		{"(& false (= 1 1))", "false", 5}, {"(| true (= 1 1))", "true", 5},
		{"(< 1 2)", "true", 3}, {"(< 2 2)", "false", 3}, {"(< 3 2)", "false", 3}, {"(= 1 2)", "false", 3}, {"(= 2 2)", "true", 3}, {"(= 3 2)", "false", 3},
		{"(< (- 0 3) (- 0 2))", "true", 7}, {"(= (- 0 2) 2)", "false", 5},
		{"one", "1", 2}, {"two", "2", 1 + 1 + 4}, {"four", "4", 1 + 1 + 12}, {"(pair one one)", "(pair 1 1)", 5},
		{"inc", "fn", 2}, {"(inc 5)", "6", 1 + 2 + 1 + 4}, {"(sum (cons 4 (cons 5 nil)))", "9", 1 + 3 + 5 + 2*7 + 3},
		// The innermost binding counts, and functions keep those of where they were made.
		{"x", "7", 2}, {"(let x 1 x)", "1", 3}, {"(let x 1 seven)", "7", 5}, {"(let one 5 two)", "2", 8}, {"(let one 5 (inc one))", "6", 10},
		{"(let x 1 (let x (+ x 1) (pair x x)))", "(pair 2 2)", 9}, {"(let y 1 (pair (let y 2 y) y))", "(pair 2 1)", 7},
		{"(let y 1 (let f (fn z y) (let y 2 (f 0))))", "1", 10}, {"(let y 1 (let f (fn y y) (pair (f 2) y)))", "(pair 2 1)", 10},
		{"(rec f f f (f 5))", "5", 5}, {"(let y 1 (rec f z y (let y 2 (f 0))))", "1", 9}, {"(rec f z (fn z z) ((f 1) 2))", "2", 8}, {"(let f 3 (rec f z z (f 4)))", "4", 7},
		{"(case (cons 1 nil) 0 h h h)", "nil", 5}, {"(let h 9 (case nil h h t 1))", "9", 5}, {"(let h (cons 1 nil) (case h h h t h))", "1", 7}, {"(let t 9 (case (cons 1 nil) 0 h t (case t t h t h)))", "nil", 9},
		{"(((fn y (fn z (- y z))) 9) 4)", "5", 9}, {"(((fn y (fn y y)) 9) 4)", "4", 7},
		{"(let y 1 (case (cons 1 nil) 0 h t (let f (fn h (+ h y)) (let y 5 (pair (f 10) h)))))", "(pair 11 1)", 18},
		{"(let f (rec g z (if (< z 1) 0 (+ z (g (- z 1)))) g) (let g 5 (f 2)))", "3", 8 + 2*11 + 5},
	} {
		costs(t, m, c.expr, c.want, c.used)
	}
	for _, expr := range []string{"x", "(let x 1 (pair x x))", "(pair (fn x x) nil)"} {
		if text, _, e := m.Raw(expr, 0); text != "" || e != api.ErrFuel {
			t.Errorf("Raw(%s, 0) = %s, %d", expr, text, e)
		}
	}
}

func TestNumbers(t *testing.T) {
	edge := "9007199254740992"
	least := "(- 0 " + edge + ")"
	for expr, want := range map[string]string{
		"(+ 2 3)": "5", "(- 2 3)": "-1", "(* 2 3)": "6", "(/ 7 2)": "3", "(% 7 2)": "1", "(- 0 0)": "0", "(* (- 0 1) 0)": "0",
		"(/ (- 0 7) 2)": "-3", "(/ 7 (- 0 2))": "-3", "(/ (- 0 7) (- 0 2))": "3", "(/ 1 2)": "0", "(/ (- 0 1) 2)": "0", "(/ 0 5)": "0", "(/ 6 (- 0 2))": "-3",
		"(% (- 0 7) 2)": "-1", "(% 7 (- 0 2))": "1", "(% (- 0 7) (- 0 2))": "-1", "(% 1 2)": "1", "(% 6 3)": "0", "(% (- 0 6) 3)": "0",
		"(+ " + edge + " 0)": edge, "(+ " + edge + " 1)": "", "(+ 9007199254740991 1)": edge, "(+ " + edge + " " + edge + ")": "", "(+ " + least + " " + edge + ")": "0",
		least: "-" + edge, "(- " + least + " 1)": "", "(- " + least + " 0)": "-" + edge, "(+ " + least + " " + least + ")": "", "(- " + edge + " (- 0 1))": "", "(- " + least + " " + least + ")": "0", "(- " + least + " " + edge + ")": "",
		"(* 134217728 67108864)": edge, "(* 67108864 134217729)": "", "(* 94906265 94906265)": "9007199136250225", "(* 94906266 94906266)": "", "(* 94906267 94906265)": "", "(* 3 3002399751580331)": "", "(* 3002399751580331 (- 0 3))": "", "(* 3 3002399751580330)": "9007199254740990",
		"(* (- 0 134217728) 67108864)": "-" + edge, "(* 134217728 (- 0 67108864))": "-" + edge, "(* (- 0 134217728) (- 0 67108864))": edge, "(* (- 0 94906266) 94906266)": "", "(* (- 0 94906266) (- 0 94906266))": "",
		"(* 4294967296 4294967296)": "", "(* 3037000500 3037000500)": "", "(* " + edge + " " + edge + ")": "", "(* " + least + " " + least + ")": "", "(* " + edge + " " + least + ")": "", "(* " + edge + " 2048)": "", "(* 2048 " + edge + ")": "",
		"(* " + edge + " 1)": edge, "(* 1 " + edge + ")": edge, "(* " + edge + " (- 0 1))": "-" + edge, "(* " + least + " (- 0 1))": edge, "(* " + edge + " 0)": "0", "(* 0 " + least + ")": "0", "(* " + edge + " 2)": "",
		"(/ " + least + " (- 0 1))": edge, "(/ " + edge + " 1)": edge, "(% " + edge + " 2)": "0", "(% " + least + " " + edge + ")": "0", "(% 5 " + least + ")": "5",
		"(/ 1 0)": "", "(/ 0 0)": "", "(% 1 0)": "", "(% 0 0)": "", "(/ " + edge + " (- 1 1))": "",
	} {
		text, used, e := rules.Module{}.Eval(expr, 100)
		if want != "" && (text != want || used != (len(tokensOf(expr))+1)/2 || e != api.OK) || want == "" && (text != "" || used != 0 || e != api.ErrValue) {
			t.Errorf("Eval(%s) = %s, %d, %d", expr, text, used, e)
		}
	}
}

// TestErrorsOfValues: parts are evaluated from left to right, before the whole is looked at.
func TestErrorsOfValues(t *testing.T) {
	m := moduleOf(t, "(def bad (/ 1 0)) (def id (fn x x))")
	for wantE, exprs := range map[api.Errno][]string{
		api.ErrStuck: {
			"(1 2)", "(true 1)", "(nil 1)", "((pair id id) 1)", "((cons id nil) 1)", "((id 1) 2)", "(if 1 2 3)", "(if nil 2 3)", "(if id 2 3)", "(if (pair true true) 2 3)", "(if 0 (/ 1 0) (/ 1 0))",
			"(first 1)", "(first nil)", "(first (cons 1 nil))", "(first id)", "(second true)", "(second (cons 1 nil))", "(cons 1 2)", "(cons 1 true)", "(cons 1 id)", "(cons nil (pair 1 nil))",
			"(case 1 2 h t 3)", "(case true 2 h t 3)", "(case (pair 1 nil) 2 h t 3)", "(case id 2 h t 3)", "(case 0 (/ 1 0) h t (/ 1 0))",
			"(+ true 1)", "(+ 1 true)", "(- nil 1)", "(- 1 nil)", "(* id 1)", "(* 1 id)", "(/ true 0)", "(/ 1 true)", "(/ true true)", "(% true 0)", "(% 0 (pair 1 1))", "(< 1 true)", "(< true 1)", "(< true true)", "(= true true)", "(= nil nil)", "(= 1 nil)", "(= (pair 1 1) (pair 1 1))",
			"(& 1 true)", "(& true 1)", "(& false 1)", "(& 0 0)", "(& false nil)", "(| 1 true)", "(| true 1)", "(| false 1)", "(| true id)", "(* 0 true)", "(* true 0)", "(+ 9007199254740992 true)",
			"(pair (1 1) (/ 1 0))", "(cons (1 1) (/ 1 0))", "((1 1) (/ 1 0))", "(+ (1 1) (/ 1 0))", "(let x (1 1) (/ 1 0))", "(let x 1 (x x))", "(rec f x x ((f 1) 1))",
			"((fn x (x x)) 1)", "(rec f x 1 ((f 1) 2))", "(if (1 1) (/ 1 0) (/ 1 0))", "(case (1 1) (/ 1 0) h t (/ 1 0))", "(& (1 1) (/ 1 0))", "((fn x (x 1)) 1)", "(first (1 1))",
		},
		api.ErrValue: {
			"bad", "(/ 1 0)", "(pair (/ 1 0) (1 1))", "(cons (/ 1 0) (1 1))", "((/ 1 0) (1 1))", "(1 (/ 1 0))", "(true bad)", "(+ (/ 1 0) (1 1))", "(+ true (/ 1 0))", "(< nil bad)", "(& 1 (/ 1 0))", "(& false bad)", "(| true bad)", "(& bad 1)",
			"(let x bad 1)", "(let x bad (1 1))", "(id bad)", "((fn x 1) bad)", "(first bad)", "(second bad)", "(first (pair 1 bad))", "(cons 1 bad)", "(cons bad 1)", "(case bad 1 h t 1)", "(case (cons bad nil) 1 h t 2)", "(case nil bad h t (1 1))", "(case (cons 1 nil) (1 1) h t bad)",
			"(if bad (1 1) (1 1))", "(if true bad (1 1))", "(if false (1 1) bad)", "(rec f x bad (f 1))", "((fn x bad) 1)", "(- (- 0 9007199254740992) 1)", "(* 94906266 94906266)", "(% bad true)", "(/ (+ 1 9007199254740992) true)", "(= (+ 1 9007199254740992) true)",
		},
		api.OK: {"(fn x (1 1))", "(fn x bad)", "(if true 1 (1 1))", "(if false bad 1)", "(case nil 1 h t (1 1))", "(case (cons 1 nil) bad h t h)", "(rec f x (1 1) 1)", "(pair (fn x (x x)) (fn x bad))", "(let x (fn y bad) 1)"},
		api.ErrFuel: {
			"((fn x (x x)) (fn x (x x)))", "(rec f x (f x) (f 1))", "(rec f x (+ 1 (f x)) (f 1))", "(rec f x (cons x (f (+ x 1))) (f 1))", "(rec f x (pair (f x) (f x)) (f 1))", "(rec f x (f (f x)) (f 1))",
			"(1 (rec f x (f x) (f 1)))", "(+ true (rec f x (f x) (f 1)))", "(let x (rec f x (f x) (f 1)) (1 1))", "(first (rec f x (f x) (f 1)))", "((rec f x (f x) (f 1)) bad)",
		},
	} {
		for _, expr := range exprs {
			for _, fuel := range []int{100, 1000, 65536} {
				if text, used, e := m.Raw(expr, fuel); e != wantE || e != api.OK && (text != "" || used != 0) {
					t.Errorf("Raw(%s, %d) = %s, %d, %d, not %d", expr, fuel, text, used, e, wantE)
				}
			}
		}
	}
	for expr, before := range map[string]int{"(+ 1 true)": 3, "(1 2)": 3, "(/ 1 0)": 3, "(first 1)": 2, "(if 1 2 3)": 2, "(case 1 2 h t 3)": 2, "bad": 4, "(& false 1)": 3, "(cons 1 2)": 3, "(let x (/ 1 0) 1)": 4} {
		raw(t, m, expr, before-1, "", 0, api.ErrFuel)
		if _, _, e := m.Raw(expr, before); e != api.ErrStuck && e != api.ErrValue {
			t.Errorf("Raw(%s, %d): %d", expr, before, e)
		}
	}
}

// TestFuel: errors of the expression come before those of the fuel, and these before those of the evaluation.
func TestFuel(t *testing.T) {
	m := moduleOf(t, "(def one 1)")
	for _, fuel := range []int{-1, -65536, 65537, math.MinInt, math.MaxInt, 1 << 32} {
		for expr, wantE := range map[string]api.Errno{
			"1": api.ErrArg, "one": api.ErrArg, "(/ 1 0)": api.ErrArg, "(fn x (rec f y (f y) (f x)))": api.ErrArg,
			"(1 1)": api.ErrType, "(+ 1 true)": api.ErrType, "(fn x (x x))": api.ErrType,
			"two": api.ErrName, "(1 two)": api.ErrName, "(": api.ErrSyntax, "(two": api.ErrSyntax, "": api.ErrSyntax,
			"(let x 1 " + doubled(8, "x") + ")": api.ErrFull, nested("(fn x .)", 27, "1"): api.ErrFull,
		} {
			if text, used, e := m.Eval(expr, fuel); text != "" || used != 0 || e != wantE {
				t.Errorf("Eval(%s, %d) = %s, %d, %d, not %d", expr, fuel, text, used, e, wantE)
			}
			if wantE == api.ErrType || wantE == api.ErrFull {
				wantE = api.ErrArg
			}
			raw(t, m, expr, fuel, "", 0, wantE)
		}
	}
	for _, expr := range []string{"1", "one", "(/ 1 0)", "(fn x x)"} {
		for fuel, wantE := range map[int]api.Errno{0: api.ErrFuel, 65536: api.OK} {
			if expr == "(/ 1 0)" && wantE == api.OK {
				wantE = api.ErrValue
			}
			if _, _, e := m.Eval(expr, fuel); e != wantE {
				t.Errorf("Eval(%s, %d): %d", expr, fuel, e)
			}
		}
	}
	// 4 units to begin with, 9 for each but the last step, and 5 for that.
	loop := func(steps int) string {
		return "(rec f x (if (= x 0) 0 (f (- x 1))) (f " + strconv.Itoa(steps) + "))"
	}
	for _, steps := range []int{0, 1, 2, 100, 7280} {
		raw(t, m, loop(steps), 65536, "0", 4+9*steps+5, api.OK)
		raw(t, m, loop(steps), 4+9*steps+4, "", 0, api.ErrFuel)
	}
	raw(t, m, loop(7281), 65536, "", 0, api.ErrFuel)
}

// listOf is an expression of a list: first, and as many ones as this.
func listOf(first string, ones int) string {
	return "(cons " + first + " (rec f x (if (= x 0) nil (cons 1 (f (- x 1)))) (f " + strconv.Itoa(ones) + ")))"
}

// TestLengthsOfValues: the string of a value may have 16384 bytes.
func TestLengthsOfValues(t *testing.T) {
	var m rules.Module
	for _, c := range []struct {
		expr  string
		bytes int
		wantE api.Errno
	}{
		{listOf("1000000000", 1818), 16383, api.OK},
		{listOf("10000000000", 1818), 16384, api.OK},
		{listOf("100000000000", 1818), 0, api.ErrFull},
		{listOf("1", 1819), 16383, api.OK},
		{listOf("10", 1819), 16384, api.OK},
		{listOf("100", 1819), 0, api.ErrFull},
		{listOf("(- 0 1)", 1819), 16384, api.OK},
		{listOf("(- 0 10)", 1819), 0, api.ErrFull},
		{listOf("(pair 1 1)", 1818), 16383, api.OK},
		{listOf("1", 5000), 0, api.ErrFull},
		{"(first (pair 1 " + listOf("1", 5000) + "))", 1, api.OK},
		{"(let x 1 " + doubled(10, "x") + ")", 1024 + 1023*8, api.OK},
		{"(let x 1 " + doubled(11, "x") + ")", 0, api.ErrFull},
		{"(let x 1 " + doubled(50, "x") + ")", 0, api.ErrFull},
		{"(let x nil " + nested("(let x (cons x x) .)", 50, "x") + ")", 0, api.ErrFull},
		{"(let x 1 " + doubled(50, "1") + ")", 1, api.OK},
		{"(let x 1 " + doubled(50, "(cons true nil)") + ")", 15, api.OK},
		{"(let x (fn y y) " + doubled(10, "x") + ")", 2048 + 1023*8, api.OK},
	} {
		text, used, e := m.Raw(c.expr, 65536)
		if len(text) != c.bytes || e != c.wantE || e != api.OK && used != 0 {
			t.Errorf("Raw(%.100s) has %d bytes, %d, %d, not %d bytes, %d", c.expr, len(text), used, e, c.bytes, c.wantE)
		}
		if _, wantE := m.Infer(c.expr); wantE == api.OK {
			if same, sameUsed, e := m.Eval(c.expr, 65536); same != text || sameUsed != used || e != c.wantE {
				t.Errorf("Eval(%.100s) has %d bytes, %d, %d", c.expr, len(same), sameUsed, e)
			}
		}
	}
	text, _, _ := m.Raw(listOf("2", 3), 1000)
	if text != "(cons 2 (cons 1 (cons 1 (cons 1 nil))))" {
		t.Errorf("Raw = %s", text)
	}
	raw(t, m, listOf("1", 5000), 60000, "", 0, api.ErrFull)
	raw(t, m, listOf("1", 5000), 50000, "", 0, api.ErrFuel)
}

// TestValuesOfRandomExpressions compares Raw with the model, for expressions of which most have no type, and for those that have one.
func TestValuesOfRandomExpressions(t *testing.T) {
	text := "(def one 1) (def two (+ one one)) (def id (fn x x)) (def swap (fn p (pair (second p) (first p)))) (def sum (rec f l (case l 0 h t (+ h (f t))) f))"
	m, known := moduleOf(t, text), modelOf(text)
	r := maker{rand.New(rand.NewSource(3)), strings.Fields("x y z one two id swap sum")}
	counts := map[api.Errno]int{}
	for i := range 30000 {
		expr := "(let x (cons 1 (cons 2 nil)) (let y true (let z (pair 5 (fn x x)) " + r.any(2+i%4).String() + ")))"
		if i%4 == 0 {
			expr = r.of(r.kind(2), 4, nil).String()
		}
		fuel := r.Intn(2) * r.Intn(40)
		if fuel == 0 {
			fuel = 500
		}
		want, wantUsed, wantE := known.evaluate(expr, fuel)
		raw(t, m, expr, fuel, want, wantUsed, wantE)
		counts[wantE]++
	}
	if counts[api.OK] < 5000 || counts[api.ErrStuck] < 5000 || counts[api.ErrFuel] < 1000 || counts[api.ErrValue] < 300 {
		t.Errorf("%v", counts)
	}
}
