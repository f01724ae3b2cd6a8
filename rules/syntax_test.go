package rules_test

import (
	"math/rand"
	"strings"
	"testing"

	"silverside/api"
	"silverside/rules"
)

// expect checks what Infer returns, and that Eval and Raw say the same about syntax and names.
func expect(t *testing.T, m rules.Module, expr, want string, wantE api.Errno) {
	t.Helper()
	if got, e := m.Infer(expr); got != want || e != wantE {
		t.Errorf("Infer(%.200q) = %.200q, %d, not %q, %d", expr, got, e, want, wantE)
	}
	if wantE != api.OK {
		if text, used, e := m.Eval(expr, 1000); text != "" || used != 0 || e != wantE {
			t.Errorf("Eval(%.200q) = %.200q, %d, %d, not %d", expr, text, used, e, wantE)
		}
	}
	text, used, e := m.Raw(expr, 1000)
	isWrong := wantE == api.ErrSyntax || wantE == api.ErrName
	if isWrong && (text != "" || used != 0 || e != wantE) || !isWrong && (e == api.ErrSyntax || e == api.ErrName) {
		t.Errorf("Raw(%.200q) = %.200q, %d, %d, but %d is right for Infer", expr, text, used, e, wantE)
	}
}

func TestForms(t *testing.T) {
	for expr, want := range map[string]string{
		"0":                                   "int",
		"7":                                   "int",
		"9007199254740992":                    "int",
		"true":                                "bool",
		"false":                               "bool",
		"nil":                                 "(list a)",
		"(fn x x)":                            "(fn a a)",
		"((fn x x) 1)":                        "int",
		"(let x 1 x)":                         "int",
		"(rec f x (f x) f)":                   "(fn a b)",
		"(if true 1 2)":                       "int",
		"(pair 1 true)":                       "(pair int bool)",
		"(first (pair 1 true))":               "int",
		"(second (pair 1 true))":              "bool",
		"(cons true nil)":                     "(list bool)",
		"(case nil 1 h t h)":                  "int",
		"(+ 1 2)":                             "int",
		"(- 1 2)":                             "int",
		"(* 1 2)":                             "int",
		"(/ 1 2)":                             "int",
		"(% 1 2)":                             "int",
		"(< 1 2)":                             "bool",
		"(= 1 2)":                             "bool",
		"(& true false)":                      "bool",
		"(| true false)":                      "bool",
		" \n(fn\n\nx\n  x ) \n":               "(fn a a)",
		"(fn x(+ x(+ 1 x)))":                  "(fn int int)",
		"(fn abcdefghijklmnop 1)":             "(fn a int)",
		"(fn qrstuvwxyz 1)":                   "(fn a int)",
		"(fn int (fn list int))":              "(fn a (fn b a))",
		"(let fns 1 (let truex 2 (= fns 3)))": "bool",
	} {
		expect(t, rules.Module{}, expr, want, api.OK)
	}
}

func TestWrongSyntax(t *testing.T) {
	for _, expr := range []string{
		"", " ", "\n", "(", ")", "()", "(1)", "(x)", "(1 2 3)", "1 2", "x y", "1)", "(fn x x", "(fn x x))", "((fn x x) 1) 1", "(fn x x) ()",
		"fn", "let", "rec", "if", "pair", "first", "second", "cons", "case", "def", "+", "-", "*", "/", "%", "<", "=", "&", "|",
		"(fn)", "(fn x)", "(fn x x x)", "(fn 1 1)", "(fn (x) 1)", "(fn fn 1)", "(fn def 1)", "(fn true 1)", "(fn nil 1)", "(fn + 1)",
		"(let x 1)", "(let x 1 x x)", "(let x)", "(let 1 1 1)", "(let (x) 1 1)", "(let let 1 1)", "(let x 1 rec)",
		"(rec f x 1)", "(rec f x 1 f f)", "(rec f (x) 1 f)", "(rec f 1 1 f)", "(rec 1 x 1 f)", "(rec rec x 1 1)", "(rec f if 1 1)",
		"(if true 1)", "(if true 1 2 3)", "(if)", "(pair 1)", "(pair 1 2 3)", "(first)", "(first 1 2)", "(second)", "(second 1 2)",
		"(cons 1)", "(cons 1 nil nil)", "(case nil 1 h t)", "(case nil 1 h t 1 1)", "(case nil 1 h 1 1)", "(case nil 1 1 t 1)", "(case nil 1 case t 1)", "(case nil 1 h cons 1)",
		"(+ 1)", "(+ 1 2 3)", "(+)", "((+) 1)", "((+ 1) 2)", "(+1 2)", "(+ + 1)", "(1 + 2)", "(- 1)", "(& true)", "(!= 1 2)", "(<= 1 2)", "(~ 1 2)", "(== 1 2)", "(&& true true)",
		"(def x 1)", "(def 1)", "(pair (def x 1) 1)", "(true)", "(nil)",
		"007", "00", "01", "-1", "+1", "-0", "1.0", "1e3", "0x1", "1_000", "1a", "a1", "9007199254740993", "9223372036854775808", "18446744073709551617", "18446744073709551616", "36893488147419103232", "10000000000000000000000000000000000000000",
		"X", "xY", "x_y", "x-y", "x'", "\"x\"", "abcdefghijklmnopq", "(fn abcdefghijklmnopq 1)", "é", "１", "\x00", "x\x00", "\xff", "(fn\tx x)", "(fn x\tx)", "1\t", "\t1", "1\r", "1\v", "\u00a01", "(fn x x)\t", "[1]", "1;", "1,",
		"TRUE", "True", "nil nil", "(if true 1 2) 3", ")(", "1 (", "1 )", "((((", "))))",
	} {
		expect(t, rules.Module{}, expr, "", api.ErrSyntax)
		expect(t, moduleOf(t, "(def x 1) (def y 2)"), expr, "", api.ErrSyntax)
	}
}

// TestNumbersOfTokens: an expression may have 1000, in a definition as well.
func TestNumbersOfTokens(t *testing.T) {
	var m rules.Module
	for _, c := range []struct {
		inside, want string
		tokens       int
		wantE        api.Errno
	}{
		{"(if true 1 1)", "int", 999, api.OK},
		{"(< (+ 1 1) 1)", "", 1002, api.ErrSyntax},
		{"(second (fn y 1))", "", 1001, api.ErrSyntax},
		{"((x 1) 1)", "", 1000, api.ErrType},
		{"(+ 1 (y 1))", "", 1001, api.ErrSyntax},
		{"((y 1) 1)", "", 1000, api.ErrName},
	} {
		expr := "(let x " + pairs(248, "0") + " " + c.inside + ")"
		if tokens := len(tokensOf(expr)); tokens != c.tokens {
			t.Fatalf("%s: %d tokens", c.inside, tokens)
		}
		for _, text := range []string{expr, strings.Repeat(" \n", 10000) + expr + strings.Repeat("\n ", 10000)} {
			expect(t, m, text, c.want, c.wantE)
		}
	}
}

// TestOpenParentheses: 64 may be open at the same time, and more one after the other.
func TestOpenParentheses(t *testing.T) {
	var m rules.Module
	for _, pattern := range []string{"(+ . 1)", "(+ 1 .)", "(let x . 1)", "(let x 1 .)", "(if true 1 .)", "(first (pair . 1))", "((fn x 1) .)", "((fn x .) 1)", "(case nil . h t h)", "(rec f x (+ x 1) .)"} {
		before, _, _ := strings.Cut(pattern, ".")
		each := strings.Count(before, "(") - strings.Count(before, ")")
		count := 64/each - 1
		expect(t, m, nested(pattern, count, nested("(+ 1 .)", 64-count*each, "1")), "int", api.OK)
		expect(t, m, nested(pattern, count, nested("(+ 1 .)", 65-count*each, "1")), "", api.ErrSyntax)
		expect(t, m, nested(pattern, count, nested("(+ 1 .)", 65-count*each, "y")), "", api.ErrSyntax)
		expect(t, m, nested(pattern, 65, "1"), "", api.ErrSyntax)
	}
	deep := nested("(+ 1 .)", 63, "1")
	expect(t, m, "(pair "+deep+" "+deep+")", "(pair int int)", api.OK)
	expect(t, m, "(pair "+deep+" (+ 1 "+deep+"))", "", api.ErrSyntax)
	expect(t, m, nested("(. 1)", 64, "y"), "", api.ErrName)
	expect(t, m, nested("(. 1)", 65, "y"), "", api.ErrSyntax)
}

// TestLongTexts: expressions may be of any length, and are refused without delay.
func TestLongTexts(t *testing.T) {
	for _, text := range []string{"(", ")", "1", "0", "x", " ", "\n", "\xff", "+", "1 ", "x ", "(1", "(x ", "(fn x ", "1)", "() ", "(pair 1 "} {
		expect(t, rules.Module{}, strings.Repeat(text, 1<<20), "", api.ErrSyntax)
		expect(t, rules.Module{}, "(pair 1 "+strings.Repeat(text, 1<<20), "", api.ErrSyntax)
	}
}

// TestSyntaxOfRandomTokens compares with the model what becomes of expressions in which some tokens were changed.
func TestSyntaxOfRandomTokens(t *testing.T) {
	r := maker{rand.New(rand.NewSource(1)), []string{"x", "y"}}
	m := moduleOf(t, "(def x 1) (def y (fn z z))")
	words := strings.Fields("( ) ( ) ( ) x y z 0 1 true nil fn let rec if pair first second cons case def + % & | 01 xx")
	wrong := 0
	for range 30000 {
		tokens := tokensOf(r.any(3).String())
		for range r.Intn(3) {
			i, j := r.Intn(len(tokens)), r.Intn(len(tokens))
			switch r.Intn(4) {
			case 0:
				tokens[i] = r.pick(words...)
			case 1:
				tokens = append(tokens[:i:i], append([]string{r.pick(words...)}, tokens[i:]...)...)
			case 2:
				tokens[i], tokens[j] = tokens[j], tokens[i]
			case 3:
				if len(tokens) > 1 {
					tokens = append(tokens[:i:i], tokens[i+1:]...)
				}
			}
		}
		text := strings.Join(tokens, " ")
		_, e := m.Infer(text)
		if (e != api.ErrSyntax) != isExpression(text) {
			t.Fatalf("Infer(%s): %d", text, e)
		}
		if e == api.ErrSyntax {
			wrong++
		}
	}
	if wrong < 5000 || wrong > 25000 {
		t.Errorf("%d of 30000 were wrong", wrong)
	}
}

// TestRandomBytes only looks for panics, and for calls that do not end.
func TestRandomBytes(t *testing.T) {
	r := rand.New(rand.NewSource(1))
	m := moduleOf(t, "(def x 1) (def y (fn z z))")
	alphabet := "((()))  \nxyz01fn+-&\x00\xff\t"
	for range 20000 {
		text := make([]byte, r.Intn(30))
		for i := range text {
			text[i] = alphabet[r.Intn(len(alphabet))]
		}
		_, e := m.Infer(string(text))
		if text, used, wantE := m.Raw(string(text), 10); e == api.ErrSyntax && (wantE != e || text != "" || used != 0) {
			t.Errorf("Raw = %s, %d, %d, not %d", text, used, wantE, e)
		}
		m.Eval(string(text), r.Intn(20)-5)
		rules.Load(string(text))
	}
}
