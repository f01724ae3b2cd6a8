package rules_test

import (
	"math/rand"
	"slices"
	"strings"
	"testing"

	"silverside/api"
	"silverside/rules"
)

// refused checks that Load refuses a text.
func refused(t *testing.T, text string, wantAt int, wantE api.Errno) {
	t.Helper()
	m, at, e := rules.Load(text)
	if at != wantAt || e != wantE || len(m.Names()) != 0 {
		t.Errorf("Load(%.200q): %d names, %d, %d, not %d, %d", text, len(m.Names()), at, e, wantAt, wantE)
	}
	if _, e := m.Type("a"); e != api.ErrName {
		t.Errorf("Type: %d", e)
	}
}

func checkTypes(t *testing.T, m rules.Module, names string, types ...string) {
	t.Helper()
	if got := m.Names(); strings.Join(got, " ") != names {
		t.Fatalf("Names = %v, not %s", got, names)
	}
	for i, name := range m.Names() {
		if text, e := m.Type(name); text != types[i] || e != api.OK {
			t.Errorf("Type(%s) = %s, %d, not %s", name, text, e, types[i])
		}
		if text, e := m.Infer(name); text != types[i] || e != api.OK {
			t.Errorf("Infer(%s) = %s, %d, not %s", name, text, e, types[i])
		}
	}
	for _, name := range []string{"", "none", "def", "fn", "A", " " + names, names + " ", "(" + names + ")", "1", "true", "\xff", strings.Repeat("a", 1<<20)} {
		if text, e := m.Type(name); text != "" || e != api.ErrName {
			t.Errorf("Type(%.100q) = %s, %d", name, text, e)
		}
	}
}

func TestLoad(t *testing.T) {
	text := "(def twice (fn f (fn x (f (f x)))))\n(def add (fn x (+ x 2)))(def b (pair add twice))\n ( def\nc nil ) (def abcdefghijklmnop(cons b c)) (def zero 0)\n"
	m := moduleOf(t, text)
	checkTypes(t, m, "twice add b c abcdefghijklmnop zero",
		"(fn (fn a a) (fn a a))", "(fn int int)", "(pair (fn int int) (fn (fn a a) (fn a a)))", "(list a)",
		"(list (pair (fn int int) (fn (fn a a) (fn a a))))", "int")
	expect(t, m, "(fn x ((twice (fn y (cons x y))) c))", "(fn a (list a))", api.OK)
	expr := "((twice add) (((twice twice) add) zero))"
	want, wantUsed, _ := modelOf(text).evaluate(expr, 1000)
	raw(t, m, expr, 1000, want, wantUsed, api.OK)
	if want != "12" {
		t.Errorf("the model says %s", want)
	}
	names := m.Names()
	slices.Sort(names)
	names[0] = "other"
	if got := m.Names(); strings.Join(got, " ") != "twice add b c abcdefghijklmnop zero" {
		t.Errorf("Names = %v", got)
	}
}

func TestModulesWithoutDefinitions(t *testing.T) {
	for _, text := range []string{"", " ", "\n", " \n \n ", strings.Repeat("\n ", 8192)} {
		checkTypes(t, moduleOf(t, text), "")
	}
	var m rules.Module
	checkTypes(t, m, "")
	expect(t, m, "(fn x x)", "(fn a a)", api.OK)
	raw(t, m, "((fn x x) 1)", 4, "1", 4, api.OK)
}

func TestWrongModules(t *testing.T) {
	for _, c := range []struct {
		text string
		at   int
		e    api.Errno
	}{
		{"(def a 1)(def a 2)", 2, api.ErrSyntax},
		{"(def a 1)(def b 2)(def a 1)", 3, api.ErrSyntax},
		{"(def a 1) 5", 2, api.ErrSyntax},
		{"(def a 1) (def b 2", 2, api.ErrSyntax},
		{"(def a 1) )", 2, api.ErrSyntax},
		{"(def a 1))(def b 2)", 2, api.ErrSyntax},
		{"(def a 1) (", 2, api.ErrSyntax},
		{"(def a 1)\t", 2, api.ErrSyntax},
		{"5", 1, api.ErrSyntax},
		{"5 (def a 1)", 1, api.ErrSyntax},
		{"def a 1", 1, api.ErrSyntax},
		{"a", 1, api.ErrSyntax},
		{"()", 1, api.ErrSyntax},
		{"(def)", 1, api.ErrSyntax},
		{"(def a)", 1, api.ErrSyntax},
		{"(def a 1 2)", 1, api.ErrSyntax},
		{"(def a b 2)", 1, api.ErrSyntax},
		{"(def a b", 1, api.ErrSyntax},
		{"(def a (+ 1 true)", 1, api.ErrSyntax},
		{"(def a (+ 1 true) 1)", 1, api.ErrSyntax},
		{"(def a 1 (def b 2)", 1, api.ErrSyntax},
		{"(def 1 1)", 1, api.ErrSyntax},
		{"(def (a) 1)", 1, api.ErrSyntax},
		{"(def A 1)", 1, api.ErrSyntax},
		{"(def def 1)", 1, api.ErrSyntax},
		{"(def fn 1)", 1, api.ErrSyntax},
		{"(def true 1)", 1, api.ErrSyntax},
		{"(def + 1)", 1, api.ErrSyntax},
		{"(def abcdefghijklmnopq 1)", 1, api.ErrSyntax},
		{"(def a (def b 1))", 1, api.ErrSyntax},
		{"(define a 1)", 1, api.ErrSyntax},
		{"(let a 1)", 1, api.ErrSyntax},
		{"(a 1)", 1, api.ErrSyntax},
		{"((def a 1))", 1, api.ErrSyntax},
		{"(def a 01)", 1, api.ErrSyntax},
		{"(def a 9007199254740993)", 1, api.ErrSyntax},
		{"(def a -1)", 1, api.ErrSyntax},
		{"(\xff)", 1, api.ErrSyntax},
		{"(def a b)(def b 1)", 1, api.ErrName},
		{"(def a a)", 1, api.ErrName},
		{"(def f (fn x (f x)))", 1, api.ErrName},
		{"(def b 1)(def a (fn x c))(def c 1)", 2, api.ErrName},
		{"(def a (+ true b))", 1, api.ErrName},
		{"(def a 1)(def a b)", 2, api.ErrSyntax},
		{"(def a 1)(def a (1 1))", 2, api.ErrSyntax},
		{"(def a (1 1))(def a 1)", 1, api.ErrType},
		{"(def a (1 1)) 5", 1, api.ErrType},
		{"(def b 1)(def a (+ 1 true))", 2, api.ErrType},
		{"(def a (fn x (x x)))", 1, api.ErrType},
		{"(def b nil)(def a (cons 1 b))(def c (cons true b))(def d (cons true a))", 4, api.ErrType},
		{"(def a " + nested("(fn x .)", 27, "1") + ")", 1, api.ErrFull},
		{"(def b 1)(def a (let x 1 " + doubled(8, "x") + "))", 2, api.ErrFull},
		{"(def b 1)(def a (let x 1 " + doubled(8, "(x x)") + "))", 2, api.ErrType},
		{"(def b 1)(def a (let x 1 " + doubled(8, "y") + "))", 2, api.ErrName},
		{"(def a (let x 1 " + doubled(8, "x") + ")) 5", 1, api.ErrFull},
	} {
		refused(t, c.text, c.at, c.e)
	}
}

// TestLengthsOfModules: a text may have 16384 bytes, of whatever kind.
func TestLengthsOfModules(t *testing.T) {
	checkTypes(t, moduleOf(t, "(def a 1)"+strings.Repeat(" ", 16384-9)), "a", "int")
	checkTypes(t, moduleOf(t, strings.Repeat("\n", 16384-9)+"(def a 1)"), "a", "int")
	refused(t, "(def a 1)"+strings.Repeat(" ", 16384-8), 0, api.ErrFull)
	refused(t, strings.Repeat(" ", 16385), 0, api.ErrFull)
	refused(t, strings.Repeat("5", 16385), 0, api.ErrFull)
	refused(t, strings.Repeat("(", 16385), 0, api.ErrFull)
	refused(t, strings.Repeat("(", 1<<24), 0, api.ErrFull)
	refused(t, strings.Repeat("5", 16384), 1, api.ErrSyntax)
	refused(t, strings.Repeat("(", 16384), 1, api.ErrSyntax)
	refused(t, "(def a "+strings.Repeat("(a ", 5000), 1, api.ErrSyntax)
	refused(t, "(def a "+strings.Repeat("1 ", 5000), 1, api.ErrSyntax)
}

// definitions is a text of this many definitions, from the name aa on.
func definitions(count int) string {
	text := ""
	for i := range count {
		text += "(def a" + string(rune('a'+i/26)) + string(rune('a'+i%26)) + " 1)"
	}
	return text
}

// TestNumbersOfDefinitions: 64 are possible. That there are too many comes before what is wrong with the further one.
func TestNumbersOfDefinitions(t *testing.T) {
	m := moduleOf(t, definitions(64)+" \n")
	if names := m.Names(); len(names) != 64 || names[63] != "acl" {
		t.Errorf("Names = %v", names)
	}
	for _, text := range []string{"(def b 1)", "5", "(", ")", "(def aaa 1)", "(def b c)", "(def b (1 1))", "(def b 1)(def b 1)", "(def b"} {
		refused(t, definitions(64)+text, 65, api.ErrFull)
	}
	refused(t, definitions(63)+"(def b c)"+"(def d 1)", 64, api.ErrName)
	refused(t, definitions(63)+"5", 64, api.ErrSyntax)
	refused(t, definitions(63)+"(def aaa 1)", 64, api.ErrSyntax)
	refused(t, definitions(200), 65, api.ErrFull)
}

// TestLimitsOfDefinitions: the limits of expressions hold for each expression on its own.
func TestLimitsOfDefinitions(t *testing.T) {
	deep, wide := nested("(+ 1 .)", 64, "1"), "(let x "+pairs(248, "0")+" (first (first x)))"
	if len(tokensOf(wide)) != 1000 {
		t.Fatalf("%d tokens", len(tokensOf(wide)))
	}
	m := moduleOf(t, "(def a "+deep+")(def b "+wide+") (def c "+deep+") (def d "+wide+")")
	checkTypes(t, m, "a b c d", "int", pairs(62, "int"), "int", pairs(62, "int"))
	refused(t, "(def b "+wide+")(def a "+nested("(+ 1 .)", 65, "1")+")", 2, api.ErrSyntax)
	refused(t, "(def a "+deep+")(def b (let x "+pairs(248, "0")+" (+ 1 (+ 1 1))))", 2, api.ErrSyntax)
	refused(t, "(def a "+deep+")(def b (let x "+pairs(248, "0")+" (+ 1 (+ y 1))))", 2, api.ErrSyntax)
	expect(t, m, "(+ a c)", "int", api.OK)
	expect(t, m, "(+ a b)", "", api.ErrType)
	raw(t, m, "(+ a c)", 1000, "130", 3+2*129, api.OK)
}

// TestModulesAreIndependent: what is inferred in one place changes no type in another one.
func TestModulesAreIndependent(t *testing.T) {
	text := "(def id (fn x x)) (def pairof (fn x (fn y (pair x y)))) (def empty nil)"
	m, twin := moduleOf(t, text), moduleOf(t, text)
	other := m
	for _, expr := range []string{"(id 1)", "(id true)", "(cons 1 empty)", "(cons true empty)", "((pairof 1) 2)", "(id id)", "(1 id)", "(empty empty)", "(fn x (+ (id x) ((pairof x) 1)))"} {
		m.Infer(expr)
		m.Eval(expr, 100)
		m.Raw(expr, 100)
		for _, module := range []rules.Module{m, twin, other} {
			checkTypes(t, module, "id pairof empty", "(fn a a)", "(fn a (fn b (pair a b)))", "(list a)")
		}
	}
}

// loaded says what Load returns for definitions whose parentheses are right.
func loaded(names []string, bodies []tree) (int, api.Errno) {
	known := model{}
	for i, name := range names {
		if _, isKnown := known[name]; isKnown {
			return i + 1, api.ErrSyntax
		}
		if _, e := known.infer(bodies[i].String()); e != api.OK {
			return i + 1, e
		}
		known[name] = bodies[i]
	}
	return 0, api.OK
}

func TestRandomModules(t *testing.T) {
	r := maker{rand.New(rand.NewSource(4)), strings.Fields("x y x y a b")}
	counts := map[api.Errno]int{}
	for range 10000 {
		names, bodies, text := []string{}, []tree{}, ""
		for range 1 + r.Intn(4) {
			name := r.pick("a", "b", "c", "d", "e", "f")
			body := form("fn", word("x"), form("fn", word("y"), r.any(2)))
			if r.Intn(3) == 0 {
				body = r.of(r.kind(2), 2, nil)
			}
			names, bodies = append(names, name), append(bodies, body)
			text += form("def", word(name), body).String() + r.pick("", " ", "\n")
		}
		wantAt, wantE := loaded(names, bodies)
		m, at, e := rules.Load(text)
		if at != wantAt || e != wantE || e != api.OK && len(m.Names()) > 0 || e == api.OK && !slices.Equal(m.Names(), names) {
			t.Fatalf("Load(%s): %v, %d, %d, not %d, %d", text, m.Names(), at, e, wantAt, wantE)
		}
		counts[wantE]++
		if wantE != api.OK {
			continue
		}
		known := modelOf(text)
		for _, name := range names {
			want, _ := known.infer(name)
			if got, e := m.Type(name); got != want || e != api.OK {
				t.Fatalf("Load(%s): Type(%s) = %s, %d, not %s", text, name, got, e, want)
			}
		}
		expr := r.any(2).String()
		if known.isBound(treeOf(expr)) {
			want, wantUsed, wantE := known.evaluate(expr, 300)
			raw(t, m, expr, 300, want, wantUsed, wantE)
		}
	}
	if counts[api.OK] < 2000 || counts[api.ErrSyntax] < 1000 || counts[api.ErrName] < 1000 || counts[api.ErrType] < 1000 {
		t.Errorf("%v", counts)
	}
}
