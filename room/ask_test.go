package room_test

import (
	"fmt"
	"slices"
	"strings"
	"testing"

	"silverside/api"
)

func TestDefinitions(t *testing.T) {
	r := roomOf(t, plant())
	talk(t, r, `
		def twice (fn x (+ x x)) -> def (fn int int)
		def both (fn x (pair x x)) -> def (fn a (pair a a))
		def four (both (twice 2)) -> def (pair int int)
		def many   (cons  four nil)  -> def (list (pair int int))
		ask 100 (twice 4) -> ask int : 8
		ask 100 many -> ask (list (pair int int)) : (cons (pair 4 4) nil)
		ask 100 both -> ask (fn a (pair a a)) : fn
		def twice 1 -> error 4
		def first 1 -> error 4
		def Twice 1 -> error 4
		def abcdefghijklmnopq 1 -> error 4
		def x 1) (def y 2 -> error 4
		def x) 1 -> error 4
		def x(def 1 -> error 4
		def ( 1 -> error 4
		def 1 1 -> error 4
		def x ( -> error 4
		def x (1 -> error 4
		def x 1 1 -> error 4
		def x y -> error 60
		def x x -> error 60
		def twice x -> error 60
		def first (1 1) -> error 61
		def x (fn x (x x)) -> error 61
		def x four -> def (pair int int)
	`)
	if got := r.Module().Names(); !slices.Equal(got, []string{"twice", "both", "four", "many", "x"}) {
		t.Errorf("Names: %v", got)
	}
	want := "def twice (fn int int)\ndef both (fn a (pair a a))\ndef four (pair int int)\ndef many (list (pair int int))\ndef x (pair int int)\nversion 0\n"
	if !strings.Contains(r.Text(), "\nsite 0 1\n"+want) {
		t.Errorf("Text: %s", r.Text())
	}
}

// TestMostDefinitions checks that the errors of Infer come before those of Load.
func TestMostDefinitions(t *testing.T) {
	r := roomOf(t, plant())
	name := func(k int) string { return "x" + strings.Repeat("y", k/8) + strings.Repeat("z", k%8) }
	for k := range mostDefs {
		say(t, r, fmt.Sprintf("def %s %d", name(k), k), "def int")
	}
	talk(t, r, `
		def other 1 -> error 5
		def x 1 -> error 5
		def other (1 1) -> error 61
		def other other -> error 60
		def other ( -> error 4
		ask 9 xzzz -> ask int : 3
	`)
}

func TestLongestModule(t *testing.T) {
	r := roomOf(t, plant())
	body := "1" + strings.Repeat(" ", 891) // 900 bytes as a definition of a name with one letter
	size := 0
	for letter := 'a'; size < 18*900; letter++ {
		say(t, r, fmt.Sprintf("def %c %s", letter, body), "def int")
		size += 900
	}
	left := 16384 - size
	say(t, r, "def y 1"+strings.Repeat(" ", left-8), "error 5")
	say(t, r, "def y "+strings.Repeat(" ", left-8)+"y", "error 60")
	say(t, r, "def y 1"+strings.Repeat(" ", left-9), "def int")
	say(t, r, "def z 1", "error 5")
	say(t, r, "def y 1", "error 5")
}

func TestAsk(t *testing.T) {
	r := roomOf(t, plant())
	quickly(t, r, "def twice (fn x (+ x x))")
	talk(t, r, `
		ask 7 (twice 4) -> ask int : 8
		ask 6 (twice 4) -> error 62
		ask 1 (twice 4) -> error 62
		ask 0 1 -> error 62
		ask 1 1 -> ask int : 1
		ask 9 true -> ask bool : true
		ask 9 (- 1 2) -> ask int : -1
		ask 9 nil -> ask (list a) : nil
		ask 9 (pair 1 nil) -> ask (pair int (list a)) : (pair 1 nil)
		ask 65536 (fn x x) -> ask (fn a a) : fn
		ask 65537 1 -> error 2
		ask -1 1 -> error 2
		ask 65537 (1 1) -> error 61
		ask 65537 y -> error 60
		ask 65537 ( -> error 4
		ask 9 (/ 1 0) -> error 63
		ask 65536 (+ `+greatest+` 1) -> error 63
		ask 9 (1 1) -> error 61
		ask 9 1 1 -> error 4
		ask 9 9007199254740993 -> error 4
		ask x 1 -> error 4
	`)
	double := strings.Repeat("(let x (pair x x) ", 12)
	say(t, r, "ask 65536 (let x nil "+double+"1"+strings.Repeat(")", 13), "ask int : 1")
	say(t, r, "ask 65536 (let x nil "+double+"x"+strings.Repeat(")", 13), "error 5")
	grow := "(rec f n (if (= n 0) nil (cons n (f (- n 1)))) (f %d))"
	if got := r.Say("ask 65536 " + fmt.Sprintf(grow, 3)); got != "ask (list int) : (cons 3 (cons 2 (cons 1 nil)))\n" {
		t.Errorf("ask: %s", got)
	}
	say(t, r, "ask 65536 "+fmt.Sprintf(grow, 2000), "error 5") // its type is small, but not its value
}

func TestPrice(t *testing.T) {
	r := roomOf(t, plant())
	quickly(t, r, "def area (fn w (fn h (* w h)))", "def wide (fn w (fn h w))", "def most (fn w (fn h 1048576))")
	talk(t, r, `
		price 5 2 area 2:1 -> price 8
		price 5 2 area 2:1 1:1 -> price 10
		price 5 2 wide 1:2 2:1 -> price 9
		price 5 2 area -> price 0
		price 5 2 nothing -> price 0
		price 5 2 ((( -> price 0
		price 1 1 area 2:2 -> price 0
		price 1 2 most 1:1 -> price 2097152
		open -> open 1
		get 1 worth -> get 2097179
		get 1 pieces -> get 8
	`)
}

func TestWrongPrices(t *testing.T) {
	r := roomOf(t, plant())
	quickly(t, r,
		"def area (fn w (fn h (* w h)))",
		"def over (fn w (fn h 1048577))",
		"def under (fn w (fn h (- 0 1)))",
		"def truth (fn w (fn h true))",
		"def empty (fn w (fn h nil))",
		"def short (fn w 1)",
		"def long (fn w (fn h (fn d 1)))",
		"def divide (fn w (fn h (/ h (- w 1))))",
		"def endless (rec f n (f n) (fn w (fn h (f 1))))",
		"def couple (fn w (fn h (pair w h)))",
	)
	talk(t, r, `
		price 5 2 over 2:1 -> error 2
		price 5 2 under 2:1 -> error 2
		price 5 2 truth 2:1 -> error 2
		price 5 2 empty 2:1 -> error 2
		price 5 2 couple 2:1 -> error 2
		price 5 2 long 2:1 -> error 2
		price 5 2 short 2:1 -> error 61
		price 5 2 7 2:1 -> error 61
		price 5 2 true 2:1 -> error 61
		price 5 2 nothing 2:1 -> error 60
		price 5 2 + 2:1 -> error 4
		price 5 2 ( 2:1 -> error 4
		price 5 2 fn 2:1 -> error 4
		price 5 2 area) 2:1 -> error 4
		price 5 2 endless 2:1 -> error 62
		price 5 2 divide 1:1 -> error 63
		price 5 2 divide 2:1 -> price 4
		price 0 2 nothing 2:1 -> error 2
		price 5 49 nothing 2:1 -> error 2
		price 5 2 nothing 0:1 -> error 2
		price 5 2 nothing 1:49 -> error 2
		price 5 2 area 2:1 1:-1 -> error 2
		price 5 2 divide 1:1 49:1 -> error 2
	`)
	say(t, r, "price 5 2 nothing"+strings.Repeat(" 1:1", 17), "error 2")
	say(t, r, "price 5 2 nothing"+strings.Repeat(" 1:1", 16), "error 60")
	say(t, r, "price 5 2 area"+strings.Repeat(" 1:1", 16), "price 10")
}

// TestPriceByPrice checks that the first blank that is wrong decides.
func TestPriceByPrice(t *testing.T) {
	r := roomOf(t, plant())
	quickly(t, r, "def rule (fn w (fn h (if (= w 1) (- 0 1) (if (= w 2) (/ 1 0) (if (= w 3) (rec f n (f n) (f 1)) w)))))")
	talk(t, r, `
		price 9 9 rule 1:1 -> error 2
		price 9 9 rule 2:1 -> error 63
		price 9 9 rule 3:1 -> error 62
		price 9 9 rule 4:1 9:9 1:1 2:1 3:1 -> error 2
		price 9 9 rule 2:1 1:1 3:1 -> error 63
		price 9 9 rule 3:1 2:1 1:1 -> error 62
		price 9 9 rule 9:9 4:9 -> price 9
	`)
}

// TestFuelOfPrice makes rules that consume exactly as much fuel as there is, and one unit more.
func TestFuelOfPrice(t *testing.T) {
	const most = 65536
	for fuel, want := range map[int]string{most - 1: "price 7", most: "price 7", most + 1: "error 62"} {
		rule := ruleOfFuel(t, fuel)
		r := roomOf(t, plant())
		quickly(t, r, "def rule "+rule)
		say(t, r, "price 1 1 rule 1:1", want)
		if fuel <= most {
			if _, used, e := r.Module().Eval("((rule 1) 1)", most); used != fuel || e != api.OK {
				t.Errorf("%s: %d units, %d", rule, used, e)
			}
		}
	}
}

// ruleOfFuel returns a rule that is 7, for which a blank consumes so many units.
func ruleOfFuel(t *testing.T, fuel int) string {
	t.Helper()
	const pattern = "(fn w (fn h (rec f n (if (= n 0) %s (f (- n 1))) (f %d))))"
	used := func(end string, turns int) int {
		r := roomOf(t, plant())
		quickly(t, r, "def rule "+fmt.Sprintf(pattern, end, turns))
		_, n, _ := r.Module().Eval("((rule 1) 1)", 1<<16)
		return n
	}
	base, turn := used("7", 0), used("7", 1)-used("7", 0)
	turns := (fuel - base - 2*turn) / turn
	end := "7"
	for missing := fuel - base - turns*turn; missing > 0; {
		if missing%2 == 1 {
			end, missing = "(first (pair "+end+" 0))", missing-3
		} else {
			end, missing = "(+ 0 "+end+")", missing-2
		}
	}
	return fmt.Sprintf(pattern, end, turns)
}
