package room_test

import (
	"fmt"
	"math/rand"
	"regexp"
	"slices"
	"strconv"
	"strings"
	"testing"

	"silverside/api"
	"silverside/room"
)

// maker makes random lines, most of which are acts.
type maker struct {
	*rand.Rand
}

func (r maker) pick(texts ...string) string {
	return texts[r.Intn(len(texts))]
}

// number returns a small number, as far as possible.
func (r maker) number(most int) string {
	if r.Intn(40) == 0 {
		return r.pick("-1", "4097", "65537", "1048577", "9007199254740992", "9007199254740993", "9223372036854775807", "-9223372036854775808", "9223372036854775808", "00", "+1", "x", "")
	}
	return strconv.Itoa(r.Intn(most))
}

// groups returns so many arguments of numbers with colons between them, each less than one of the limits.
func (r maker) groups(count int, limits ...int) string {
	text := ""
	for range count {
		for i, most := range limits {
			text += []string{" ", ":"}[min(i, 1)] + r.number(most)
		}
	}
	return text
}

func (r maker) polygon() string {
	if r.Intn(3) == 0 {
		return r.groups(2+r.Intn(4), 6, 6)
	}
	x, y, size := r.Intn(20)-10, r.Intn(20)-10, 1+r.Intn(9)
	return fmt.Sprintf(" %d:%d %d:%d %d:%d", x, y, x+size, y, x, y+size)
}

func (r maker) key() string {
	return r.pick("k", "l", "m", "n", "worth", "pieces", "-", "!", "~", strings.Repeat("z", 32), strings.Repeat("z", 33))
}

func (r maker) name() string {
	return r.pick("a", "b", "area", "half", "none", "rule", "A", "fn", "a)", "(", "7")
}

func (r maker) expression() string {
	return r.pick("1", "(fn w (fn h (* w h)))", "(fn w (fn h (/ (* w h) 2)))", "(fn w (fn h (/ w (- h 2))))", "(fn w (fn h (- w h)))", "(fn w (fn h (= w h)))", "(fn x (pair x x))", "(a b)", "((rule 2) 3)", "((area 2) 3)", "((half 1) 1)",
		"a", "b", "(cons 1 nil)", " nil", "(1 1)", "(", "(/ 1 0)", "(rec f n (f n) (f 1))", "(rec f n (f n) (fn w (fn h (f 1))))", "true", "1) (def c 2", "(pair a (fn x x))", "\x00")
}

func (r maker) hex() string {
	text := ""
	for range r.Intn(9) {
		text += r.pick("00", "61", "ff", "a3", "c2")
	}
	return text + r.pick("", "", "", "", "", "0", "A0")
}

// keys makes an act of a transaction, or the beginning of one.
func (r maker) keys(most int) string {
	number := r.number(most + 2)
	switch r.Intn(9) {
	case 0:
		return "open"
	case 1:
		return "get " + number + " " + r.key()
	case 2:
		return "put " + number + " " + r.key() + " " + r.number(100)
	case 3, 4:
		return "add " + number + " " + r.key() + " " + r.number(100)
	case 5:
		return "remove " + number + " " + r.key()
	case 6:
		return "list " + number + " " + r.key() + " " + r.key()
	case 7:
		return "abort " + number
	}
	return "commit " + number
}

func (r maker) stock() string {
	word := r.pick("begin", "begin", "cancel", "deliver", "deliver", "deliver", "repeat", "lose", "tick", "crash", "start", "start")
	switch word {
	case "begin":
		a, b, change := r.Intn(3), r.Intn(3), r.Intn(9)-4
		return fmt.Sprintf("begin %d %d:%d %d:%d", r.Intn(3), a, change, b, -change)
	case "cancel":
		return word + r.groups(1, 3) + r.groups(1, 12)
	case "deliver", "repeat", "lose":
		return word + r.groups(1, 4)
	}
	return word + r.groups(1, 3)
}

func (r maker) shape(outlines int) string {
	switch r.Intn(6) {
	case 0:
		return "outline" + r.polygon()
	case 1:
		return "touch" + r.groups(1, outlines+2) + r.groups(1, 9, 9)
	case 2:
		return "apart" + r.groups(2, outlines+2)
	case 3:
		return "price" + r.groups(2, 9) + " " + r.pick("area", "rule", "half", r.name()) + r.groups(r.Intn(3), 5, 5)
	}
	return "carve" + r.groups(2, 9) + r.groups(r.Intn(4), 5, 5, 9)
}

func (r maker) work(jobs int) string {
	switch r.Intn(6) {
	case 0:
		return "label" + r.pick(" a", " two words", "  ", " \xff\x00", "", " ") + r.pick("", "b")
	case 1:
		return "scan " + r.hex() + r.groups(r.Intn(3), 4)
	case 2:
		return "plan"
	case 3:
		return "benches"
	case 4:
		return "done" + r.groups(1, jobs+3)
	}
	from := r.Intn(20)
	return fmt.Sprintf("job %d %d %d", from, from+r.Intn(9), r.Intn(5))
}

// line makes an act for a room that is as the model says.
func (r maker) line(m *model) string {
	switch r.Intn(10) {
	case 0, 1:
		return r.shape(len(m.outlines))
	case 2:
		return r.work(len(m.jobs))
	case 3, 4:
		return r.stock()
	case 5:
		return "def " + r.name() + " " + r.expression()
	case 6:
		return "ask" + r.groups(1, 30) + " " + r.expression()
	case 7:
		return "find " + r.pick("a", "find", "carve", " ", "o", "12", "(fn", "nothing")
	}
	return r.keys(len(m.transactions))
}

// spoilt makes one byte of a line another one, or adds or removes one.
func (r maker) spoilt(line string) string {
	at := r.Intn(len(line) + 1)
	b := r.pick(" ", ":", "-", "0", "1", "a", "\n", "\x00", "(", "\xff")
	switch {
	case at == len(line) || r.Intn(3) == 0:
		return line[:at] + b + line[at:]
	case r.Intn(2) == 0:
		return line[:at] + line[at+1:]
	}
	return line[:at] + b + line[at+1:]
}

// compareWith checks everything that can be seen of a room.
func (m *model) compareWith(t *testing.T, r *room.Room, line string) {
	t.Helper()
	if r.Text() != m.text() {
		t.Fatalf("after %q: Text %s, not %s", line, r.Text(), m.text())
	}
	if r.Trace() != m.traceText() {
		t.Fatalf("after %q: Trace %q, not %q", line, r.Trace(), m.traceText())
	}
	if !slices.Equal(r.Jobs(), m.jobs) {
		t.Fatalf("after %q: Jobs %v, not %v", line, r.Jobs(), m.jobs)
	}
	if items, _ := m.ledger.At(m.ledger.Version()); !slices.Equal(r.Items(), items) {
		t.Fatalf("after %q: Items %v, not %v", line, r.Items(), items)
	}
	for k := -1; k <= len(m.outlines); k++ {
		points, e := r.Outline(k)
		if isThere := isPosition(k, len(m.outlines)); isThere != (e == api.OK) || isThere && !slices.Equal(points, m.outlines[k]) || !isThere && e != api.ErrNone {
			t.Fatalf("after %q: Outline(%d) %v, %d", line, k, points, e)
		}
	}
	if n := r.Net(); !slices.Equal(n.Letters(), m.net.Letters()) || n.Settled() != m.net.Settled() {
		t.Fatalf("after %q: Letters %v, not %v", line, n.Letters(), m.net.Letters())
	}
}

// TestWalks compares a room with the model, act by act.
func TestWalks(t *testing.T) {
	known := recognizers()
	results := map[string]int{}
	for seed := range 60 {
		r := maker{rand.New(rand.NewSource(int64(seed)))}
		p := api.Plant{Stocks: []int{10, 0, 1 << 40}, Benches: 1 + seed%8, Check: seed % 5}
		m, x := newModel(p), roomOf(t, p)
		said, lines := "", ""
		for range 400 {
			line := r.line(m)
			if r.Intn(12) == 0 {
				line = r.spoilt(line)
			}
			result, e := x.Do(line)
			want, err := m.do(line, known)
			if result != want || e != err {
				t.Fatalf("%q: %q, %d, not %q, %d", line, result, e, want, err)
			}
			m.compareWith(t, x, line)
			word, _, _ := strings.Cut(line, " ")
			results[fmt.Sprintf("%s %v", word, e == api.OK)]++
			if line != "" && !strings.Contains(line, "\n") {
				lines += "\n" + line + "\n"
				said += told(result, e)
			}
		}
		if got, e := room.Play(p, lines); got != said || e != api.OK {
			t.Errorf("Play: %q, not %q", got, said)
		}
	}
	for word := range known {
		if results[word+" true"] == 0 || results[word+" false"] == 0 && !slices.Contains(seldomWrong, word) {
			t.Errorf("%s: %d without and %d with an error", word, results[word+" true"], results[word+" false"])
		}
	}
}

// seldomWrong are words of acts that only a wrong line, or a great number of them, makes fail.
var seldomWrong = []string{"find", "plan", "benches", "open"}

// told returns what Say returns for a result.
func told(result string, e api.Errno) string {
	if e != api.OK {
		return fmt.Sprintf("error %d\n", e)
	}
	return result + "\n"
}

// TestBooked adds up what carve and price return (P9.10).
func TestBooked(t *testing.T) {
	known := recognizers()
	for seed := range 20 {
		r := maker{rand.New(rand.NewSource(int64(seed)))}
		m, x := newModel(plant()), roomOf(t, plant())
		quickly(t, x, "def area (fn w (fn h (* w h)))")
		m.do("def area (fn w (fn h (* w h)))", known)
		worth, pieces := 0, 0
		for range 200 {
			line := r.line(m)
			if writes.MatchString(line) {
				continue
			}
			m.do(line, known)
			result, e := x.Do(line)
			if word, number, _ := strings.Cut(result, " "); e == api.OK && (word == "carve" || word == "price") {
				n, _ := strconv.Atoi(number)
				worth, pieces = worth+n, pieces+1
			}
		}
		state := map[string]int{}
		for _, i := range x.Items() {
			state[i.Key] = i.Value
		}
		if state["worth"] != worth || state["pieces"] != pieces || pieces == 0 {
			t.Errorf("%v, not %d of %d pieces", state, worth, pieces)
		}
	}
}

// writes recognizes the other acts that write what is booked.
var writes = regexp.MustCompile("^(put|add|remove) [0-9]+ (worth|pieces)")

// TestSettled moves stock about, and lets the net settle in the end (P9.10).
func TestSettled(t *testing.T) {
	for seed := range 40 {
		r := maker{rand.New(rand.NewSource(int64(seed)))}
		x := roomOf(t, api.Plant{Stocks: []int{10, 0, 7}, Benches: 1})
		for range 150 {
			x.Say(r.stock())
		}
		for site := range 3 {
			x.Say(fmt.Sprintf("start %d", site))
		}
		for site := range 3 {
			x.Say(fmt.Sprintf("tick %d", site))
		}
		for len(x.Net().Letters()) > 0 {
			quickly(t, x, fmt.Sprintf("deliver %d", r.Intn(len(x.Net().Letters()))))
		}
		sum := 0
		for site := range 3 {
			stock, _ := x.Net().Stock(site)
			sum += stock
		}
		if !x.Net().Settled() || sum != 17 {
			t.Errorf("settled %v, stocks %d: %s", x.Net().Settled(), sum, x.Text())
		}
	}
}
