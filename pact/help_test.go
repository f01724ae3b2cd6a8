package pact_test

import (
	"fmt"
	"strconv"
	"strings"
	"testing"

	"silverside/api"
	"silverside/pact"
)

// step is one call: its word, its numbers, and for begin the parts.
type step struct {
	word    string
	numbers []int
	parts   []api.Move
}

// stepOf reads a step, for example "tick 1", "cancel 0 1" or "begin 0 0:-4 1:4".
func stepOf(text string) step {
	words := strings.Fields(text)
	s := step{word: words[0]}
	for _, word := range words[1:] {
		left, right, isPart := strings.Cut(word, ":")
		a, _ := strconv.Atoi(left)
		b, _ := strconv.Atoi(right)
		if isPart {
			s.parts = append(s.parts, api.Move{Site: a, Change: b})
		} else {
			s.numbers = append(s.numbers, a)
		}
	}
	return s
}

func (s step) String() string {
	return fmt.Sprint(s.word, " ", s.numbers, " ", s.parts)
}

// take makes the call.
func take(n *pact.Net, s step) (int, api.Errno) {
	k := s.numbers[0]
	switch s.word {
	case "begin":
		return n.Begin(k, s.parts)
	case "cancel":
		return 0, n.Cancel(k, s.numbers[1])
	case "deliver":
		return 0, n.Deliver(k)
	case "repeat":
		return 0, n.Repeat(k)
	case "lose":
		return 0, n.Lose(k)
	case "tick":
		return 0, n.Tick(k)
	case "crash":
		return 0, n.Crash(k)
	case "start":
		return 0, n.Start(k)
	}
	panic("no such word: " + s.word)
}

func netOf(t *testing.T, stocks ...int) *pact.Net {
	t.Helper()
	n, e := pact.New(stocks)
	if n == nil || e != api.OK {
		t.Fatalf("New(%v) = %v, %d", stocks, n, e)
	}
	return n
}

// play makes the calls of a script, which semicolons separate; all must return OK. The word all delivers the first letter until there are none.
func play(t *testing.T, n *pact.Net, script string) {
	t.Helper()
	for _, text := range splitScript(script) {
		if text == "all" {
			deliverAll(n)
		} else if _, e := take(n, stepOf(text)); e != api.OK {
			t.Fatalf("%s of %s: %d", text, script, e)
		}
	}
}

func splitScript(script string) []string {
	var list []string
	for _, text := range strings.Split(script, ";") {
		if text = strings.TrimSpace(text); text != "" {
			list = append(list, text)
		}
	}
	return list
}

func deliverAll(n *pact.Net) {
	for n.Deliver(0) == api.OK {
	}
}

// show writes letters, for example "ask 0>1 t1 4, yes 1>0 t1".
func show(letters []api.Mail) string {
	names := []string{"?", "ask", "yes", "no", "commit", "abort", "done", "what"}
	var list []string
	for _, m := range letters {
		text := fmt.Sprintf("%s %d>%d t%d", names[m.Kind], m.From, m.To, m.Tx)
		if m.Kind == 1 || m.N != 0 {
			text += fmt.Sprint(" ", m.N)
		}
		list = append(list, text)
	}
	return strings.Join(list, ", ")
}

// outcomes returns what each site knows of the transaction, one digit a site.
func outcomes(n *pact.Net, tx int) string {
	text := ""
	for site := range n.Sites() {
		text += strconv.Itoa(n.Outcome(site, tx))
	}
	return text
}

func stocksOf(n *pact.Net) []int {
	stocks := []int{}
	for site := range n.Sites() {
		stock, _ := n.Stock(site)
		stocks = append(stocks, stock)
	}
	return stocks
}

// view is all that can be seen of a net.
func view(n *pact.Net, transactions int) string {
	text := fmt.Sprint(stocksOf(n), n.Letters(), n.Settled())
	for site := range n.Sites() {
		text += fmt.Sprint(" ", n.Up(site))
	}
	for tx := 1; tx <= transactions; tx++ {
		text += " " + outcomes(n, tx)
	}
	return text
}
