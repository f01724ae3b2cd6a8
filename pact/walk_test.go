package pact_test

import (
	"math/rand"
	"testing"

	"silverside/api"
	"silverside/pact"
)

// world is a net and the model of it, which take the same steps.
type world struct {
	n       *pact.Net
	m       *model
	history []step
}

func worldOf(t *testing.T, stocks []int) *world {
	return &world{n: netOf(t, stocks...), m: modelOf(stocks)}
}

// step makes a call for both, and compares all that can be seen.
func (w *world) step(t *testing.T, s step) {
	t.Helper()
	w.history = append(w.history, s)
	number, e := take(w.n, s)
	wantNumber, want := w.m.take(s)
	if number != wantNumber || e != want {
		t.Fatalf("%v = %d, %d, not %d, %d, after %v", s, number, e, wantNumber, want, w.history)
	}
	if what := w.m.differs(w.n); what != "" {
		t.Fatalf("after %v: %s", w.history, what)
	}
}

// checkAgreement checks P5.6, for what the sites know before and after a step, too.
func checkAgreement(t *testing.T, w *world, sum int, known map[[2]int]int) {
	t.Helper()
	total := 0
	for _, stock := range stocksOf(w.n) {
		total += stock
		if stock < 0 || stock > 1<<40 {
			t.Fatalf("the stock %d after %v", stock, w.history)
		}
	}
	isSettled := w.n.Settled()
	if isSettled && total != sum {
		t.Fatalf("the sum %d, not %d, after %v", total, sum, w.history)
	}
	for i, d := range w.m.deals {
		kept, dropped := 0, 0
		for site := range w.n.Sites() {
			now, was := w.n.Outcome(site, i+1), known[[2]int{site, i + 1}]
			if was >= 2 && now != was || was == 1 && now == 0 {
				t.Fatalf("the site %d has changed its mind after %v", site, w.history)
			}
			known[[2]int{site, i + 1}] = now
			kept += map[int]int{2: 1}[now]
			dropped += map[int]int{3: 1}[now]
		}
		if kept > 0 && dropped > 0 || isSettled && kept > 0 && kept < len(d.parts) {
			t.Fatalf("%d sites have kept and %d dropped the transaction %d after %v", kept, dropped, i+1, w.history)
		}
	}
}

// settle makes of a net what P5.7 describes.
func settle(t *testing.T, w *world, r *rand.Rand) {
	t.Helper()
	for site := range w.n.Sites() {
		if !w.n.Up(site) {
			w.step(t, step{"start", []int{site}, nil})
		}
	}
	for _, site := range r.Perm(w.n.Sites()) {
		w.step(t, step{"tick", []int{site}, nil})
	}
	for len(w.m.mail) > 0 {
		w.step(t, step{"deliver", []int{r.Intn(len(w.m.mail))}, nil})
	}
	if !w.n.Settled() {
		t.Fatalf("not settled after %v", w.history)
	}
}

// randomStep chooses a call; a few of them are wrong.
func randomStep(r *rand.Rand, w *world, words []string, amount int) step {
	sites := w.n.Sites()
	s := step{word: words[r.Intn(len(words))]}
	switch s.word {
	case "deliver", "repeat", "lose":
		s.numbers = []int{r.Intn(len(w.m.mail)+2) - 1}
		if r.Intn(20) > 0 && len(w.m.mail) > 0 {
			s.numbers[0] = r.Intn(len(w.m.mail))
		}
		return s
	case "begin":
		sum := 0
		for _, site := range r.Perm(sites)[:1+r.Intn(sites)] {
			change := r.Intn(2*amount+1) - amount
			s.parts = append(s.parts, api.Move{Site: site, Change: change})
			sum += change
		}
		if r.Intn(20) > 0 {
			s.parts[len(s.parts)-1].Change -= sum
		}
	case "cancel":
		s.numbers = []int{0, r.Intn(len(w.m.deals) + 2)}
	}
	site := r.Intn(sites)
	if r.Intn(40) == 0 {
		site = r.Intn(sites+2) - 1
	}
	if s.numbers == nil {
		s.numbers = []int{0}
	}
	s.numbers[0] = site
	return s
}

// TestRandomCalls compares with the model, and checks agreement after each call and progress at the end.
func TestRandomCalls(t *testing.T) {
	mixes := [][]string{
		{"begin", "deliver", "deliver", "deliver", "deliver", "tick", "cancel", "repeat", "lose", "crash", "start"},
		{"begin", "deliver", "deliver", "deliver", "deliver", "deliver", "deliver", "tick", "repeat"},
		{"begin", "deliver", "deliver", "deliver", "deliver", "deliver", "lose", "tick", "crash", "start", "start"},
	}
	for seed := range 400 {
		r := rand.New(rand.NewSource(int64(seed)))
		stocks, sum := make([]int, 1+r.Intn(8)), 0
		for i := range stocks {
			stocks[i] = r.Intn(30)
			if seed%5 == 0 {
				stocks[i] = 1<<40 - r.Intn(30)
			}
			sum += stocks[i]
		}
		w, known := worldOf(t, stocks), map[[2]int]int{}
		mix := mixes[seed%len(mixes)]
		for range 120 {
			w.step(t, randomStep(r, w, mix, 12))
			checkAgreement(t, w, sum, known)
		}
		settle(t, w, r)
		checkAgreement(t, w, sum, known)
	}
}

// TestManyLettersAndTransactions comes to the limits of both.
func TestManyLettersAndTransactions(t *testing.T) {
	mix := []string{"begin", "begin", "begin", "tick", "deliver", "deliver", "deliver", "repeat", "crash", "start", "start"}
	for seed := range 3 {
		r := rand.New(rand.NewSource(int64(seed)))
		w, known := worldOf(t, []int{900, 900, 900, 900, 900}), map[[2]int]int{}
		most := 0
		for range 4000 {
			w.step(t, randomStep(r, w, mix, 5))
			most = max(most, len(w.m.mail))
		}
		checkAgreement(t, w, 4500, known)
		if most != 1024 || len(w.m.deals) != 256 {
			t.Errorf("only %d letters and %d transactions", most, len(w.m.deals))
		}
		for len(w.m.mail) > 0 {
			w.step(t, step{"lose", []int{r.Intn(len(w.m.mail))}, nil})
		}
	}
}

// explorer visits all states that some steps lead to.
type explorer struct {
	t       *testing.T
	seen    map[string]bool
	letters int // no more than these may be on their way
	steps   []step
	words   []string // what may happen to each letter
	sum     int
}

func (x *explorer) visit(w *world, known map[[2]int]int) {
	key := w.m.key()
	if x.seen[key] || len(w.m.mail) > x.letters {
		return
	}
	x.seen[key] = true
	steps := x.steps
	for k := range w.m.mail {
		for _, word := range x.words {
			steps = append(steps[:len(steps):len(steps)], step{word, []int{k}, nil})
		}
	}
	for _, s := range steps {
		next := &world{n: w.n.Clone(), m: w.m.copy(), history: append([]step{}, w.history...)}
		nextKnown := map[[2]int]int{}
		for k, v := range known {
			nextKnown[k] = v
		}
		next.step(x.t, s)
		checkAgreement(x.t, next, x.sum, nextKnown)
		x.visit(next, nextKnown)
	}
}

// TestAllWays tries all that can happen to one small transaction, or to two that compete, as long as few letters are on their way.
func TestAllWays(t *testing.T) {
	anything := "deliver; repeat; lose"
	for _, c := range []struct {
		stocks              []int
		script, steps, mail string
		letters             int
	}{
		{[]int{4, 0}, "begin 0 0:-4 1:4", "tick 0; tick 1; crash 0; crash 1; start 0; start 1; cancel 0 1", anything, 2},
		{[]int{4, 0}, "begin 0 0:-4 1:4", "tick 0; tick 1; crash 0; start 0", "deliver; repeat", 3},
		{[]int{4, 0}, "begin 0 0:-5 1:5", "tick 0; tick 1; crash 0; start 0; cancel 0 1", anything, 3},
		{[]int{4, 0, 0}, "begin 2 0:-4 1:4", "tick 2; tick 1; crash 2; start 2", "deliver; lose", 3},
		{[]int{4, 4}, "begin 0 0:-4 1:4; begin 1 0:-4 1:4", "", "deliver; lose", 4},
	} {
		w := worldOf(t, c.stocks)
		x := &explorer{t: t, seen: map[string]bool{}, letters: c.letters, words: splitScript(c.mail)}
		for _, text := range splitScript(c.script) {
			w.step(t, stepOf(text))
		}
		for _, text := range splitScript(c.steps) {
			x.steps = append(x.steps, stepOf(text))
		}
		for _, stock := range c.stocks {
			x.sum += stock
		}
		x.visit(w, map[[2]int]int{})
		t.Logf("%s: %d states", c.script, len(x.seen))
	}
}

// TestProgress: however the first steps went, one tick of each site settles the net.
func TestProgress(t *testing.T) {
	words := []string{"begin", "deliver", "deliver", "deliver", "lose", "tick", "crash", "start", "repeat", "cancel"}
	for seed := range 600 {
		r := rand.New(rand.NewSource(int64(seed)))
		w := worldOf(t, []int{9, 5, 7}[:2+seed%2])
		for range 3 + r.Intn(30) {
			w.step(t, randomStep(r, w, words, 6))
		}
		settle(t, w, r)
	}
}
