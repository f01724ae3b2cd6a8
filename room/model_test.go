package room_test

import (
	"encoding/hex"
	"fmt"
	"math"
	"regexp"
	"slices"
	"strconv"
	"strings"

	"silverside/api"
	"silverside/bench"
	"silverside/carve"
	"silverside/label"
	"silverside/ledger"
	"silverside/pact"
	"silverside/plane"
	"silverside/rules"
)

// model is the chapter's text told once more: lines are recognized by regular expressions, and the trace is counted byte by byte.
type model struct {
	plant        api.Plant
	outlines     [][]api.Point
	jobs         []api.Job
	net          *pact.Net
	definitions  []string
	module       rules.Module
	ledger       *ledger.Ledger
	transactions []*ledger.Tx
	trace        []string
}

func newModel(p api.Plant) *model {
	net, _ := pact.New(p.Stocks)
	return &model{plant: p, net: net, ledger: ledger.New()}
}

// patterns of the kinds of arguments in shapes.
var patterns = map[string]string{
	"n": `(?:0|-?[1-9][0-9]*)`,
	"p": `(?:0|-?[1-9][0-9]*):(?:0|-?[1-9][0-9]*)`,
	"b": `(?:0|-?[1-9][0-9]*):(?:0|-?[1-9][0-9]*):(?:0|-?[1-9][0-9]*)`,
	"k": `[!-~]{1,32}`,
	"h": `(?:[0-9a-f][0-9a-f])+`,
	"r": `(?s:.+)`,
}

// recognizers returns, for each word, what a line with this word looks like.
func recognizers() map[string]*regexp.Regexp {
	all := map[string]*regexp.Regexp{}
	for _, a := range allActs() {
		pattern := "^" + a.word
		for _, kind := range a.kinds {
			if p := patterns[kind[:1]]; strings.HasSuffix(kind, "*") {
				pattern += "((?: " + p + ")*)"
			} else {
				pattern += " (" + p + ")"
			}
		}
		all[a.word] = regexp.MustCompile(pattern + "$")
	}
	return all
}

// integers returns all numbers in the texts, and whether each of them is an int.
func integers(texts ...string) ([]int, bool) {
	var list []int
	for _, text := range texts {
		for _, field := range strings.FieldsFunc(text, func(c rune) bool { return c == ' ' || c == ':' }) {
			n, err := strconv.ParseInt(field, 10, 64)
			if err != nil {
				return nil, false
			}
			list = append(list, int(n))
		}
	}
	return list, true
}

// do tells what a room must answer.
func (m *model) do(line string, known map[string]*regexp.Regexp) (string, api.Errno) {
	word, _, _ := strings.Cut(line, " ")
	if len(line) > longestLine || strings.Contains(line, "\n") || known[word] == nil {
		return "", api.ErrSyntax
	}
	parts := known[word].FindStringSubmatch(line)
	if parts == nil {
		return "", api.ErrSyntax
	}
	result, e := m.act(word, parts[1:])
	if e == api.OK {
		m.trace = append(m.trace, line)
		for len(m.traceText()) > longestTrace {
			m.trace = m.trace[1:]
		}
	}
	return result, e
}

func (m *model) traceText() string {
	return strings.Join(append(slices.Clone(m.trace), ""), "\n")
}

func (m *model) act(word string, parts []string) (string, api.Errno) {
	switch word {
	case "label", "find":
		return m.ofText(word, parts[0])
	case "def", "ask":
		return m.ofRules(word, parts)
	case "price":
		return m.price(parts)
	case "scan":
		return m.scan(parts)
	case "get", "remove", "put", "add", "list":
		return m.ofKeys(word, parts)
	}
	n, areInts := integers(parts...)
	if !areInts {
		return "", api.ErrSyntax
	}
	switch word {
	case "outline", "touch", "apart", "carve":
		return m.ofShapes(word, n)
	case "job", "plan", "benches", "done":
		return m.ofJobs(word, n)
	case "open", "commit", "abort":
		return m.ofLedger(word, n)
	}
	return m.ofNet(word, n)
}

func (m *model) ofText(word, text string) (string, api.Errno) {
	if word == "label" {
		code, e := label.Encode(text, m.plant.Check)
		return answer(e, "label %x", code)
	}
	count, trace := 0, m.traceText()
	for at := range len(trace) {
		if strings.HasPrefix(trace[at:], text) {
			count++
		}
	}
	return fmt.Sprintf("find %d", count), api.OK
}

// answer formats a result that comes without an error.
func answer(e api.Errno, format string, values ...any) (string, api.Errno) {
	if e != api.OK {
		return "", e
	}
	return fmt.Sprintf(format, values...), api.OK
}

func (m *model) scan(parts []string) (string, api.Errno) {
	lost, areInts := integers(parts[1])
	if !areInts {
		return "", api.ErrSyntax
	}
	word, _ := hex.DecodeString(parts[0])
	data, changes, e := label.Decode(string(word), m.plant.Check, lost)
	return answer(e, "scan %d %x", changes, data)
}

func (m *model) ofShapes(word string, n []int) (string, api.Errno) {
	switch word {
	case "outline":
		points := pointsOf(n)
		area, _ := plane.Area(points)
		if !plane.Simple(points) {
			return "", api.ErrArg
		}
		if len(m.outlines) == mostOutlines {
			return "", api.ErrFull
		}
		m.outlines = append(m.outlines, points)
		return fmt.Sprintf("outline %d %.0f", len(m.outlines)-1, math.Abs(float64(area))), api.OK
	case "carve":
		var blanks []api.Blank
		for i := 2; i < len(n); i += 3 {
			blanks = append(blanks, api.Blank{W: n[i], H: n[i+1], Value: n[i+2]})
		}
		return m.carve("carve", n[0], n[1], blanks)
	case "touch":
		if !isPosition(n[0], len(m.outlines)) {
			return "", api.ErrNone
		}
		place, e := plane.Inside(m.outlines[n[0]], api.Point{X: n[1], Y: n[2]})
		return answer(e, "touch %d", place)
	}
	if !isPosition(n[0], len(m.outlines)) || !isPosition(n[1], len(m.outlines)) {
		return "", api.ErrNone
	}
	v, e := plane.Separate(m.outlines[n[0]], m.outlines[n[1]])
	return answer(e, "apart %d", map[bool]int{true: 0, false: 1}[v.Meet])
}

func isPosition(k, length int) bool {
	return k >= 0 && k < length
}

func pointsOf(n []int) []api.Point {
	var points []api.Point
	for i := 0; i < len(n); i += 2 {
		points = append(points, api.Point{X: n[i], Y: n[i+1]})
	}
	return points
}

// carve looks at what is in the way before it begins.
func (m *model) carve(word string, width, height int, blanks []api.Blank) (string, api.Errno) {
	_, bound, e := carve.Best(width, height, blanks)
	if e != api.OK {
		return "", e
	}
	if m.ledger.Open() == mostOpen {
		return "", api.ErrFull
	}
	worth := bound[width][height]
	state := map[string]int{}
	items, _ := m.ledger.At(m.ledger.Version())
	for _, i := range items {
		state[i.Key] = i.Value
	}
	state["worth"] += worth
	state["pieces"]++
	if state["worth"] > 1<<53 || state["pieces"] > 1<<53 {
		return "", api.ErrArg
	}
	if len(state) > mostItems {
		return "", api.ErrFull
	}
	x, _ := m.ledger.Begin()
	x.Put("worth", state["worth"])
	x.Put("pieces", state["pieces"])
	x.Commit()
	return fmt.Sprintf("%s %d", word, worth), api.OK
}

func (m *model) ofJobs(word string, n []int) (string, api.Errno) {
	switch word {
	case "job":
		ready, due, work := n[0], n[1], n[2]
		if ready < 0 || ready >= due || due > 1<<20 || work < 1 || work > 1<<20 {
			return "", api.ErrArg
		}
		if len(m.jobs) == mostJobs {
			return "", api.ErrFull
		}
		m.jobs = append(m.jobs, api.Job{Ready: ready, Due: due, Work: work})
		return fmt.Sprintf("job %d", len(m.jobs)-1), api.OK
	case "plan":
		a, e := bench.Plan(m.plant.Benches, m.jobs)
		return answer(e, "plan %d", map[bool]int{true: 1, false: 0}[a.Possible])
	case "benches":
		fewest, e := bench.Fewest(m.jobs)
		return answer(e, "benches %d", fewest)
	}
	if !isPosition(n[0], len(m.jobs)) {
		return "", api.ErrNone
	}
	var left []api.Job
	for k, job := range m.jobs {
		if k != n[0] {
			left = append(left, job)
		}
	}
	m.jobs = left
	return "ok", api.OK
}

func (m *model) ofNet(word string, n []int) (string, api.Errno) {
	e := api.OK
	switch word {
	case "begin":
		var parts []api.Move
		for i := 1; i < len(n); i += 2 {
			parts = append(parts, api.Move{Site: n[i], Change: n[i+1]})
		}
		tx, e := m.net.Begin(n[0], parts)
		return answer(e, "begin %d", tx)
	case "cancel":
		e = m.net.Cancel(n[0], n[1])
	case "deliver":
		e = m.net.Deliver(n[0])
	case "repeat":
		e = m.net.Repeat(n[0])
	case "lose":
		e = m.net.Lose(n[0])
	case "tick":
		e = m.net.Tick(n[0])
	case "crash":
		e = m.net.Crash(n[0])
	case "start":
		e = m.net.Start(n[0])
	}
	return answer(e, "ok")
}

func (m *model) ofRules(word string, parts []string) (string, api.Errno) {
	if word == "def" {
		kind, e := m.module.Infer(parts[1])
		if e != api.OK {
			return "", e
		}
		definitions := append(m.definitions[:len(m.definitions):len(m.definitions)], "(def "+parts[0]+" "+parts[1]+")")
		module, _, e := rules.Load(strings.Join(definitions, ""))
		if e == api.OK {
			m.definitions, m.module = definitions, module
		}
		return answer(e, "def %s", kind)
	}
	fuel, isInt := integers(parts[0])
	if !isInt {
		return "", api.ErrSyntax
	}
	kind, e := m.module.Infer(parts[1])
	if e != api.OK {
		return "", e
	}
	value, _, e := m.module.Raw(parts[1], fuel[0])
	return answer(e, "ask %s : %s", kind, value)
}

var numeral = regexp.MustCompile("^(0|[1-9][0-9]{0,6})$")

func (m *model) price(parts []string) (string, api.Errno) {
	size, areInts := integers(parts[0], parts[1])
	sides, areSides := integers(parts[3])
	if !areInts || !areSides {
		return "", api.ErrSyntax
	}
	var blanks []api.Blank
	for i := 0; i < len(sides); i += 2 {
		blanks = append(blanks, api.Blank{W: sides[i], H: sides[i+1]})
	}
	if _, _, e := carve.Best(size[0], size[1], blanks); e != api.OK {
		return "", e
	}
	for i, b := range blanks {
		value, _, e := m.module.Eval(fmt.Sprintf("((%s %d) %d)", parts[2], b.W, b.H), 1<<16)
		if e != api.OK {
			return "", e
		}
		if !numeral.MatchString(value) {
			return "", api.ErrArg
		}
		blanks[i].Value, _ = strconv.Atoi(value)
	}
	return m.carve("price", size[0], size[1], blanks)
}

func (m *model) ofLedger(word string, n []int) (string, api.Errno) {
	if word == "open" {
		x, e := m.ledger.Begin()
		if e == api.OK {
			m.transactions = append(m.transactions, x)
		}
		return answer(e, "open %d", len(m.transactions))
	}
	if !isPosition(n[0]-1, len(m.transactions)) {
		return "", api.ErrNone
	}
	x := m.transactions[n[0]-1]
	if word == "commit" {
		version, e := x.Commit()
		return answer(e, "commit %d", version)
	}
	return answer(x.Abort(), "ok")
}

func (m *model) ofKeys(word string, parts []string) (string, api.Errno) {
	n, isInt := integers(parts[0])
	value := []int{0}
	if word == "put" || word == "add" {
		var isValue bool
		value, isValue = integers(parts[2])
		isInt = isInt && isValue
	}
	if !isInt {
		return "", api.ErrSyntax
	}
	if n[0] < 1 || n[0] > len(m.transactions) {
		return "", api.ErrNone
	}
	x, key := m.transactions[n[0]-1], parts[1]
	switch word {
	case "get":
		value, e := x.Get(key)
		return answer(e, "get %d", value)
	case "put":
		return answer(x.Put(key, value[0]), "ok")
	case "add":
		sum, e := x.Add(key, value[0])
		return answer(e, "add %d", sum)
	case "remove":
		return answer(x.Remove(key), "ok")
	}
	hi := parts[2]
	if hi == "-" {
		hi = ""
	}
	items, e := x.Scan(key, hi, 1<<30)
	text := "list"
	for _, i := range items {
		text += fmt.Sprintf(" %s:%d", i.Key, i.Value)
	}
	return answer(e, "%s", text)
}

// text tells what Text must return.
func (m *model) text() string {
	var b strings.Builder
	for _, points := range m.outlines {
		fmt.Fprint(&b, "outline")
		for _, p := range points {
			fmt.Fprintf(&b, " %d:%d", p.X, p.Y)
		}
		fmt.Fprintln(&b)
	}
	for _, j := range m.jobs {
		fmt.Fprintln(&b, "job", j.Ready, j.Due, j.Work)
	}
	for site := range m.net.Sites() {
		stock, _ := m.net.Stock(site)
		fmt.Fprintln(&b, "site", stock, map[bool]int{true: 1}[m.net.Up(site)])
	}
	for _, l := range m.net.Letters() {
		fmt.Fprintln(&b, "letter", l.From, l.To, l.Kind, l.Tx, l.N)
	}
	for _, name := range m.module.Names() {
		kind, _ := m.module.Type(name)
		fmt.Fprintln(&b, "def", name, kind)
	}
	fmt.Fprintln(&b, "version", m.ledger.Version())
	items, _ := m.ledger.At(m.ledger.Version())
	for _, i := range items {
		fmt.Fprintln(&b, "item", i.Key, i.Value)
	}
	fmt.Fprintln(&b, "open", m.ledger.Open())
	fmt.Fprintln(&b, "trace", len(m.traceText()))
	return b.String()
}
