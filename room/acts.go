package room

import (
	"strconv"
	"strings"

	"silverside/api"
)

// act reads all its arguments, which are wrong if they do not have the form that it needs, before it does anything. It returns its result, or panics with an error.
type act func(*arguments) string

// acts returns what each word stands for.
func (r *Room) acts() map[string]act {
	return map[string]act{
		"outline": r.addOutline,
		"touch":   r.touch,
		"apart":   r.separate,
		"carve":   r.carve,
		"label":   r.encode,
		"scan":    r.decode,
		"job":     r.addJob,
		"plan":    r.planJobs,
		"benches": r.countBenches,
		"done":    r.removeJob,
		"begin":   r.begin,
		"cancel":  r.cancel,
		"deliver": withNumber(r.net.Deliver),
		"repeat":  withNumber(r.net.Repeat),
		"lose":    withNumber(r.net.Lose),
		"tick":    withNumber(r.net.Tick),
		"crash":   withNumber(r.net.Crash),
		"start":   withNumber(r.net.Start),
		"def":     r.addDefinition,
		"ask":     r.ask,
		"price":   r.price,
		"open":    r.open,
		"get":     r.get,
		"put":     r.put,
		"add":     r.add,
		"remove":  r.remove,
		"list":    r.list,
		"commit":  r.commit,
		"abort":   r.abort,
		"find":    r.find,
	}
}

// perform returns the result of the act that the line says.
func (r *Room) perform(line string) string {
	if len(line) > api.MaxLine || strings.Contains(line, "\n") {
		panic(api.ErrSyntax)
	}
	word, a := split(line)
	do, isKnown := r.acts()[word]
	if !isKnown {
		panic(api.ErrSyntax)
	}
	return do(a)
}

// done is the result of an act that has nothing to tell.
const done = "ok"

// withNumber returns the act that calls a function with its only argument.
func withNumber(call func(int) api.Errno) act {
	return func(a *arguments) string {
		n := a.number()
		a.end()
		demand(call(n))
		return done
	}
}

// demand reports an error as that of the act.
func demand(e api.Errno) {
	if e != api.OK {
		panic(e)
	}
}

// must returns a value that comes without an error.
func must[T any](value T, e api.Errno) T {
	demand(e)
	return value
}

// phrase returns a word and numbers, separated by blanks.
func phrase(word string, numbers ...int) string {
	for _, n := range numbers {
		word += " " + strconv.Itoa(n)
	}
	return word
}

// digit returns 1 for what is true, and 0 for what is not.
func digit(is bool) int {
	if is {
		return 1
	}
	return 0
}
