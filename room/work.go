package room

import (
	"slices"

	"silverside/api"
	"silverside/bench"
	"silverside/label"
)

func (r *Room) encode(a *arguments) string {
	text := a.rest()
	return "label " + hexOf(must(label.Encode(text, r.check)))
}

func (r *Room) decode(a *arguments) string {
	word, lost := a.bytes(), a.numbers()
	data, changes, e := label.Decode(word, r.check, lost)
	demand(e)
	return phrase("scan", changes) + " " + hexOf(data)
}

func (r *Room) addJob(a *arguments) string {
	job := api.Job{Ready: a.number(), Due: a.number(), Work: a.number()}
	a.end()
	must(bench.Fewest([]api.Job{job})) // so that it is a job
	if len(r.jobs) >= api.MaxJobs {
		panic(api.ErrFull)
	}
	r.jobs = append(r.jobs, job)
	return phrase("job", len(r.jobs)-1)
}

func (r *Room) planJobs(a *arguments) string {
	a.end()
	answer := must(bench.Plan(r.benches, r.jobs))
	return phrase("plan", digit(answer.Possible))
}

func (r *Room) countBenches(a *arguments) string {
	a.end()
	return phrase("benches", must(bench.Fewest(r.jobs)))
}

func (r *Room) removeJob(a *arguments) string {
	k := a.number()
	a.end()
	if k < 0 || k >= len(r.jobs) {
		panic(api.ErrNone)
	}
	r.jobs = slices.Delete(r.jobs, k, k+1)
	return done
}
