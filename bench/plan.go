package bench

import (
	"cmp"
	"slices"

	"silverside/api"
)

// plan is a task as a network: the work of each job flows from the source to the job, from there into the spans in which the job may be worked on, and from these to the sink. A job can use no more of a span than its length, and all jobs together no more than that length on every bench.
type plan struct {
	*network
	benches int
	jobs    []api.Job
	spans   [][2]int
	reached map[int]int // the nodes that more could reach when the flow is greatest
}

func newPlan(benches int, jobs []api.Job) *plan {
	p := &plan{benches: benches, jobs: jobs, spans: spansOf(jobs)}
	p.network = newNetwork(first + len(jobs) + len(p.spans))
	work := 0
	for j, job := range jobs {
		work += job.Work
		p.join(source, p.jobNode(j), job.Work)
		for s, span := range p.spans {
			if job.Ready <= span[0] && span[1] <= job.Due {
				p.join(p.jobNode(j), p.spanNode(s), length(span))
			}
		}
	}
	for s, span := range p.spans {
		p.join(p.spanNode(s), sink, benches*length(span))
	}
	p.reached = p.fill(work)
	return p
}

// spansOf returns the spans between neighbouring times at which a job becomes ready or due: a job may be worked on in all of such a span or in nothing of it.
func spansOf(jobs []api.Job) [][2]int {
	times := []int{}
	for _, job := range jobs {
		times = append(times, job.Ready, job.Due)
	}
	times = slices.Compact(sorted(times, cmp.Compare[int]))
	spans := [][2]int{}
	for k := 1; k < len(times); k++ {
		spans = append(spans, [2]int{times[k-1], times[k]})
	}
	return spans
}

func (p *plan) jobNode(j int) int {
	return first + j
}

func (p *plan) spanNode(s int) int {
	return first + len(p.jobs) + s
}

// isPossible reports whether all work flows: then nothing more can leave the source.
func (p *plan) isPossible() bool {
	return len(p.reached) == 1
}

func (p *plan) answer() api.Answer {
	if p.isPossible() {
		return api.Answer{Possible: true, Slots: p.slots()}
	}
	return p.refusal()
}

// slots lays the parts of a span's flow one after the other, bench by bench. A part that the end of the span cuts goes on at the next bench, from the beginning of the span; it ends there before it began here, as it is no longer than the span.
func (p *plan) slots() []api.Slot {
	slots := []api.Slot{}
	for s, span := range p.spans {
		used := 0
		for j := range p.jobs {
			work := p.flow(arc{p.jobNode(j), p.spanNode(s)})
			for end := used + work; used < end; {
				bench, from := used/length(span), used%length(span)
				part := min(end-used, length(span)-from)
				slots = append(slots, api.Slot{Job: j, Bench: bench, From: span[0] + from, To: span[0] + from + part})
				used += part
			}
		}
	}
	return sorted(slots, inOrderOf(benchOf))
}

// refusal consists of the jobs and spans that more could reach: of the work of these jobs, no more flows than what fills these spans on all benches, and the time of the jobs in the other spans.
func (p *plan) refusal() api.Answer {
	a := api.Answer{}
	for j := range p.jobs {
		if _, ok := p.reached[p.jobNode(j)]; ok {
			a.Jobs = append(a.Jobs, j)
		}
	}
	for s, span := range p.spans {
		if _, ok := p.reached[p.spanNode(s)]; ok {
			a.Spans = append(a.Spans, span)
		}
	}
	return a
}
