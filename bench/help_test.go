package bench_test

import (
	"math"
	"math/rand"
	"slices"

	"silverside/api"
)

type task struct {
	benches int
	jobs    []api.Job
}

// jobsOf makes jobs of their numbers Ready, Due and Work.
func jobsOf(numbers ...int) []api.Job {
	list := []api.Job{}
	for i := 0; i < len(numbers); i += 3 {
		list = append(list, api.Job{Ready: numbers[i], Due: numbers[i+1], Work: numbers[i+2]})
	}
	return list
}

// schedule makes a positive answer of its slots' numbers Job, Bench, From and To.
func schedule(numbers ...int) api.Answer {
	a := api.Answer{Possible: true}
	for i := 0; i < len(numbers); i += 4 {
		a.Slots = append(a.Slots, api.Slot{Job: numbers[i], Bench: numbers[i+1], From: numbers[i+2], To: numbers[i+3]})
	}
	return a
}

// refusal makes a negative answer of jobs and the beginnings and ends of spans.
func refusal(jobs []int, times ...int) api.Answer {
	a := api.Answer{Jobs: jobs}
	for i := 0; i < len(times); i += 2 {
		a.Spans = append(a.Spans, [2]int{times[i], times[i+1]})
	}
	return a
}

func copyOf(a api.Answer) api.Answer {
	return api.Answer{Possible: a.Possible, Slots: slices.Clone(a.Slots), Jobs: slices.Clone(a.Jobs), Spans: slices.Clone(a.Spans)}
}

func areEqual(a, b api.Answer) bool {
	return a.Possible == b.Possible && slices.Equal(a.Slots, b.Slots) && slices.Equal(a.Jobs, b.Jobs) && slices.Equal(a.Spans, b.Spans)
}

func isZero(a api.Answer) bool {
	return !a.Possible && len(a.Slots)+len(a.Jobs)+len(a.Spans) == 0
}

// isRight is the chapter's definition, pair by pair and one unit of time after the other.
func isRight(t task, a api.Answer) bool {
	if a.Possible {
		return len(a.Jobs) == 0 && len(a.Spans) == 0 && len(a.Slots) <= 4096 && isSchedule(t, a.Slots)
	}
	return len(a.Slots) == 0 && len(a.Spans) <= 4096 && isRefusal(t, a.Jobs, a.Spans)
}

func isSchedule(t task, slots []api.Slot) bool {
	for i, a := range slots {
		if a.Job < 0 || a.Job >= len(t.jobs) || a.Bench < 0 || a.Bench >= t.benches || a.From >= a.To {
			return false
		}
		if a.From < t.jobs[a.Job].Ready || a.To > t.jobs[a.Job].Due {
			return false
		}
		for _, b := range slots[:i] {
			if (a.Bench == b.Bench || a.Job == b.Job) && a.From < b.To && b.From < a.To {
				return false
			}
		}
	}
	for j, job := range t.jobs {
		work := 0
		for _, slot := range slots {
			if slot.Job == j {
				work += slot.To - slot.From
			}
		}
		if work != job.Work {
			return false
		}
	}
	return true
}

func isRefusal(t task, jobs []int, spans [][2]int) bool {
	inSpan := map[int]bool{}
	for i, span := range spans {
		if span[0] < 0 || span[0] >= span[1] || span[1] > 1<<20 || i > 0 && spans[i-1][1] > span[0] {
			return false
		}
		for time := span[0]; time < span[1]; time++ {
			inSpan[time] = true
		}
	}
	work, limit := 0, t.benches*len(inSpan)
	for i, j := range jobs {
		if j < 0 || j >= len(t.jobs) || i > 0 && jobs[i-1] >= j {
			return false
		}
		work += t.jobs[j].Work
		for time := t.jobs[j].Ready; time < t.jobs[j].Due; time++ {
			if !inSpan[time] {
				limit++
			}
		}
	}
	return work > limit
}

// canWork searches through all ways to work on the jobs, one unit of time after the other. left is the work that each job still needs at this time.
func canWork(t task, time int, left []int) bool {
	unfinished := false
	for j, job := range t.jobs {
		if left[j] > 0 && time+left[j] > job.Due {
			return false
		}
		unfinished = unfinished || left[j] > 0
	}
	if !unfinished {
		return true
	}
	for chosen := range 1 << len(t.jobs) {
		rest, used, fits := slices.Clone(left), 0, true
		for j, job := range t.jobs {
			if chosen>>j&1 == 1 {
				rest[j]--
				used++
				fits = fits && rest[j] >= 0 && job.Ready <= time
			}
		}
		if fits && used <= t.benches && canWork(t, time+1, rest) {
			return true
		}
	}
	return false
}

func worksOf(jobs []api.Job) []int {
	list := []int{}
	for _, job := range jobs {
		list = append(list, job.Work)
	}
	return list
}

// isPossible looks for jobs whose work is more than what is left of the time for them: at each time, as many benches, or as many of these jobs that may be worked on then, as there are. It looks at each of the 2^n sets of jobs.
func isPossible(t task) bool {
	times := []int{}
	for _, job := range t.jobs {
		times = append(times, job.Ready, job.Due)
		if job.Ready >= job.Due {
			return false
		}
	}
	slices.Sort(times)
	for set := range 1 << len(t.jobs) {
		surplus := 0
		for j, job := range t.jobs {
			surplus += job.Work * (set >> j & 1)
		}
		for k := 1; k < len(times); k++ {
			open := 0
			for j, job := range t.jobs {
				if set>>j&1 == 1 && job.Ready <= times[k-1] && times[k] <= job.Due {
					open++
				}
			}
			surplus -= min(open, t.benches) * (times[k] - times[k-1])
		}
		if surplus > 0 {
			return false
		}
	}
	return true
}

// smallJobs are all jobs with times up to end and works up to work.
func smallJobs(end, work int) []api.Job {
	list := []api.Job{}
	for due := 1; due <= end; due++ {
		for ready := range due {
			for w := 1; w <= work; w++ {
				list = append(list, api.Job{Ready: ready, Due: due, Work: w})
			}
		}
	}
	return list
}

// randomTask has the given number of jobs, with times up to end, and works that are at most the time for them, but for a few.
func randomTask(r *rand.Rand, benches, jobs, end int) task {
	t := task{benches: benches}
	for range jobs {
		ready := r.Intn(end)
		due := ready + 1 + r.Intn(end-ready)
		work := 1 + r.Intn(due-ready)
		if r.Intn(20) == 0 {
			work = 1 + r.Intn(end)
		}
		t.jobs = append(t.jobs, api.Job{Ready: ready, Due: due, Work: work})
	}
	return t
}

// fullTask has jobs that keep all benches busy from 0 to end: they are read from a schedule that works on different jobs in each of the parts of that time.
func fullTask(r *rand.Rand, benches, jobs, parts, end int) task {
	t := task{benches: benches, jobs: make([]api.Job, jobs)}
	for part := range parts {
		from, to := end*part/parts, end*(part+1)/parts
		for _, j := range r.Perm(jobs)[:benches] {
			job := &t.jobs[j]
			if job.Work == 0 {
				job.Ready = from
			}
			job.Due = to
			job.Work += to - from
		}
	}
	t.jobs = slices.DeleteFunc(t.jobs, func(job api.Job) bool { return job.Work == 0 })
	return t
}

// invalidTasks break one condition of a task each, and some break several.
func invalidTasks() []task {
	good := jobsOf(0, 2, 3)
	list := []task{
		{2, slices.Repeat(good, 33)}, {2, slices.Repeat(good, 100000)}, {0, jobsOf(0, 0, 0)},
		{2, jobsOf(0, 2, 1, 2, 2, 1)}, {2, jobsOf(3, 2, 1)}, {2, jobsOf(0, 0, 1)}, {2, jobsOf(1<<20, 1<<20, 1)},
		{2, jobsOf(math.MaxInt, math.MinInt, 1)}, {2, jobsOf(math.MinInt, math.MaxInt, 1)},
	}
	for _, benches := range []int{0, -1, 9, 1 << 32, math.MaxInt, math.MinInt} {
		list = append(list, task{benches, good}, task{benches, nil})
	}
	for _, time := range []int{-1, 1<<20 + 1, 1 << 32, math.MaxInt, math.MinInt} {
		list = append(list, task{2, jobsOf(time, 2, 1)}, task{2, jobsOf(0, time, 1)}, task{2, jobsOf(0, 2, 1, 0, time, 1)}, task{2, jobsOf(0, 2, time)}, task{2, jobsOf(0, 2, 1, 0, 2, time, 0, 2, 1)})
	}
	return append(list, task{2, jobsOf(0, 2, 0)}, task{2, jobsOf(0, 1<<20, 1<<20+1)})
}
