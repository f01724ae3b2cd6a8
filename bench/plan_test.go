package bench_test

import (
	"math/rand"
	"slices"
	"testing"

	"silverside/api"
	"silverside/bench"
)

// mustPlan returns the answer for a task, after a test that it is right, and the one that is expected.
func mustPlan(t *testing.T, k task, possible bool) api.Answer {
	t.Helper()
	a, e := bench.Plan(k.benches, k.jobs)
	if e != api.OK || a.Possible != possible {
		t.Fatalf("Plan(%v) = %v, %d; possible: %t", k, a, e, possible)
	}
	if e := bench.Check(k.benches, k.jobs, a); e != api.OK {
		t.Fatalf("Check(%v, %v) = %d", k, a, e)
	}
	return a
}

// mustPlanSmall looks at the answer by the definition too.
func mustPlanSmall(t *testing.T, k task, possible bool) {
	t.Helper()
	a := mustPlan(t, k, possible)
	if !isRight(k, a) {
		t.Fatalf("Plan(%v) = %v is not right", k, a)
	}
}

func TestPlanExamples(t *testing.T) {
	for _, c := range []struct {
		task     task
		possible bool
	}{
		{task{2, jobsOf(0, 3, 2, 0, 3, 2, 0, 3, 2)}, true},
		{task{2, jobsOf(0, 2, 2, 0, 2, 2, 0, 2, 2)}, false},
		{task{1, jobsOf(0, 2, 3)}, false},
		{task{8, jobsOf(0, 2, 3)}, false},
		{task{1, nil}, true},
		{task{8, []api.Job{}}, true},
		{task{1, jobsOf(0, 1, 1)}, true},
		{task{1, jobsOf(0, 5, 2, 1, 2, 1, 3, 4, 1)}, true}, // the first job is interrupted twice
		{task{1, jobsOf(0, 5, 3, 1, 2, 1, 3, 4, 1)}, true},
		{task{1, jobsOf(0, 5, 4, 1, 2, 1, 3, 4, 1)}, false},
		{task{2, jobsOf(2, 4, 2, 2, 4, 1, 0, 4, 3, 0, 2, 2)}, true},
		{task{2, jobsOf(2, 4, 2, 2, 4, 1, 0, 4, 4, 0, 2, 2)}, false},
		{task{3, jobsOf(0, 4, 3, 0, 4, 3, 0, 4, 3, 0, 4, 3)}, true}, // all benches are busy all the time
		{task{3, jobsOf(0, 4, 3, 0, 4, 3, 0, 4, 3, 0, 4, 4)}, false},
		{task{1, jobsOf(0, 3, 2, 5, 9, 5, 0, 1, 1)}, false}, // only one of the jobs cannot be done
		{task{1, jobsOf(0, 1, 1, 1, 2, 1, 2, 3, 1)}, true},
	} {
		mustPlanSmall(t, c.task, c.possible)
	}
}

func TestPlanAllSmall(t *testing.T) {
	kinds := smallJobs(3, 4)
	for benches := 1; benches <= 3; benches++ {
		for i, a := range kinds {
			mustPlanSmall(t, task{benches, []api.Job{a}}, a.Work <= a.Due-a.Ready)
			for k, b := range kinds[i:] {
				for _, c := range kinds[i+k:] {
					jobs := []api.Job{b, a, c}
					small := task{benches, jobs}
					possible := canWork(small, 0, worksOf(jobs))
					if possible != isPossible(small) {
						t.Fatalf("the two definitions differ: %v", small)
					}
					mustPlanSmall(t, small, possible)
				}
			}
		}
	}
}

func TestPlanRandom(t *testing.T) {
	r := rand.New(rand.NewSource(41))
	count := [2]int{}
	for range 6000 {
		k := randomTask(r, 1+r.Intn(4), r.Intn(8), 1+r.Intn(24))
		possible := isPossible(k)
		mustPlanSmall(t, k, possible)
		if possible {
			count[1]++
		} else {
			count[0]++
		}
	}
	if min(count[0], count[1]) < 1000 {
		t.Errorf("impossible, possible: %v", count)
	}
}

func TestPlanWithoutRest(t *testing.T) {
	r := rand.New(rand.NewSource(42))
	for round := range 120 {
		benches := 1 + r.Intn(8)
		jobs := benches + r.Intn(33-benches)
		k := fullTask(r, benches, jobs, 1+r.Intn(60), []int{60, 997, 1<<20 - 1}[round%3])
		mustPlan(t, k, true)
		k.jobs[r.Intn(len(k.jobs))].Work++ // more than all benches can do
		mustPlan(t, k, false)
	}
}

func TestPlanAtTheLimits(t *testing.T) {
	long := jobsOf(0, 1<<20, 1<<20)
	mustPlan(t, task{8, slices.Repeat(long, 8)}, true)
	mustPlan(t, task{8, slices.Repeat(long, 9)}, false)
	mustPlan(t, task{7, slices.Repeat(long, 8)}, false)
	mustPlan(t, task{8, slices.Repeat(long, 32)}, false)
	mustPlan(t, task{8, slices.Repeat(jobsOf(0, 1<<20, 1<<18), 32)}, true)
	mustPlan(t, task{8, slices.Repeat(jobsOf(1, 1<<20, 1<<18), 32)}, false)
	mustPlan(t, task{1, slices.Repeat(jobsOf(0, 1<<20, 1<<15), 32)}, true)
	mustPlan(t, task{1, jobsOf(0, 1<<20, 1<<20)}, true)
	mustPlan(t, task{1, jobsOf(1, 1<<20, 1<<20)}, false)
	mustPlan(t, task{1, jobsOf(1<<20-1, 1<<20, 1)}, true)
}

// TestPlanManySlots plans jobs one in the other, whose times are all different. In each span between them, all jobs that may be worked on get the same time, so that they have a schedule, and nearly all of the time is used.
func TestPlanManySlots(t *testing.T) {
	for benches := 1; benches <= 8; benches++ {
		for _, step := range []int{1, 10, 16000} {
			k, rest := task{benches: benches}, 0
			for j := range 32 {
				k.jobs = append(k.jobs, api.Job{Ready: step * j, Due: step * (63 - j)})
			}
			for span := range 63 {
				open := min(span+1, 63-span)
				share := min(step, benches*step/open)
				for j := range open {
					k.jobs[j].Work += share
				}
				rest += min(open, benches)*step - open*share
			}
			k.jobs = slices.DeleteFunc(k.jobs, func(job api.Job) bool { return job.Work == 0 })
			mustPlan(t, k, true)
			k.jobs[0].Work += rest + 1
			mustPlan(t, k, false)
		}
	}
}

func TestPlanLarge(t *testing.T) {
	r := rand.New(rand.NewSource(43))
	for round := range 60 {
		k := randomTask(r, 1+round%8, 32, 1<<20)
		for j := range k.jobs {
			k.jobs[j].Work = 1 + k.jobs[j].Work/(1+round/8)
		}
		a, e := bench.Plan(k.benches, k.jobs)
		if e != api.OK {
			t.Fatalf("Plan(%v): %d", k, e)
		}
		mustPlan(t, k, a.Possible)
	}
}

func TestPlanErrors(t *testing.T) {
	for _, k := range invalidTasks() {
		if a, e := bench.Plan(k.benches, k.jobs); e != api.ErrArg || !isZero(a) {
			t.Errorf("Plan(%d, %d jobs) = %v, %d", k.benches, len(k.jobs), a, e)
		}
	}
}

func TestPlanChangesNothing(t *testing.T) {
	r := rand.New(rand.NewSource(44))
	for range 200 {
		k := randomTask(r, 1+r.Intn(3), r.Intn(7), 12)
		jobs := slices.Clone(k.jobs)
		first, _ := bench.Plan(k.benches, k.jobs)
		kept := copyOf(first)
		second, _ := bench.Plan(k.benches, k.jobs)
		for i := range second.Slots {
			second.Slots[i] = api.Slot{}
		}
		for i := range second.Jobs {
			second.Jobs[i] = -1
		}
		for i := range second.Spans {
			second.Spans[i] = [2]int{}
		}
		third, _ := bench.Plan(k.benches, k.jobs)
		if !areEqual(first, kept) || !areEqual(third, kept) || !slices.Equal(k.jobs, jobs) {
			t.Fatalf("Plan(%v) = %v, then %v", k, first, third)
		}
	}
}

// TestMoreRoom: what is possible remains so with a further bench, a later Due, an earlier Ready, or without a job.
func TestMoreRoom(t *testing.T) {
	r := rand.New(rand.NewSource(45))
	for range 4000 {
		k := randomTask(r, 1+r.Intn(3), 1+r.Intn(10), 20)
		a, _ := bench.Plan(k.benches, k.jobs)
		if !a.Possible {
			continue
		}
		more := task{k.benches, slices.Clone(k.jobs)}
		j := r.Intn(len(k.jobs))
		switch r.Intn(4) {
		case 0:
			more.benches++
		case 1:
			more.jobs[j].Due++
		case 2:
			more.jobs[j].Ready = max(0, more.jobs[j].Ready-1)
		case 3:
			more.jobs = slices.Delete(more.jobs, j, j+1)
		}
		mustPlan(t, more, true)
	}
}

// TestMultiples: multiples of all numbers make no difference to what is possible.
func TestMultiples(t *testing.T) {
	r := rand.New(rand.NewSource(46))
	for range 2000 {
		k := randomTask(r, 1+r.Intn(3), r.Intn(10), 16)
		a, _ := bench.Plan(k.benches, k.jobs)
		many := task{benches: k.benches}
		factor := 1 + r.Intn(1<<16)
		for _, job := range k.jobs {
			many.jobs = append(many.jobs, api.Job{Ready: factor * job.Ready, Due: factor * job.Due, Work: factor * job.Work})
		}
		mustPlan(t, many, a.Possible)
	}
}
