package bench_test

import (
	"math/rand"
	"slices"
	"testing"

	"silverside/api"
	"silverside/bench"
)

// fewest and latest are the chapter's definitions.
func fewest(jobs []api.Job) int {
	for benches := 1; benches <= 8; benches++ {
		if isPossible(task{benches, jobs}) {
			return benches
		}
	}
	return 0
}

func isPossibleLater(benches int, jobs []api.Job, d int) bool {
	later := slices.Clone(jobs)
	for j := range later {
		later[j].Ready += d
	}
	return isPossible(task{benches, later})
}

func latest(benches int, jobs []api.Job, end int) int {
	for d := end; d >= 0; d-- {
		if isPossibleLater(benches, jobs, d) {
			return d
		}
	}
	return -1
}

func TestFewest(t *testing.T) {
	one := jobsOf(0, 2, 2)
	for _, c := range []struct {
		jobs []api.Job
		want int
	}{
		{nil, 1}, {[]api.Job{}, 1}, {one, 1}, {jobsOf(0, 2, 3), 0},
		{slices.Repeat(one, 3), 3}, {slices.Repeat(one, 8), 8}, {slices.Repeat(one, 9), 0}, {slices.Repeat(one, 32), 0},
		{jobsOf(0, 3, 2, 0, 3, 2, 0, 3, 2), 2}, {jobsOf(0, 1, 1, 1, 2, 1, 2, 3, 1), 1},
		{slices.Repeat(jobsOf(0, 1<<20, 1<<18), 32), 8}, {slices.Repeat(jobsOf(0, 1<<20, 1<<15), 32), 1},
	} {
		if n, e := bench.Fewest(c.jobs); n != c.want || e != api.OK {
			t.Errorf("Fewest(%v) = %d, %d instead of %d", c.jobs, n, e, c.want)
		}
	}
}

func TestFewestRandom(t *testing.T) {
	r := rand.New(rand.NewSource(48))
	seen := map[int]bool{}
	for range 1500 {
		jobs := randomTask(r, 1, r.Intn(10), 1+r.Intn(6)).jobs
		kept := slices.Clone(jobs)
		want := fewest(jobs)
		if n, e := bench.Fewest(jobs); n != want || e != api.OK || !slices.Equal(jobs, kept) {
			t.Fatalf("Fewest(%v) = %d, %d instead of %d", jobs, n, e, want)
		}
		seen[want] = true
	}
	if len(seen) < 5 {
		t.Errorf("results: %v", seen)
	}
}

func TestFewestErrors(t *testing.T) {
	for _, k := range invalidTasks() {
		_, want := bench.Plan(1, k.jobs)
		if n, e := bench.Fewest(k.jobs); n != 0 && want != api.OK || e != want {
			t.Errorf("Fewest(%d jobs) = %d, %d instead of %d", len(k.jobs), n, e, want)
		}
	}
}

func TestLatest(t *testing.T) {
	for _, c := range []struct {
		task task
		want int
	}{
		{task{1, jobsOf(0, 10, 3)}, 7}, {task{1, jobsOf(0, 2, 3)}, -1}, {task{1, jobsOf(0, 2, 2)}, 0},
		{task{2, nil}, 1 << 20}, {task{8, []api.Job{}}, 1 << 20},
		{task{1, jobsOf(0, 10, 3, 0, 10, 3)}, 4}, {task{2, jobsOf(0, 10, 3, 0, 10, 3)}, 7},
		{task{8, jobsOf(0, 10, 3, 5, 7, 1)}, 1}, {task{8, jobsOf(0, 10, 3, 5, 6, 1)}, 0},
		{task{1, jobsOf(0, 1<<20, 1)}, 1<<20 - 1}, {task{1, jobsOf(0, 1<<20, 1<<20)}, 0}, {task{1, jobsOf(1<<20-1, 1<<20, 1)}, 0},
		{task{1, slices.Repeat(jobsOf(0, 2, 2), 2)}, -1}, {task{8, slices.Repeat(jobsOf(0, 1<<20, 1<<17), 32)}, 1 << 19},
		{task{1, jobsOf(0, 1000000, 1, 0, 1000000, 1)}, 999998},
	} {
		if n, e := bench.Latest(c.task.benches, c.task.jobs); n != c.want || e != api.OK {
			t.Errorf("Latest(%v) = %d, %d instead of %d", c.task, n, e, c.want)
		}
	}
}

func TestLatestRandom(t *testing.T) {
	r := rand.New(rand.NewSource(49))
	seen := map[int]bool{}
	for range 1500 {
		end := 1 + r.Intn(30)
		k := randomTask(r, 1+r.Intn(3), 1+r.Intn(5), end)
		kept := slices.Clone(k.jobs)
		want := latest(k.benches, k.jobs, end)
		if n, e := bench.Latest(k.benches, k.jobs); n != want || e != api.OK || !slices.Equal(k.jobs, kept) {
			t.Fatalf("Latest(%v) = %d, %d instead of %d", k, n, e, want)
		}
		seen[want] = true
	}
	if len(seen) < 10 {
		t.Errorf("results: %v", seen)
	}
}

// TestLatestLarge: what is returned is possible, and one more is not.
func TestLatestLarge(t *testing.T) {
	r := rand.New(rand.NewSource(50))
	for range 300 {
		k := task{benches: 1 + r.Intn(4)}
		for range 1 + r.Intn(7) {
			ready := r.Intn(1 << 18)
			k.jobs = append(k.jobs, api.Job{Ready: ready, Due: 1<<20 - r.Intn(1<<18), Work: 1 + r.Intn(1<<18)})
		}
		n, e := bench.Latest(k.benches, k.jobs)
		if e != api.OK || n >= 0 && !isPossibleLater(k.benches, k.jobs, n) || isPossibleLater(k.benches, k.jobs, n+1) {
			t.Fatalf("Latest(%v) = %d, %d", k, n, e)
		}
	}
	jobs := slices.Repeat(jobsOf(3, 1<<20, 1<<10), 16)
	for j := range jobs {
		jobs[j].Ready *= j
		jobs[j].Due -= 5 * j
	}
	if n, e := bench.Latest(2, slices.Concat(jobs, jobs)); n < 0 || e != api.OK {
		t.Errorf("Latest = %d, %d", n, e)
	}
}

func TestLatestErrors(t *testing.T) {
	for _, k := range invalidTasks() {
		if n, e := bench.Latest(k.benches, k.jobs); n != 0 || e != api.ErrArg {
			t.Errorf("Latest(%d, %d jobs) = %d, %d", k.benches, len(k.jobs), n, e)
		}
	}
}
