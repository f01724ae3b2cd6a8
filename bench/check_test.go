package bench_test

import (
	"math"
	"math/rand"
	"slices"
	"testing"

	"silverside/api"
	"silverside/bench"
)

// mustCheck expects of Check what the definition says.
func mustCheck(t *testing.T, k task, a api.Answer) bool {
	t.Helper()
	want := api.ErrAnswer
	if isRight(k, a) {
		want = api.OK
	}
	if e := bench.Check(k.benches, k.jobs, a); e != want {
		t.Fatalf("Check(%v, %v) = %d instead of %d", k, a, e, want)
	}
	return want == api.OK
}

func TestCheckSchedules(t *testing.T) {
	k := task{2, jobsOf(0, 4, 3, 1, 5, 4)}
	for _, c := range []struct {
		a     api.Answer
		right bool
	}{
		{schedule(0, 0, 0, 3, 1, 1, 1, 5), true},
		{schedule(1, 1, 1, 5, 0, 0, 0, 3), true},             // the order of slots is free
		{schedule(0, 0, 0, 1, 0, 0, 1, 3, 1, 1, 1, 5), true}, // one may begin when the other ends
		{schedule(0, 0, 0, 1, 0, 1, 1, 3, 1, 1, 3, 5, 1, 0, 1, 3), true},
		{schedule(0, 0, 0, 1, 0, 0, 2, 4, 1, 1, 1, 5), true}, // interrupted
		{schedule(), false},
		{schedule(0, 0, 0, 3), false},                                                   // a job is not done
		{schedule(0, 0, 0, 2, 1, 1, 1, 5), false},                                       // less than its work
		{schedule(0, 0, 0, 4, 1, 1, 1, 5), false},                                       // more
		{schedule(0, 0, 0, 3, 0, 1, 0, 3, 1, 1, 1, 5), false},                           // twice
		{schedule(0, 0, 1, 4, 1, 1, 0, 4), false},                                       // before it is ready
		{schedule(0, 0, 2, 5, 1, 1, 1, 5), false},                                       // after it is due
		{schedule(0, 0, 0, 3, 1, 0, 1, 5), false},                                       // two jobs at a bench
		{schedule(0, 0, 0, 3, 1, 0, 2, 5, 1, 1, 1, 2), false},                           // for one unit only
		{schedule(0, 0, 0, 2, 0, 1, 1, 2, 1, 1, 2, 5, 1, 0, 2, 3), false},               // a job at two benches
		{schedule(0, 2, 0, 3, 1, 1, 1, 5), false},                                       // there is no such bench
		{schedule(0, -1, 0, 3, 1, 1, 1, 5), false},                                      // nor this one
		{schedule(0, 0, 0, 3, 1, 1, 1, 5, 2, 0, 3, 4), false},                           // there is no such job
		{schedule(0, 0, 0, 3, 1, 1, 1, 5, -1, 0, 3, 4), false},                          // nor this one
		{schedule(0, 0, 0, 3, 1, 1, 1, 5, 0, 0, 3, 3), false},                           // an empty slot
		{schedule(0, 0, 0, 4, 0, 0, 4, 3, 1, 1, 1, 5), false},                           // one that ends before it begins
		{schedule(0, 0, math.MinInt, 3, 1, 1, 1, 5), false},                             // numbers of any size
		{schedule(0, 0, 0, math.MaxInt, 1, 1, 1, 5), false},                             //
		{schedule(0, 0, math.MinInt, math.MaxInt, 1, 1, 1, 5), false},                   //
		{schedule(math.MaxInt, math.MaxInt, 0, 3, 1, 1, 1, 5), false},                   //
		{schedule(math.MinInt, math.MinInt, 0, 3, 1, 1, 1, 5), false},                   //
		{api.Answer{Slots: schedule(0, 0, 0, 3, 1, 1, 1, 5).Slots}, false},              // a refusal has no slots
		{api.Answer{Possible: true, Slots: []api.Slot{}, Jobs: []int{0}}, false},        //
		{api.Answer{}, false},                                                           // a refusal that refuses nothing
		{refusal([]int{0, 1}), false},                                                   // 7 is not greater than 8
		{refusal([]int{0, 1}, 0, 4), false},                                             //
		{api.Answer{Slots: []api.Slot{{}}, Jobs: []int{0}, Spans: [][2]int{{}}}, false}, //
	} {
		if mustCheck(t, k, c.a) != c.right {
			t.Errorf("Check(%v, %v): %t", k, c.a, !c.right)
		}
	}
	right := schedule(0, 0, 0, 3, 1, 1, 1, 5)
	for _, extra := range []api.Answer{refusal([]int{}), refusal([]int{0}), refusal(nil, 0, 2), refusal([]int{0, 1}, 0, 2)} {
		extra.Possible, extra.Slots = true, right.Slots
		if mustCheck(t, k, extra) != (len(extra.Jobs)+len(extra.Spans) == 0) {
			t.Errorf("Check(%v, %v)", k, extra)
		}
	}
	if !mustCheck(t, task{3, nil}, schedule()) || mustCheck(t, task{3, nil}, api.Answer{}) {
		t.Errorf("no jobs: only a schedule is right")
	}
}

func TestCheckRefusals(t *testing.T) {
	k := task{2, jobsOf(0, 2, 2, 0, 2, 2, 0, 2, 2, 4, 9, 6)}
	for _, c := range []struct {
		a     api.Answer
		right bool
	}{
		{refusal([]int{0, 1, 2}, 0, 2), true},
		{refusal([]int{0, 1, 2}, 0, 1, 1, 2), true}, // one may begin when the other ends
		{refusal([]int{0, 1, 2}, 0, 1), true},       // 6 is greater than 2 + 3
		{refusal([]int{0, 1, 2}, 1, 2), true},
		{refusal([]int{0, 1, 2}), false},       // 6 is not greater than 6
		{refusal([]int{0, 1, 2}, 0, 3), false}, // nor this
		{refusal([]int{0, 1}, 0, 2), false},    // 4 is not greater than 4
		{refusal([]int{3}), true},              // 6 is greater than 5
		{refusal([]int{3}, 4, 5), false},       // but not than 6
		{refusal([]int{3}, 8, 20), false},      //
		{refusal([]int{0, 1, 2, 3}, 0, 2), true},
		{refusal([]int{0, 1, 2, 3}, 0, 3), true}, // 12 is greater than 6 + 5
		{refusal([]int{0, 1, 2, 3}, 0, 4), false},
		{refusal([]int{}, 0, 2), false},
		{refusal(nil), false},
		{refusal([]int{1, 0, 2}, 0, 2), false}, // not ascending
		{refusal([]int{0, 2, 1}, 0, 2), false},
		{refusal([]int{3, 3}), false}, // not different
		{refusal([]int{0, 1, 1, 2}, 0, 2), false},
		{refusal([]int{3, 4}), false}, // no such job
		{refusal([]int{-1, 3}), false},
		{refusal([]int{math.MinInt, 3}), false},
		{refusal([]int{3, math.MaxInt}), false},
		{refusal([]int{0, 1, 2}, 1, 2, 0, 1), false}, // not one after the other
		{refusal([]int{0, 1, 2}, 0, 2, 1, 2), false}, // overlapping
		{refusal([]int{0, 1, 2}, 0, 2, 0, 2), false},
		{refusal([]int{0, 1, 2}, 0, 0, 0, 2), false}, // empty
		{refusal([]int{0, 1, 2}, 2, 0), false},
		{refusal([]int{0, 1, 2}, -1, 1), false},
		{refusal([]int{3}, -1, 0), false},
		{refusal([]int{0, 1, 2}, math.MinInt, 2), false},
		{refusal([]int{0, 1, 2}, 0, math.MaxInt), false},
		{refusal([]int{0, 1, 2}, math.MinInt, math.MaxInt), false},
		{api.Answer{Possible: true, Jobs: []int{3}}, false},
		{api.Answer{Slots: []api.Slot{}, Jobs: []int{3}}, true},
		{api.Answer{Slots: []api.Slot{{Job: 0, Bench: 0, From: 0, To: 2}}, Jobs: []int{3}}, false},
	} {
		if mustCheck(t, k, c.a) != c.right {
			t.Errorf("Check(%v, %v): %t", k, c.a, !c.right)
		}
	}
}

// TestCheckSpans refuses so much work that any spans would do, if they are spans.
func TestCheckSpans(t *testing.T) {
	k := task{1, jobsOf(5, 6, 1<<20)}
	for _, c := range []struct {
		times []int
		right bool
	}{
		{nil, true}, {[]int{0, 1}, true}, {[]int{5, 6}, true}, {[]int{0, 1<<20 - 1}, true},
		{[]int{-1, 0}, false}, {[]int{-1, 1}, false}, {[]int{math.MinInt, 1}, false},
		{[]int{1<<20 - 1, 1 << 20}, true}, {[]int{1<<20 - 1, 1<<20 + 1}, false}, {[]int{1 << 20, 1<<20 + 1}, false}, {[]int{1, math.MaxInt}, false},
		{[]int{7, 7}, false}, {[]int{7, 6}, false}, {[]int{1 << 20, 0}, false}, {[]int{math.MaxInt, math.MinInt}, false},
		{[]int{1, 2, 2, 3}, true}, {[]int{1, 2, 3, 4, 9, 12}, true}, {[]int{1, 3, 2, 4}, false}, {[]int{1, 4, 2, 3}, false}, {[]int{3, 4, 1, 2}, false}, {[]int{1, 2, 1, 2}, false}, {[]int{1, 2, 2, 2, 3, 4}, false},
	} {
		if mustCheck(t, k, refusal([]int{0}, c.times...)) != c.right {
			t.Errorf("Check(%v, %v): %t", k, c.times, !c.right)
		}
	}
}

// TestCheckMaxSlots: MaxSlots slots or spans are right, and one more is not.
func TestCheckMaxSlots(t *testing.T) {
	for _, count := range []int{4095, 4096, 4097} {
		slots, spans := api.Answer{Possible: true}, api.Answer{Jobs: []int{0, 1}}
		for k := range count {
			slots.Slots = append(slots.Slots, api.Slot{Job: 0, Bench: k % 2, From: k, To: k + 1})
			spans.Spans = append(spans.Spans, [2]int{k, k + 1})
		}
		slices.Reverse(slots.Slots)
		if mustCheck(t, task{2, jobsOf(0, 5000, count)}, slots) != (count <= 4096) {
			t.Errorf("%d slots", count)
		}
		if mustCheck(t, task{1, jobsOf(0, 5000, 4000, 0, 5000, 5000)}, spans) != (count <= 4096) {
			t.Errorf("%d spans", count)
		}
	}
	million := slices.Repeat([]api.Slot{{Job: 0, Bench: 0, From: 0, To: 1}}, 1000000)
	if e := bench.Check(1, jobsOf(0, 1<<20, 1000000), api.Answer{Possible: true, Slots: million}); e != api.ErrAnswer {
		t.Errorf("Check of a million slots: %d", e)
	}
	if e := bench.Check(1, jobsOf(0, 2, 3), api.Answer{Jobs: make([]int, 1000000)}); e != api.ErrAnswer {
		t.Errorf("Check of a million jobs: %d", e)
	}
}

// TestCheckAllSmall looks at all answers of few slots, and of few jobs and spans, for small tasks. None has right answers of both kinds.
func TestCheckAllSmall(t *testing.T) {
	schedules, refusals := smallSchedules(), smallRefusals()
	for _, k := range []task{
		{1, jobsOf(0, 2, 2)}, {2, jobsOf(0, 2, 3)}, {1, jobsOf(0, 2, 1, 0, 2, 1)}, {2, jobsOf(0, 3, 2, 1, 3, 2)},
		{1, jobsOf(0, 3, 2, 1, 3, 2)}, {2, jobsOf(0, 3, 3, 1, 2, 1)}, {1, jobsOf(0, 3, 2, 1, 2, 1)}, {1, nil},
	} {
		possible, impossible := false, false
		for _, a := range schedules {
			right := mustCheck(t, k, a)
			possible = possible || right
		}
		for _, a := range refusals {
			right := mustCheck(t, k, a)
			impossible = impossible || right
		}
		if possible == impossible {
			t.Errorf("%v: possible %t, impossible %t", k, possible, impossible)
		}
	}
}

// smallSchedules are all lists of up to three slots of two jobs and two benches, from 0 to 3.
func smallSchedules() []api.Answer {
	slots := []api.Slot{}
	for code := range 64 {
		if from, to := code>>2&3, code>>4; from < to {
			slots = append(slots, api.Slot{Job: code & 1, Bench: code >> 1 & 1, From: from, To: to})
		}
	}
	list := []api.Answer{{Possible: true}}
	for i := 0; len(list[i].Slots) < 3; i++ {
		for _, slot := range slots {
			list = append(list, api.Answer{Possible: true, Slots: append(slices.Clone(list[i].Slots), slot)})
		}
	}
	return list
}

// smallRefusals are all lists of two jobs, with all spans of whole units from 0 to 4.
func smallRefusals() []api.Answer {
	list := []api.Answer{}
	for _, jobs := range [][]int{nil, {0}, {1}, {0, 1}, {1, 0}, {1, 1}} {
		for code := range 16 {
			a := api.Answer{Jobs: jobs}
			for time := range 4 {
				if code>>time&1 == 1 {
					a.Spans = append(a.Spans, [2]int{time, time + 1})
				}
			}
			list = append(list, a)
		}
	}
	return list
}

// TestCheckChanged changes one number of right answers.
func TestCheckChanged(t *testing.T) {
	r := rand.New(rand.NewSource(47))
	count := 0
	for range 6000 {
		k := randomTask(r, 1+r.Intn(3), 1+r.Intn(5), 2+r.Intn(12))
		a, _ := bench.Plan(k.benches, k.jobs)
		for range 1 + r.Intn(2) {
			a = changed(r, a)
		}
		if mustCheck(t, k, a) {
			count++
		}
	}
	if count < 300 {
		t.Errorf("only %d answers stayed right", count)
	}
}

func changed(r *rand.Rand, a api.Answer) api.Answer {
	delta := r.Intn(5) - 2
	switch i := r.Intn(len(a.Slots) + len(a.Jobs) + len(a.Spans) + 1); {
	case i < len(a.Slots):
		slot := &a.Slots[i]
		*[]*int{&slot.Job, &slot.Bench, &slot.From, &slot.To}[r.Intn(4)] += delta
	case i < len(a.Slots)+len(a.Jobs):
		a.Jobs[i-len(a.Slots)] += delta
	case i < len(a.Slots)+len(a.Jobs)+len(a.Spans):
		a.Spans[i-len(a.Slots)-len(a.Jobs)][r.Intn(2)] += delta
	case len(a.Slots) > 1:
		r.Shuffle(len(a.Slots), func(i, k int) { a.Slots[i], a.Slots[k] = a.Slots[k], a.Slots[i] })
	case len(a.Spans) > 0:
		a.Spans = a.Spans[1:]
	case len(a.Jobs) > 0:
		a.Jobs = a.Jobs[1:]
	}
	return a
}

func TestCheckErrors(t *testing.T) {
	for _, k := range invalidTasks() {
		for _, a := range []api.Answer{{}, schedule(), schedule(0, 0, 0, 2), refusal([]int{0}), refusal([]int{-1}, 2, 1)} {
			if e := bench.Check(k.benches, k.jobs, a); e != api.ErrArg {
				t.Errorf("Check(%d, %d jobs, %v) = %d", k.benches, len(k.jobs), a, e)
			}
		}
	}
}

func TestCheckChangesNothing(t *testing.T) {
	k := task{2, jobsOf(0, 4, 3, 1, 5, 4)}
	jobs := slices.Clone(k.jobs)
	for _, a := range []api.Answer{schedule(1, 1, 1, 5, 0, 0, 2, 3, 0, 0, 0, 2), refusal([]int{1, 0}, 3, 4, 1, 2)} {
		kept := copyOf(a)
		first := bench.Check(k.benches, k.jobs, a)
		if bench.Check(k.benches, k.jobs, a) != first || !areEqual(a, kept) || !slices.Equal(k.jobs, jobs) {
			t.Errorf("Check changed %v to %v", kept, a)
		}
	}
}
