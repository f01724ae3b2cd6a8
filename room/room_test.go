package room_test

import (
	"slices"
	"strings"
	"testing"

	"silverside/api"
	"silverside/room"
	"silverside/rules"
)

// changed returns a valid plant with a change.
func changed(change func(*api.Plant)) api.Plant {
	p := plant()
	change(&p)
	return p
}

func TestNew(t *testing.T) {
	right := []api.Plant{
		plant(),
		changed(func(p *api.Plant) { p.Stocks = []int{0} }),
		changed(func(p *api.Plant) { p.Stocks = []int{1, 2, 3, 4, 5, 6, 7, 1 << 40} }),
		changed(func(p *api.Plant) { p.Benches = 1 }),
		changed(func(p *api.Plant) { p.Benches = 8 }),
		changed(func(p *api.Plant) { p.Check = 0 }),
		changed(func(p *api.Plant) { p.Check = 64 }),
	}
	for _, p := range right {
		if r, e := room.New(p); r == nil || e != api.OK {
			t.Errorf("New(%v): %v, %d", p, r, e)
		}
	}
	wrong := []api.Plant{
		{},
		changed(func(p *api.Plant) { p.Stocks = nil }),
		changed(func(p *api.Plant) { p.Stocks = make([]int, 9) }),
		changed(func(p *api.Plant) { p.Stocks = []int{0, -1} }),
		changed(func(p *api.Plant) { p.Stocks = []int{1<<40 + 1} }),
		changed(func(p *api.Plant) { p.Benches = 0 }),
		changed(func(p *api.Plant) { p.Benches = -1 }),
		changed(func(p *api.Plant) { p.Benches = 9 }),
		changed(func(p *api.Plant) { p.Check = -1 }),
		changed(func(p *api.Plant) { p.Check = 65 }),
	}
	for _, p := range wrong {
		if r, e := room.New(p); r != nil || e != api.ErrConfig {
			t.Errorf("New(%v): %v, %d", p, r, e)
		}
		if said, e := room.Play(p, "plan\n"); said != "" || e != api.ErrConfig {
			t.Errorf("Play(%v): %q, %d", p, said, e)
		}
	}
}

func TestInitialState(t *testing.T) {
	p := plant()
	r := roomOf(t, p)
	p.Stocks[0] = 3 // which the room must not see
	want := "site 10 1\nsite 0 1\nversion 0\nopen 0\ntrace 0\n"
	if got := r.Text(); got != want {
		t.Errorf("Text: %q, not %q", got, want)
	}
	if r.Trace() != "" || len(r.Items()) != 0 || len(r.Jobs()) != 0 || len(r.Module().Names()) != 0 {
		t.Errorf("%q, %v, %v, %v", r.Trace(), r.Items(), r.Jobs(), r.Module().Names())
	}
	if n := r.Net(); n.Sites() != 2 || len(n.Letters()) != 0 || !n.Settled() {
		t.Errorf("Net: %d sites, %v", n.Sites(), n.Letters())
	}
	for _, k := range []int{-1, 0, 1} {
		if points, e := r.Outline(k); len(points) != 0 || e != api.ErrNone {
			t.Errorf("Outline(%d): %v, %d", k, points, e)
		}
	}
}

func TestUnusable(t *testing.T) {
	for _, r := range []*room.Room{nil, {}} {
		for _, line := range []string{"plan", "nothing", "", strings.Repeat("a", longestLine+1)} {
			if result, e := r.Do(line); result != "" || e != api.ErrUnusable {
				t.Errorf("Do(%.20q): %q, %d", line, result, e)
			}
			if said := r.Say(line); said != "" {
				t.Errorf("Say(%.20q): %q", line, said)
			}
		}
		if r.Text() != "" || r.Trace() != "" || r.Net() != nil || len(r.Items()) != 0 || len(r.Jobs()) != 0 {
			t.Errorf("%q, %q, %v, %v, %v", r.Text(), r.Trace(), r.Net(), r.Items(), r.Jobs())
		}
		if names := r.Module().Names(); len(names) != 0 {
			t.Errorf("Module: %v", names)
		}
		for _, k := range []int{-1, 0} {
			if points, e := r.Outline(k); len(points) != 0 || e != api.ErrUnusable {
				t.Errorf("Outline(%d): %v, %d", k, points, e)
			}
		}
	}
}

// busy returns a room that has something of everything.
func busy(t *testing.T) *room.Room {
	r := roomOf(t, plant())
	quickly(t, r, "outline 0:0 4:0 4:4 0:4", "outline 9:9 9:8 -8:-8", "job 0 4 2", "job 1 3 2", "begin 0 0:-4 1:4", "crash 1",
		"def twice (fn x (+ x x))", "def both (fn x (pair x x))", "carve 5 2 2:1:3", "open", "put 1 ~ -7", "commit 1", "open")
	return r
}

func TestReading(t *testing.T) {
	r := busy(t)
	if got := r.Items(); !slices.Equal(got, []api.Item{{Key: "pieces", Value: 1}, {Key: "worth", Value: 12}, {Key: "~", Value: -7}}) {
		t.Errorf("Items: %v", got)
	}
	if got := r.Jobs(); !slices.Equal(got, []api.Job{{Ready: 0, Due: 4, Work: 2}, {Ready: 1, Due: 3, Work: 2}}) {
		t.Errorf("Jobs: %v", got)
	}
	if got, e := r.Outline(1); e != api.OK || !slices.Equal(got, []api.Point{{X: 9, Y: 9}, {X: 9, Y: 8}, {X: -8, Y: -8}}) {
		t.Errorf("Outline(1): %v, %d", got, e)
	}
	for _, k := range []int{-1, 2} {
		if got, e := r.Outline(k); len(got) != 0 || e != api.ErrNone {
			t.Errorf("Outline(%d): %v, %d", k, got, e)
		}
	}
	n := r.Net()
	if got := n.Letters(); !slices.Equal(got, []api.Mail{{From: 0, To: 0, Kind: 1, Tx: 1, N: -4}, {From: 0, To: 1, Kind: 1, Tx: 1, N: 4}}) {
		t.Errorf("Letters: %v", got)
	}
	if !n.Up(0) || n.Up(1) || n.Sites() != 2 {
		t.Errorf("Net: up %v and %v, %d sites", n.Up(0), n.Up(1), n.Sites())
	}
	checkModule(t, r.Module())
	if got := r.Trace(); !strings.HasPrefix(got, "outline 0:0 4:0 4:4 0:4\noutline 9:9 9:8 -8:-8\njob 0 4 2\n") || !strings.HasSuffix(got, "\ncommit 1\nopen\n") {
		t.Errorf("Trace: %q", got)
	}
}

func checkModule(t *testing.T, m rules.Module) {
	t.Helper()
	if got := m.Names(); !slices.Equal(got, []string{"twice", "both"}) {
		t.Errorf("Names: %v", got)
	}
	if got, _, e := m.Eval("(both (twice 4))", 100); got != "(pair 8 8)" || e != api.OK {
		t.Errorf("Eval: %s, %d", got, e)
	}
}

// TestResultsAreCopies changes all that a room returns.
func TestResultsAreCopies(t *testing.T) {
	r := busy(t)
	text, trace := r.Text(), r.Trace()
	r.Items()[0].Value = 99
	r.Jobs()[0].Work = 1
	points, _ := r.Outline(0)
	points[0].X = 1
	n := r.Net()
	n.Deliver(0)
	n.Start(1)
	n.Begin(0, []api.Move{{Site: 0, Change: -1}, {Site: 1, Change: 1}})
	r.Module().Names()[0] = "other"
	if r.Text() != text || r.Trace() != trace {
		t.Errorf("Text: %q, not %q", r.Text(), text)
	}
	checkModule(t, r.Module())
	items, jobs, before := r.Items(), r.Jobs(), r.Net()
	points, _ = r.Outline(0)
	quickly(t, r, "carve 1 1", "done 0", "deliver 0", "start 1", "outline 0:0 1:1 1:0", "def other 1")
	if items[0].Value != 1 || jobs[0].Work != 2 || points[0].X != 0 || len(before.Letters()) != 2 || before.Up(1) {
		t.Errorf("%v, %v, %v, %v", items, jobs, points, before.Letters())
	}
}
