package room

import (
	"testing"

	"silverside/api"
)

// TestNoNeedlessVersions checks that a room keeps the versions from the least base of an open transaction on, and no others. No call shows that.
func TestNoNeedlessVersions(t *testing.T) {
	r, e := New(api.Plant{Stocks: []int{1}, Benches: 1})
	if e != api.OK {
		t.Fatal(e)
	}
	steps := []struct {
		line   string
		oldest int
	}{
		{"carve 1 1", 1}, {"carve 1 1", 2}, {"open", 2}, {"carve 1 1", 2}, {"open", 2}, {"carve 1 1", 2}, {"abort 1", 3},
		{"get 2 pieces", 3}, {"put 2 k 1", 3}, {"commit 2", 3}, {"carve 1 1", 5}, {"open", 5}, {"put 3 k 1", 5}, {"commit 3", 6},
	}
	for _, step := range steps {
		r.Do(step.line)
		if oldest := r.ledger.Oldest(); oldest != step.oldest {
			t.Errorf("%s: oldest version %d, not %d", step.line, oldest, step.oldest)
		}
	}
}
