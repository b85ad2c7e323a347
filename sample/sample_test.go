package sample_test

import (
	"math/rand"
	"testing"

	"langdoc/api"
	"langdoc/query"
	"langdoc/replica"
	"langdoc/sample"
	"langdoc/tiers"
	"langdoc/tiertext"
)

// All samples are right and can be printed, and they have notes on all tiers.
func TestDoc(t *testing.T) {
	random := rand.New(rand.NewSource(1))
	count := make([]int, len(sample.Tiers()))
	for range 1000 {
		d := sample.Doc(random.Intn)
		if err := tiers.Check(d); err != api.OK {
			t.Fatal(d, err)
		}
		if _, err := tiertext.Print(d); err != api.OK {
			t.Fatal(d, err)
		}
		for _, n := range d.Notes {
			count[n.Tier]++
		}
	}
	for tier, n := range count {
		if n < 500 {
			t.Errorf("only %d notes in the tier %d", n, tier)
		}
	}
	if err := tiers.Check(sample.Of()); err != api.OK {
		t.Error("a sample without notes:", err)
	}
}

// Also with the most notes, there are not too many.
func TestMost(t *testing.T) {
	for most := range 5 {
		d := sample.Doc(func(n int) int {
			if n > 4 {
				return 0
			}
			return min(most, n-1)
		})
		if err := tiers.Check(d); err != api.OK {
			t.Errorf("%d notes: %d", len(d.Notes), err)
		}
	}
}

// All queries are right, and there are some with each operator.
func TestQuery(t *testing.T) {
	random := rand.New(rand.NewSource(2))
	count := map[int]int{}
	for range 1000 {
		q := sample.Query(random.Intn, 1+random.Intn(4), 1+random.Intn(5))
		if err := query.Check(q); err != api.OK {
			t.Fatal(q, err)
		}
		count[q.Op]++
	}
	for op := api.OpText; op <= api.OpHas; op++ {
		if count[op] < 50 {
			t.Errorf("only %d queries with the operator %d", count[op], op)
		}
	}
}

// All replicas are right, with at most one more operation, and there are operations of each kind and on each tier.
func TestChange(t *testing.T) {
	random := rand.New(rand.NewSource(3))
	kinds, tiers := make([]int, 3), make([]int, len(sample.Tiers()))
	for range 40 {
		r := sample.Replica(2)
		for range 60 {
			next := sample.Change(random.Intn, r)
			if replica.Check(next) != api.OK || len(next.Ops) > len(r.Ops)+1 || len(next.Ops) == len(r.Ops) && !replica.Same(next, r) {
				t.Fatalf("%v after %v", next, r)
			}
			r = next
		}
		for _, o := range r.Ops {
			kinds[o.Kind]++
			if o.Kind == api.DoAdd && o.Note.Parent > 0 {
				tiers[o.Note.Tier]++
			}
		}
	}
	for kind, n := range kinds {
		if n < 100 {
			t.Errorf("only %d operations of the kind %d", n, kind)
		}
	}
	for tier, n := range tiers {
		if root := sample.Tiers()[tier].Kind == api.TierRoot; root != (n == 0) || !root && n < 50 {
			t.Errorf("%d notes with a parent in the tier %d", n, tier)
		}
	}
}
