package sample_test

import (
	"math/rand"
	"testing"

	"langdoc/api"
	"langdoc/sample"
	"langdoc/tiers"
	"langdoc/tiertext"
)

// All samples are right and can be printed, and they have notes on all tiers.
func TestDoc(t *testing.T) {
	random := rand.New(rand.NewSource(1))
	count := make([]int, len(sample.Tiers()))
	for range 1000 {
		d := sample.Doc(random.Intn)
		if err := tiers.Check(d); err != api.OK {
			t.Fatal(d, err)
		}
		if _, err := tiertext.Print(d); err != api.OK {
			t.Fatal(d, err)
		}
		for _, n := range d.Notes {
			count[n.Tier]++
		}
	}
	for tier, n := range count {
		if n < 500 {
			t.Errorf("only %d notes in the tier %d", n, tier)
		}
	}
	if err := tiers.Check(sample.Of()); err != api.OK {
		t.Error("a sample without notes:", err)
	}
}

// Also with the most notes, there are not too many.
func TestMost(t *testing.T) {
	for most := range 5 {
		d := sample.Doc(func(n int) int {
			if n > 4 {
				return 0
			}
			return min(most, n-1)
		})
		if err := tiers.Check(d); err != api.OK {
			t.Errorf("%d notes: %d", len(d.Notes), err)
		}
	}
}
