package hash

import (
	"crypto/sha256"
	"testing"

	"marshes/api"
)

// P3.1: the constants, as published: the first and the last ones.
func TestConstants(t *testing.T) {
	c := workedOut()
	if c.beginning[0] != 0x6a09e667 || c.beginning[7] != 0x5be0cd19 {
		t.Errorf("the beginning: %08x", c.beginning)
	}
	if c.rounds[0] != 0x428a2f98 || c.rounds[1] != 0x71374491 || c.rounds[63] != 0xc67178f2 {
		t.Errorf("the rounds': %08x", c.rounds)
	}
}

// P3.1: Of and Add work their answers out by a function, whatever the kept constants are; these are made once, and Sum is what reads them.
func TestKeptConstants(t *testing.T) {
	b := make([]byte, 3*blockSize+5)
	for i := range b {
		b[i] = byte(7 * i)
	}
	want := api.ID(sha256.Sum256(b))
	var ahead Running
	if ahead.Add(b).Sum() != want {
		t.Fatal("another sum")
	}
	if c := (constants{beginning, roundConstants}); c != workedOut() {
		t.Fatal("what is kept is not what is worked out")
	}
	defer makeConstants()
	beginning, roundConstants = chain{1: 5}, [lastRound + 1]uint32{9: 7}

	if Of(b) != want || Of(b[:70], b[70:]) != want {
		t.Error("Of goes by what is kept")
	}
	var r Running
	for i := range b {
		r.Add(b[i : i+1])
	}
	if r != ahead {
		t.Error("Add goes by what is kept")
	}
	spoilt := r
	if got := r.Sum(); got != spoilt.end(&constants{chain{1: 5}, [lastRound + 1]uint32{9: 7}}) {
		t.Errorf("Sum does not go by what is kept, or makes it anew: %x", got)
	}
}
