package hash

import (
	"bytes"
	"encoding/binary"
	"testing"
)

// P3.1: as published, a one, the fewest noughts, and the length in 64 bits end a block, at lengths too that are too great to be hashed in a test.
func TestPadding(t *testing.T) {
	lengths := []int{1<<29 - 1, 1 << 29, 1<<29 + 55, 1<<31 - 9, 1<<31 - 8, 1<<31 - 1}
	for n := range 300 {
		lengths = append(lengths, n)
	}
	for _, n := range lengths {
		want := []byte{0x80}
		for (n+len(want))%64 != 56 {
			want = append(want, 0)
		}
		want = binary.BigEndian.AppendUint64(want, uint64(n)*8)
		if got := padding(n); !bytes.Equal(got, want) {
			t.Errorf("behind %d bytes: %x, want %x", n, got, want)
		}
	}
}
