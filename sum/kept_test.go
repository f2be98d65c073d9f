package sum

import (
	"bytes"
	"testing"

	"marshes/api"
)

// P2.1, P2.2: sums are worked out by a function, whatever the kept table has; the table is made once, and Table is what reads it.
func TestKeptTable(t *testing.T) {
	nine := []byte("123456789")
	want, table0 := Table(), table
	if want != table0 {
		t.Fatal("Table does not answer what is kept")
	}
	defer func() { table = table0 }()
	table = [256]uint32{5: 7}

	if n := Of(nine[:4], nine[4:]); n != 0xCBF43926 {
		t.Errorf("Of: %08X", n)
	}
	if n := On(0, nine); n != 0xCBF43926 {
		t.Errorf("On: %08X", n)
	}
	w, e := Wrap(nil)
	if e != api.OK || !bytes.Equal(w, []byte{0, 0, 0, 0, 0x1C, 0xDF, 0x44, 0x21}) {
		t.Errorf("Wrap: %x, error %d", w, e)
	}
	if b, e := Unwrap(w); e != api.OK || len(b) != 0 {
		t.Errorf("Unwrap: %x, error %d", b, e)
	}
	if b, rest, e := First(append(w, 9)); e != api.OK || len(b) != 0 || !bytes.Equal(rest, []byte{9}) {
		t.Errorf("First: %x and %x, error %d", b, rest, e)
	}
	if Table() != [256]uint32{5: 7} {
		t.Error("the table is made anew")
	}
	for first, register := range want {
		if registerOf(byte(first)) != register {
			t.Errorf("the register of %02X is not the table's", first)
		}
	}
}
