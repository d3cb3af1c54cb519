// Package check is layer 1: checks of bytes. See shared/doc/01-check.md.
package check

import "sync"

const polynomial = 0xEDB88320

// Table is what a register's last eight digits make of it. A blank one is ready, a nil one too.
type Table struct {
	once sync.Once
	row  [256]uint32
}

func (t *Table) fill() {
	for i := range t.row {
		t.row[i] = halved(uint32(i))
	}
}

// take counts on a row that is filled, so that a long row of bytes asks for that only once.
func (t *Table) take(register uint32, b byte) uint32 {
	return t.row[byte(register)^b] ^ register>>8
}

// Take is a register that has taken a byte.
func (t *Table) Take(register uint32, b byte) uint32 {
	if t == nil {
		return Take(register, b)
	}
	t.once.Do(t.fill)
	return t.take(register, b)
}

// Update goes on with a check.
func (t *Table) Update(sum uint32, b []byte) uint32 {
	if t == nil {
		return Update(sum, b)
	}
	t.once.Do(t.fill)
	register := ^sum
	for _, c := range b {
		register = t.take(register, c)
	}
	return ^register
}

// Sum is the check of rows of bytes.
func Sum(l ...[]byte) uint32 {
	var t Table
	sum := uint32(0)
	for _, b := range l {
		sum = t.Update(sum, b)
	}
	return sum
}

// Update goes on with a check.
func Update(sum uint32, b []byte) uint32 {
	var t Table // of this call alone: nothing is kept between calls
	return t.Update(sum, b)
}

// Text is the check of a text's bytes.
func Text(s string) uint32 { return Update(0, []byte(s)) }

// Take is a register that has taken a byte. It works digit by digit: one byte is not worth a Table.
func Take(register uint32, b byte) uint32 { return halved(register ^ uint32(b)) }

// Of is a check, in bytes.
func Of(b []byte) [4]byte {
	sum := Update(0, b)
	return [4]byte{byte(sum >> 24), byte(sum >> 16), byte(sum >> 8), byte(sum)}
}

// Is tells whether a number is the check of bytes.
func Is(b []byte, sum uint32) bool { return Update(0, b) == sum }

// halved is a register that was halved eight times, and turned by the polynomial for each 1 that fell out.
func halved(register uint32) uint32 {
	for range 8 {
		fallen := register & 1
		register >>= 1
		if fallen == 1 {
			register ^= polynomial
		}
	}
	return register
}
