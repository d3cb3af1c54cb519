package check

import (
	"bytes"
	"hash/crc32"
	"math/rand/v2"
	"slices"
	"sync"
	"testing"
)

const ofAnyWithItsCheck = 0x2144DF1C

func someBytes(r *rand.Rand, n int) []byte {
	b := make([]byte, n)
	for i := range b {
		b[i] = byte(r.Uint32())
	}
	return b
}

// turnDigit turns binary digit i of b, the least digit of the first byte being 0: the order in which a register takes them.
func turnDigit(b []byte, i int) { b[i/8] ^= 1 << (i % 8) }

// slowTake says what the chapter's section 'Words' says, digit by digit, with its digits held one by one.
func slowTake(register uint32, b byte) uint32 {
	var digits [32]bool // digits[0] is the last one
	for i := range digits {
		digits[i] = register>>i&1 == 1
		if i < 8 && b>>i&1 == 1 {
			digits[i] = !digits[i]
		}
	}
	for range 8 {
		fell := digits[0]
		copy(digits[:], digits[1:])
		digits[31] = false
		for i := range digits {
			digits[i] = digits[i] != (fell && uint32(0xEDB88320)>>i&1 == 1)
		}
	}
	out := uint32(0)
	for i, d := range digits {
		if d {
			out |= 1 << i
		}
	}
	return out
}

// P1.1 and the chapter's examples.
func TestExamples(t *testing.T) {
	for _, c := range []struct {
		text string
		want uint32
	}{
		{"", 0}, {"\x00", 0xD202EF8D}, {"\xff", 0xFF000000}, {"123456789", 0xCBF43926}, {"a", 0xE8B7BE43},
	} {
		if got := Text(c.text); got != c.want {
			t.Errorf("Text(%q): %08X, want %08X", c.text, got, c.want)
		}
		if got := Sum([]byte(c.text)); got != c.want {
			t.Errorf("Sum(%q): %08X, want %08X", c.text, got, c.want)
		}
		if got := Update(0, []byte(c.text)); got != c.want {
			t.Errorf("Update(0, %q): %08X, want %08X", c.text, got, c.want)
		}
	}
	if got := Take(0, 1); got != 0x77073096 {
		t.Errorf("Take(0, 1): %08X", got)
	}
}

// P1.1: no rows, rows of nothing, one row and many.
func TestSumOfRows(t *testing.T) {
	for i, l := range [][][]byte{nil, {}, {nil}, {{}}, {nil, {}, nil}} {
		if got := Sum(l...); got != 0 {
			t.Errorf("empty rows %d: %08X", i, got)
		}
	}
	r := rand.New(rand.NewPCG(1, 1))
	for n := range 200 {
		var rows [][]byte
		for range n % 7 {
			rows = append(rows, someBytes(r, r.IntN(40)), nil)
		}
		if got, want := Sum(rows...), crc32.ChecksumIEEE(slices.Concat(rows...)); got != want {
			t.Errorf("%x: %08X, want %08X", rows, got, want)
		}
	}
	long := someBytes(r, 1<<16+1)
	if got, want := Sum(long), crc32.ChecksumIEEE(long); got != want {
		t.Errorf("a long row: %08X, want %08X", got, want)
	}
}

// P1.1: Update goes on from any check, whether or not some bytes are known to have it.
func TestUpdateFromAnyCheck(t *testing.T) {
	r := rand.New(rand.NewPCG(2, 2))
	sums := []uint32{0, 1, 0x7FFFFFFF, 0x80000000, 0xFFFFFFFF}
	for range 100 {
		sums = append(sums, r.Uint32())
	}
	for _, sum := range sums {
		for _, b := range [][]byte{nil, {}} {
			if got := Update(sum, b); got != sum {
				t.Errorf("Update(%08X, nothing): %08X", sum, got)
			}
		}
		b := someBytes(r, 1+r.IntN(50))
		if got, want := Update(sum, b), crc32.Update(sum, crc32.IEEETable, b); got != want {
			t.Errorf("Update(%08X, %x): %08X, want %08X", sum, b, got, want)
		}
	}
}

// P1.1: a text's bytes count, be they runes or not.
func TestText(t *testing.T) {
	for _, s := range []string{"", "\x00\x00", "\xff\xfe\x80", "grün, 水", "The quick brown fox jumps over the lazy dog"} {
		if got, want := Text(s), crc32.ChecksumIEEE([]byte(s)); got != want {
			t.Errorf("Text(%q): %08X, want %08X", s, got, want)
		}
	}
}

// P1.1: Take, of the package and of a Table, of any register and byte.
func TestTake(t *testing.T) {
	r := rand.New(rand.NewPCG(3, 3))
	registers := []uint32{0, 1, 0xFF, 0x100, 0x7FFFFFFF, 0x80000000, 0xFFFFFFFF}
	for range 20 {
		registers = append(registers, r.Uint32())
	}
	var table Table
	for _, register := range registers {
		for b := range 256 {
			want := slowTake(register, byte(b))
			if got := Take(register, byte(b)); got != want {
				t.Fatalf("Take(%08X, %02X): %08X, want %08X", register, b, got, want)
			}
			if got := table.Take(register, byte(b)); got != want {
				t.Fatalf("a Table's Take(%08X, %02X): %08X, want %08X", register, b, got, want)
			}
		}
	}
	if Take(0, 0) != 0 || Take(0x100, 0) != 1 {
		t.Error("digits ahead of the last eight just move on")
	}
}

// P1.1: the check is what the registers make of all ones, turned at the end.
func TestSumIsTakenByteByByte(t *testing.T) {
	r := rand.New(rand.NewPCG(4, 4))
	for n := range 60 {
		b := someBytes(r, n)
		register := ^uint32(0)
		for _, c := range b {
			register = Take(register, c)
		}
		if got := Sum(b); got != ^register {
			t.Errorf("%x: %08X, want %08X", b, got, ^register)
		}
	}
}

// P1.1: whichever call a blank Table is asked first, and a nil one.
func TestTableAnswersAsThePackage(t *testing.T) {
	r := rand.New(rand.NewPCG(5, 5))
	var used Table
	for n := range 100 {
		b, sum := someBytes(r, n), r.Uint32()
		for name, table := range map[string]*Table{"blank": {}, "made": new(Table), "nil": nil, "used": &used} {
			if got, want := table.Update(sum, b), Update(sum, b); got != want {
				t.Errorf("%s: Update(%08X, %x): %08X, want %08X", name, sum, b, got, want)
			}
		}
		for name, table := range map[string]*Table{"blank": {}, "nil": nil, "used": &used} {
			if got, want := table.Take(sum, byte(n)), Take(sum, byte(n)); got != want {
				t.Errorf("%s: Take(%08X, %02X): %08X, want %08X", name, sum, n, got, want)
			}
		}
	}
	for _, table := range []*Table{nil, {}} {
		if table.Update(7, nil) != 7 || table.Update(7, []byte{}) != 7 {
			t.Error("nothing behind a check changes it")
		}
	}
}

// P1.1: many ask one Table, blank or nil, at the same time; and over again, for whoever comes too early for a row that is half filled.
func TestManyAskOneTable(t *testing.T) {
	tables := []*Table{nil}
	for range 200 {
		tables = append(tables, new(Table))
	}
	for _, table := range tables {
		takes, sums := make([]uint32, 16), make([]uint32, 16)
		begin := make(chan struct{})
		var all sync.WaitGroup
		for i := range takes {
			all.Go(func() {
				<-begin
				takes[i] = table.Take(0xFFFFFF00, 0xFF)
				sums[i] = table.Update(0, []byte("123456789"))
			})
		}
		close(begin)
		all.Wait()
		for i := range takes {
			if takes[i] != 0x2DFD1072 || sums[i] != 0xCBF43926 {
				t.Errorf("%d of them: %08X, %08X", i, takes[i], sums[i])
			}
		}
	}
}

// P1.2: the greatest byte first.
func TestOf(t *testing.T) {
	for _, c := range []struct {
		b    []byte
		want [4]byte
	}{
		{nil, [4]byte{}},
		{[]byte{}, [4]byte{}},
		{[]byte{0xFF}, [4]byte{0xFF, 0, 0, 0}},
		{[]byte("a"), [4]byte{0xE8, 0xB7, 0xBE, 0x43}},
		{[]byte("123456789"), [4]byte{0xCB, 0xF4, 0x39, 0x26}},
	} {
		if got := Of(c.b); got != c.want {
			t.Errorf("Of(%q): %X, want %X", c.b, got, c.want)
		}
	}
}

// P1.2: the check, and numbers near to it or made of its bytes otherwise.
func TestIs(t *testing.T) {
	r := rand.New(rand.NewPCG(6, 6))
	rows := [][]byte{nil, {}, {0}, []byte("123456789")}
	for n := range 20 {
		rows = append(rows, someBytes(r, n))
	}
	for _, b := range rows {
		sum := crc32.ChecksumIEEE(b)
		if !Is(b, sum) {
			t.Errorf("Is(%x, %08X): false", b, sum)
		}
		others := []uint32{sum + 1, sum - 1, ^sum, sum ^ 0xFF, r.Uint32()}
		for i := range 32 {
			others = append(others, sum^1<<i)
		}
		for _, other := range others {
			if other != sum && Is(b, other) {
				t.Errorf("Is(%x, %08X): true, its check is %08X", b, other, sum)
			}
		}
	}
}

// P1.3: neither a row's bytes, nor those behind its length, nor the list of rows.
func TestOnlyRead(t *testing.T) {
	memory := []byte("....123456789....")
	b := memory[4:13]
	list := [][]byte{b, nil, {}, b, []byte("behind")}
	rows := list[:4]
	var blank, table Table
	before := bytes.Clone(memory)
	for range 2 {
		Sum(b)
		Sum(rows...)
		Update(1, b)
		Of(b)
		Is(b, 1)
		blank.Update(1, b)
		table.Take(1, b[0])
		table.Update(1, b)
		(*Table)(nil).Update(1, b)
	}
	if !bytes.Equal(memory, before) {
		t.Errorf("%q, it was %q", memory, before)
	}
	if &rows[0][0] != &b[0] || rows[1] != nil || rows[2] == nil || &rows[3][0] != &b[0] || string(list[4]) != "behind" {
		t.Errorf("the list became %q", list)
	}
}

// P1.3: no call is told of by another one.
func TestNothingIsKept(t *testing.T) {
	var table Table
	b := []byte("abc")
	first, firstOfTable := Sum(b), table.Update(0, b)
	b[0] = 'x'
	other := Sum(b)
	b[0] = 'a'
	if other == first || Sum(b) != first || table.Update(0, b) != firstOfTable || first != 0x352441C2 {
		t.Errorf("%08X, %08X, %08X", first, other, firstOfTable)
	}
}

// P1.4: parted anywhere, in two or in three.
func TestPartedAnywhere(t *testing.T) {
	r := rand.New(rand.NewPCG(7, 7))
	var table Table
	for _, n := range []int{0, 1, 2, 9, 40} {
		b := someBytes(r, n)
		want := crc32.ChecksumIEEE(b)
		for i := range n + 1 {
			if got := Update(Sum(b[:i]), b[i:]); got != want {
				t.Errorf("Update, parted at %d of %d: %08X, want %08X", i, n, got, want)
			}
			if got := table.Update(table.Update(0, b[:i]), b[i:]); got != want {
				t.Errorf("a Table, parted at %d of %d: %08X, want %08X", i, n, got, want)
			}
			for j := i; j <= n; j++ {
				if got := Sum(b[:i], b[i:j], b[j:]); got != want {
					t.Errorf("parted at %d and %d of %d: %08X, want %08X", i, j, n, got, want)
				}
			}
		}
	}
}

// P1.4: all choices of one, two and three digits of some short rows.
func TestFewDigitsOfShortRows(t *testing.T) {
	r := rand.New(rand.NewPCG(8, 8))
	for _, b := range [][]byte{{0}, {0xFF, 0xFF}, {0, 0, 0, 0, 0}, someBytes(r, 6)} {
		digits := 8 * len(b)
		sum := Sum(b)
		differs := func() {
			if Sum(b) == sum {
				t.Fatalf("%x has the check %08X, too", b, sum)
			}
		}
		for i := range digits {
			turnDigit(b, i)
			differs()
			for j := range i {
				turnDigit(b, j)
				differs()
				for k := range j {
					turnDigit(b, k)
					differs()
					turnDigit(b, k)
				}
				turnDigit(b, j)
			}
			turnDigit(b, i)
		}
	}
}

// P1.4: all choices of one, two and three digits of 300 bytes. What digits make of a check is the exclusive or of what each of them makes (which TestFewDigitsTogether holds against the whole), so that pairs are held against single digits.
func TestFewDigitsOfLongRows(t *testing.T) {
	effects := digitEffects(300)
	place := make(map[uint32]int, len(effects))
	for i, e := range effects {
		if e == 0 {
			t.Fatalf("digit %d makes no difference", i)
		}
		if j, there := place[e]; there {
			t.Fatalf("digits %d and %d make none together", i, j)
		}
		place[e] = i
	}
	for i, e := range effects {
		for j := range i {
			if k, there := place[e^effects[j]]; there {
				t.Fatalf("digits %d, %d and %d make none together", i, j, k)
			}
		}
	}
}

// digitEffects tells by which digits the check of n bytes differs, for each digit that is turned in them.
func digitEffects(n int) []uint32 {
	b := make([]byte, n)
	sum := Sum(b)
	effects := make([]uint32, 8*n)
	for i := range effects {
		turnDigit(b, i)
		effects[i] = Sum(b) ^ sum
		turnDigit(b, i)
	}
	return effects
}

// P1.4: rows of any bytes, with digits of them turned, held against what each digit makes alone.
func TestFewDigitsTogether(t *testing.T) {
	effects := digitEffects(300)
	r := rand.New(rand.NewPCG(9, 9))
	for range 2000 {
		b := someBytes(r, 300)
		sum, want := Sum(b), uint32(0)
		for _, i := range r.Perm(len(effects))[:1+r.IntN(3)] {
			turnDigit(b, i)
			want ^= effects[i]
		}
		if got := Sum(b) ^ sum; got != want || got == 0 {
			t.Fatalf("the check differs by %08X, want %08X", got, want)
		}
	}
}

// P1.4: digits that lie within 32 one behind the other, wherever in a row.
func TestDigitsCloseTogether(t *testing.T) {
	r := rand.New(rand.NewPCG(10, 10))
	for _, n := range []int{4, 5, 64, 300, 5000} {
		b := someBytes(r, n)
		sum := Sum(b)
		for range 400 {
			turned := r.Uint32()>>r.IntN(32) | 1
			if r.IntN(8) == 0 {
				turned = 0xFFFFFFFF
			}
			other := bytes.Clone(b)
			at := r.IntN(8*n - 31)
			for i := range 32 {
				if turned>>i&1 == 1 {
					turnDigit(other, at+i)
				}
			}
			if Sum(other) == sum {
				t.Fatalf("%d bytes, %08X turned at %d: the check is the same", n, turned, at)
			}
		}
	}
}

// P1.4: any row with its check behind, the least byte first; not so with the greatest first.
func TestCheckBehind(t *testing.T) {
	r := rand.New(rand.NewPCG(11, 11))
	var table Table
	for n := range 300 {
		b := someBytes(r, n)
		of := Of(b)
		slices.Reverse(of[:])
		if got := Sum(b, of[:]); got != ofAnyWithItsCheck {
			t.Errorf("%x: %08X", b, got)
		}
		if got := table.Update(table.Update(0, b), of[:]); got != ofAnyWithItsCheck {
			t.Errorf("%x, a Table: %08X", b, got)
		}
	}
	greatestFirst := Of([]byte("123456789"))
	if Sum([]byte("123456789"), greatestFirst[:]) == ofAnyWithItsCheck {
		t.Error("the order of the check's bytes makes no difference")
	}
}
