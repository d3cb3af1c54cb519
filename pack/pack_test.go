package pack

import (
	"bytes"
	"encoding/binary"
	"math"
	"math/rand/v2"
	"slices"
	"strings"
	"testing"

	"tidepool/api"
)

// edges are numbers at which some kind ends, or a byte begins to count.
func edges() []uint64 {
	l := []uint64{0, 1, 2, 7, 0x0102030405060708, 0xFEDCBA9876543210}
	for i := 1; i <= 64; i++ {
		last := uint64(math.MaxUint64) >> (64 - i)
		l = append(l, last-1, last, last+1)
	}
	return l
}

func someBytes(r *rand.Rand, n int) []byte {
	b := make([]byte, n)
	for i := range b {
		b[i] = byte(r.Uint32())
	}
	return b
}

func textOf(t *testing.T, s string) []byte {
	t.Helper()
	b, e := PutText(s)
	if e != api.OK {
		t.Fatalf("PutText of %d bytes: %v", len(s), e)
	}
	return b
}

func wantBytes(t *testing.T, name string, got, want []byte) {
	t.Helper()
	if !bytes.Equal(got, want) {
		t.Errorf("%s: % X, want % X", name, got, want)
	}
}

// takers are all calls that take, each telling whether it took 0, or nothing; size is of what is packed at least.
func takers() []struct {
	name  string
	size  int
	blank func(*Reader) bool
} {
	return []struct {
		name  string
		size  int
		blank func(*Reader) bool
	}{
		{"U8", 1, func(r *Reader) bool { return r.U8() == 0 }},
		{"U16", 2, func(r *Reader) bool { return r.U16() == 0 }},
		{"U32", 4, func(r *Reader) bool { return r.U32() == 0 }},
		{"U64", 8, func(r *Reader) bool { return r.U64() == 0 }},
		{"Int", 8, func(r *Reader) bool { return r.Int() == 0 }},
		{"Text", 2, func(r *Reader) bool { return r.Text() == "" }},
	}
}

func wantState(t *testing.T, name string, r *Reader, left int, err, done api.Errno) {
	t.Helper()
	for range 2 { // asking changes nothing
		if r.Left() != left || r.Err() != err || r.Done() != done {
			t.Errorf("%s: Left %d, Err %d, Done %d; want %d, %d, %d", name, r.Left(), r.Err(), r.Done(), left, err, done)
		}
	}
}

// P2.1 to P2.3: the chapter's examples.
func TestExamples(t *testing.T) {
	wantBytes(t, "Put16(258)", Put16(258), []byte{1, 2})
	wantBytes(t, "PutInt(-2)", PutInt(-2), []byte{0xFF, 0xFF, 0xFF, 0xFF, 0xFF, 0xFF, 0xFF, 0xFE})
	wantBytes(t, "PutText(ab)", textOf(t, "ab"), []byte{0, 2, 'a', 'b'})
	r := Of([]byte{1, 2, 3})
	if a, b := r.U8(), r.U16(); a != 1 || b != 515 || r.Done() != api.OK {
		t.Errorf("U8, U16, Done: %d, %d, %d", a, b, r.Done())
	}
	r = Of([]byte{1, 2, 3})
	if a, b := r.U16(), r.U16(); a != 258 || b != 0 || r.Err() != api.ErrShort || r.Left() != 1 {
		t.Errorf("U16, U16, Err, Left: %d, %d, %d, %d", a, b, r.Err(), r.Left())
	}
	r = Of([]byte{0, 5, 'a'})
	if s := r.Text(); s != "" || r.Left() != 3 {
		t.Errorf("Text, Left: %q, %d", s, r.Left())
	}
	if e := Of([]byte{7}).Done(); e != api.ErrRest {
		t.Errorf("Done of one byte: %d", e)
	}
}

// P2.1: every kind at its edges, the highest byte first.
func TestPutNumbers(t *testing.T) {
	for _, n := range edges() {
		whole := binary.BigEndian.AppendUint64(nil, n)
		wantBytes(t, "Put8", Put8(uint8(n)), whole[7:])
		wantBytes(t, "Put16", Put16(uint16(n)), whole[6:])
		wantBytes(t, "Put32", Put32(uint32(n)), whole[4:])
		wantBytes(t, "Put64", Put64(n), whole)
		wantBytes(t, "PutInt", PutInt(int64(n)), whole)
	}
	wantBytes(t, "PutInt(least)", PutInt(math.MinInt64), []byte{0x80, 0, 0, 0, 0, 0, 0, 0})
	wantBytes(t, "PutInt(greatest)", PutInt(math.MaxInt64), []byte{0x7F, 0xFF, 0xFF, 0xFF, 0xFF, 0xFF, 0xFF, 0xFF})
	wantBytes(t, "PutInt(-1)", PutInt(-1), bytes.Repeat([]byte{0xFF}, 8))
}

// P2.1: texts of any bytes, up to the greatest length.
func TestPutText(t *testing.T) {
	for _, s := range []string{"", "\x00", "a", "grün, 水", "\xff\xfe\x80", strings.Repeat("x", 255), strings.Repeat("y", 256), strings.Repeat("z", 65534), strings.Repeat("\xff", 65535)} {
		want := append(binary.BigEndian.AppendUint16(nil, uint16(len(s))), s...)
		if got := textOf(t, s); !bytes.Equal(got, want) {
			t.Errorf("PutText of %d bytes: %d bytes, beginning with % X", len(s), len(got), got[:min(len(got), 8)])
		}
	}
}

// P2.1: one past the greatest length, and far past it (65536 and 131072 are 0 in two bytes).
func TestPutTextTooLong(t *testing.T) {
	for _, n := range []int{65536, 65537, 131072, 1 << 20} {
		if b, e := PutText(strings.Repeat("x", n)); e != api.ErrLimit || len(b) != 0 {
			t.Errorf("PutText of %d bytes: %d bytes, %d", n, len(b), e)
		}
	}
}

// P2.1: none, rows of nothing, one, and many.
func TestJoin(t *testing.T) {
	for _, l := range [][][]byte{
		nil, {}, {nil}, {{}}, {nil, {}, nil},
		{{1}}, {{1, 2}, {3}}, {{3}, {1, 2}}, {nil, {0}, {}, {0, 0}, nil, {9}}, {{1}, {1}, {1}},
	} {
		wantBytes(t, "Join", Join(l...), slices.Concat(l...))
	}
	b := []byte{1, 2}
	wantBytes(t, "Join of one row twice", Join(b, b), []byte{1, 2, 1, 2})
}

// P2.2: every kind, of any bytes, with others behind.
func TestTakeNumbers(t *testing.T) {
	for _, n := range edges() {
		b := append(binary.BigEndian.AppendUint64(nil, n), 0xAA)
		if got, want := Of(b).U8(), uint8(n>>56); got != want {
			t.Errorf("U8 of % X: %d, want %d", b, got, want)
		}
		if got, want := Of(b).U16(), uint16(n>>48); got != want {
			t.Errorf("U16 of % X: %d, want %d", b, got, want)
		}
		if got, want := Of(b).U32(), uint32(n>>32); got != want {
			t.Errorf("U32 of % X: %d, want %d", b, got, want)
		}
		if got := Of(b).U64(); got != n {
			t.Errorf("U64 of % X: %d, want %d", b, got, n)
		}
		if got := Of(b).Int(); got != int64(n) {
			t.Errorf("Int of % X: %d, want %d", b, got, int64(n))
		}
	}
}

// P2.2: a reader that has taken stands right behind.
func TestPlaceBehindWhatIsTaken(t *testing.T) {
	for _, k := range takers() {
		b := append(make([]byte, k.size), 5, 6)
		r := Of(b)
		k.blank(r)
		wantState(t, k.name, r, 2, api.OK, api.ErrRest)
		if got := r.U16(); got != 0x0506 {
			t.Errorf("behind %s: %04X", k.name, got)
		}
		wantState(t, k.name+", U16", r, 0, api.OK, api.OK)
	}
	r := Of([]byte{0, 3, 'a', 0, 0xFF, 'z'})
	if s := r.Text(); s != "a\x00\xff" {
		t.Errorf("Text: %q", s)
	}
	wantState(t, "Text", r, 1, api.OK, api.ErrRest)
}

// P2.2, P2.3: each length below the one that is needed fails, without a step; so does all that is asked then, even if it would have fitted.
func TestTooShort(t *testing.T) {
	for _, k := range takers() {
		for n := range k.size {
			b := bytes.Repeat([]byte{1}, n)
			r := Of(b)
			if !k.blank(r) {
				t.Errorf("%s of %d bytes took something", k.name, n)
			}
			wantState(t, k.name, r, n, api.ErrShort, api.ErrShort)
			for _, then := range takers() {
				if !then.blank(r) {
					t.Errorf("%s behind a %s that failed took something", then.name, k.name)
				}
				wantState(t, k.name+", "+then.name, r, n, api.ErrShort, api.ErrShort)
			}
		}
	}
}

// P2.2: a text that is told longer than what is left, by one and by much; the reader stands ahead of its length.
func TestTextTooShort(t *testing.T) {
	for _, b := range [][]byte{
		{0, 1}, {0, 2, 'a'}, {0, 5, 'a'}, {1, 0, 'a'}, {0xFF, 0xFF}, {0xFF, 0xFF, 'a', 'b'},
		append([]byte{0xFF, 0xFF}, make([]byte, 65534)...),
	} {
		r := Of(b)
		if s := r.Text(); s != "" {
			t.Errorf("Text of % X: %q", b, s)
		}
		wantState(t, "Text", r, len(b), api.ErrShort, api.ErrShort)
		if n := r.U8(); n != 0 {
			t.Errorf("U8 behind a Text that failed: %d", n)
		}
		wantState(t, "Text, U8", r, len(b), api.ErrShort, api.ErrShort)
	}
	whole := append([]byte{0xFF, 0xFF}, bytes.Repeat([]byte("q"), 65535)...)
	r := Of(whole)
	if s := r.Text(); s != string(whole[2:]) {
		t.Errorf("the longest text: %d bytes", len(s))
	}
	wantState(t, "the longest text", r, 0, api.OK, api.OK)
}

// P2.2: it stands where it stood when it failed, not at the beginning.
func TestFailsInTheMiddle(t *testing.T) {
	r := Of([]byte{1, 2, 0, 9, 'x'})
	if r.U16() != 0x0102 || r.Text() != "" {
		t.Error("U16, Text")
	}
	wantState(t, "U16, Text", r, 3, api.ErrShort, api.ErrShort)
	if r.U16() != 0 || r.U64() != 0 || r.Text() != "" {
		t.Error("it went on")
	}
	wantState(t, "U16, Text, U16, U64, Text", r, 3, api.ErrShort, api.ErrShort)
}

// P2.2, P2.3: a reader of nothing, a blank one, and a failure at the very end.
func TestReaderOfNothing(t *testing.T) {
	for name, make := range map[string]func() *Reader{
		"nil":   func() *Reader { return Of(nil) },
		"empty": func() *Reader { return Of([]byte{}) },
		"blank": func() *Reader { return new(Reader) },
		"taken": func() *Reader { r := Of([]byte{1}); r.U8(); return r },
	} {
		for _, k := range takers() {
			r := make()
			wantState(t, name, r, 0, api.OK, api.OK)
			if !k.blank(r) {
				t.Errorf("%s of %s took something", k.name, name)
			}
			wantState(t, name+", "+k.name, r, 0, api.ErrShort, api.ErrShort)
		}
	}
}

// The line ahead of P2.1: a nil reader.
func TestNilReader(t *testing.T) {
	var r *Reader
	for _, k := range takers() {
		if !k.blank(r) {
			t.Errorf("%s of a nil reader took something", k.name)
		}
		wantState(t, k.name, r, 0, api.ErrNil, api.ErrNil)
	}
}

// P2.3: Left counts down, and Done changes from ErrRest to OK at the end alone.
func TestLeft(t *testing.T) {
	b := make([]byte, 40)
	r := Of(b)
	for left := len(b); left > 0; left-- {
		wantState(t, "of 40", r, left, api.OK, api.ErrRest)
		r.U8()
	}
	wantState(t, "of 40, all taken", r, 0, api.OK, api.OK)
}

// P2.4: neither the bytes, nor those behind their length, nor the list.
func TestOnlyRead(t *testing.T) {
	memory := []byte("....\x00\x02hi\x01\x02....")
	before := bytes.Clone(memory)
	b := memory[4:10]
	list := [][]byte{b[:1], nil, {}, b, []byte("behind")}
	Join(list[:4]...)
	Join(b[:2])
	Join(b[:2], []byte{9, 9, 9})
	for _, k := range takers() {
		r := Of(b)
		k.blank(r)
		k.blank(r)
	}
	wantBytes(t, "what was handed in", memory, before)
	if &list[0][0] != &b[0] || len(list[0]) != 1 || list[1] != nil || list[2] == nil || &list[3][0] != &b[0] || string(list[4]) != "behind" {
		t.Errorf("the list became %q", list)
	}
}

// P2.4: a reader goes on by what there was, whatever becomes of the bytes, or of another reader of them.
func TestReaderKeepsACopy(t *testing.T) {
	b := []byte{0, 2, 'h', 'i', 3, 4}
	r, other := Of(b), Of(b)
	first := r.Text()
	for i := range b {
		b[i] = 0xEE
	}
	if s := other.Text(); s != "hi" || first != "hi" {
		t.Errorf("%q, %q", first, s)
	}
	if n := r.U16(); n != 0x0304 || other.Left() != 2 {
		t.Errorf("%04X, the other has %d left", n, other.Left())
	}
}

// P2.4: no answer shares memory with another one, or with a row that was handed in.
func TestAnswersAreNew(t *testing.T) {
	row := []byte{1, 2, 3}
	makers := map[string]func() []byte{
		"Put8":        func() []byte { return Put8(7) },
		"Put16":       func() []byte { return Put16(7) },
		"Put32":       func() []byte { return Put32(7) },
		"Put64":       func() []byte { return Put64(7) },
		"PutInt":      func() []byte { return PutInt(7) },
		"PutText":     func() []byte { return textOf(t, "seven") },
		"Join of one": func() []byte { return Join(row) },
		"Join":        func() []byte { return Join(nil, row, nil) },
	}
	for name, make := range makers {
		first, second := make(), make()
		kept := bytes.Clone(second)
		for i := range first {
			first[i] ^= 0xFF
		}
		_ = append(first, 0xEE, 0xEE)
		wantBytes(t, name, second, kept)
		wantBytes(t, name+", what was handed in", row, []byte{1, 2, 3})
	}
}

// item is one packed thing: what it looks like, and whether a reader takes it as it was.
type item struct {
	b    []byte
	same func(*Reader) bool
}

func someItem(t *testing.T, r *rand.Rand) item {
	n := r.Uint64() >> r.IntN(64)
	switch r.IntN(6) {
	case 0:
		return item{Put8(uint8(n)), func(r *Reader) bool { return r.U8() == uint8(n) }}
	case 1:
		return item{Put16(uint16(n)), func(r *Reader) bool { return r.U16() == uint16(n) }}
	case 2:
		return item{Put32(uint32(n)), func(r *Reader) bool { return r.U32() == uint32(n) }}
	case 3:
		return item{Put64(n), func(r *Reader) bool { return r.U64() == n }}
	case 4:
		return item{PutInt(-int64(n)), func(r *Reader) bool { return r.Int() == -int64(n) }}
	}
	s := string(someBytes(r, r.IntN(300)))
	return item{textOf(t, s), func(r *Reader) bool { return r.Text() == s }}
}

// P2.5: rows of packed things are taken as they were, and nothing is left; with other bytes ahead and behind, those stay.
func TestTakenAsItWas(t *testing.T) {
	r := rand.New(rand.NewPCG(2, 1))
	for range 500 {
		var items []item
		rows := [][]byte{someBytes(r, r.IntN(20))}
		for range r.IntN(12) {
			items = append(items, someItem(t, r))
			rows = append(rows, items[len(items)-1].b)
		}
		behind := r.IntN(20)
		ahead := len(rows[0])
		all := Join(append(rows, someBytes(r, behind))...)
		takeAll(t, Of(all[ahead:len(all)-behind]), items, 0)
		reader := Of(all)
		for range ahead {
			reader.U8()
		}
		takeAll(t, reader, items, behind)
	}
}

func takeAll(t *testing.T, r *Reader, items []item, behind int) {
	t.Helper()
	for i, x := range items {
		if !x.same(r) {
			t.Fatalf("item %d, % X: taken as another one", i, x.b)
		}
	}
	done := api.OK
	if behind > 0 {
		done = api.ErrRest
	}
	wantState(t, "all items", r, behind, api.OK, done)
}

// P2.5: every kind at its edges.
func TestEdgesTakenAsTheyWere(t *testing.T) {
	for _, n := range edges() {
		r := Of(Join(Put8(uint8(n)), Put16(uint16(n)), Put32(uint32(n)), Put64(n), PutInt(int64(n)), PutInt(-int64(n))))
		if a, b, c, d, e, f := r.U8(), r.U16(), r.U32(), r.U64(), r.Int(), r.Int(); a != uint8(n) || b != uint16(n) || c != uint32(n) || d != n || e != int64(n) || f != -int64(n) {
			t.Errorf("%X: %X, %X, %X, %X, %X, %X", n, a, b, c, d, e, f)
		}
		wantState(t, "edges", r, 0, api.OK, api.OK)
	}
	for _, size := range []int{0, 1, 255, 256, 65535} {
		s := strings.Repeat("\xAB", size)
		r := Of(Join(textOf(t, s), textOf(t, ""), textOf(t, s)))
		if r.Text() != s || r.Text() != "" || r.Text() != s {
			t.Errorf("a text of %d bytes is taken as another one", size)
		}
		wantState(t, "texts", r, 0, api.OK, api.OK)
	}
}

// P2.5: the order of numbers is that of their bytes.
func TestOrder(t *testing.T) {
	l := edges()
	for _, a := range l {
		for _, b := range l {
			if (a < b) != (bytes.Compare(Put64(a), Put64(b)) < 0) {
				t.Errorf("64: %X and %X", a, b)
			}
			if (uint32(a) < uint32(b)) != (bytes.Compare(Put32(uint32(a)), Put32(uint32(b))) < 0) {
				t.Errorf("32: %X and %X", uint32(a), uint32(b))
			}
			if (uint16(a) < uint16(b)) != (bytes.Compare(Put16(uint16(a)), Put16(uint16(b))) < 0) {
				t.Errorf("16: %X and %X", uint16(a), uint16(b))
			}
			if (uint8(a) < uint8(b)) != (bytes.Compare(Put8(uint8(a)), Put8(uint8(b))) < 0) {
				t.Errorf("8: %X and %X", uint8(a), uint8(b))
			}
		}
	}
}
