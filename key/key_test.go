package key

import (
	"encoding/binary"
	"math"
	"math/rand/v2"
	"slices"
	"strings"
	"testing"
)

// numbers are those at which some byte begins to count, rising.
func numbers() []int64 {
	l := []int64{math.MinInt64, math.MaxInt64, 0x0102030405060708}
	for i := range 64 {
		n := int64(1) << i
		l = append(l, n-1, n, n+1, -n-1, -n, -n+1)
	}
	slices.Sort(l)
	return slices.Compact(l)
}

// textsUpTo are all texts of at most that many bytes, each one of those told.
func textsUpTo(most int, from string) []string {
	l := []string{""}
	for i := 0; i < len(l); i++ {
		if len(l[i]) == most {
			break
		}
		for k := range len(from) {
			l = append(l, l[i]+from[k:k+1])
		}
	}
	return l
}

func someText(r *rand.Rand) string {
	const from = "\x00\x00\x01ab\xfe\xff\xff"
	b := make([]byte, r.IntN(6))
	for i := range b {
		b[i] = from[r.IntN(len(from))]
	}
	return string(b)
}

func someNumber(r *rand.Rand) int64 { return int64(r.Uint64()) >> r.IntN(64) }

// someRow has a part of each kind.
func someRow(r *rand.Rand, kinds []uint8) []Part {
	var l []Part
	for _, kind := range kinds {
		if kind == Int {
			l = append(l, number(someNumber(r)))
		} else {
			l = append(l, text(someText(r)))
		}
	}
	return l
}

// allKinds are all rows of at most that many kinds.
func allKinds(most int) [][]uint8 {
	var l [][]uint8
	for _, s := range textsUpTo(most, "\x01\x02") {
		l = append(l, []uint8(s))
	}
	return l
}

func wantRow(t *testing.T, s string, kinds []uint8, want []Part) {
	t.Helper()
	if l, ok := Parse(s, kinds...); !ok || !slices.Equal(l, want) {
		t.Errorf("Parse(% X, %d): %v, %v; want %v", s, kinds, l, ok, want)
	}
}

func wantNoRow(t *testing.T, s string, kinds ...uint8) {
	t.Helper()
	if l, ok := Parse(s, kinds...); ok || len(l) != 0 {
		t.Errorf("Parse(% X, %d): %v, %v", s, kinds, l, ok)
	}
}

// P4.1 and P4.3: the chapter's examples.
func TestExamples(t *testing.T) {
	for _, c := range []struct {
		p    Part
		want string
	}{
		{number(1), "\x80\x00\x00\x00\x00\x00\x00\x01"},
		{number(-1), "\x7F\xFF\xFF\xFF\xFF\xFF\xFF\xFF"},
		{text("a\x00b"), "\x61\x00\xFF\x62\x00\x00"},
	} {
		if got := Put(c.p); got != c.want {
			t.Errorf("Put(%v): % X", c.p, got)
		}
	}
	if s, ok := After("\x61\xFF"); s != "\x62" || !ok {
		t.Errorf("After(61 FF): % X, %v", s, ok)
	}
	for _, prefix := range []string{"\xFF\xFF", ""} {
		if s, ok := After(prefix); s != "" || ok {
			t.Errorf("After(% X): % X, %v", prefix, s, ok)
		}
	}
}

// P4.1: numbers at the edges of each byte, written and read.
func TestNumbers(t *testing.T) {
	for _, c := range []struct {
		n    int64
		want string
	}{
		{0, "\x80\x00\x00\x00\x00\x00\x00\x00"},
		{math.MinInt64, "\x00\x00\x00\x00\x00\x00\x00\x00"},
		{math.MaxInt64, "\xFF\xFF\xFF\xFF\xFF\xFF\xFF\xFF"},
		{0x0102030405060708, "\x81\x02\x03\x04\x05\x06\x07\x08"},
		{-2, "\x7F\xFF\xFF\xFF\xFF\xFF\xFF\xFE"},
	} {
		if got := Put(number(c.n)); got != c.want {
			t.Errorf("Put(%d): % X", c.n, got)
		}
	}
	for _, n := range numbers() {
		want := string(binary.BigEndian.AppendUint64(nil, uint64(n)+1<<63))
		if got := Put(number(n)); got != want {
			t.Errorf("Put(%d): % X, want % X", n, got, want)
		}
		wantRow(t, want, []uint8{Int}, []Part{number(n)})
	}
}

// P4.1: texts without bytes, of 00 and FF, of every byte, and long ones, written and read.
func TestTexts(t *testing.T) {
	every := make([]byte, 256)
	for i := range every {
		every[i] = byte(i)
	}
	for _, s := range append(textsUpTo(4, "\x00\x01\xFF"), "grün, 水", string(every), strings.Repeat("\x00", 5000), strings.Repeat("x", 70000)) {
		want := strings.ReplaceAll(s, "\x00", "\x00\xFF") + "\x00\x00"
		if got := Put(text(s)); got != want {
			t.Errorf("Put(% X): % X", s, got)
		}
		wantRow(t, want, []uint8{Text}, []Part{text(s)})
	}
}

// P4.1: no part, and several; what a part's kind does not name counts for nothing, and any kind but Int is a text's.
func TestRows(t *testing.T) {
	if s := Put(); s != "" {
		t.Errorf("Put of nothing: % X", s)
	}
	wantRow(t, "", nil, nil)
	wantRow(t, "", []uint8{}, nil)
	const want = "a\x00\xFF\x00\x00" + "\x80\x00\x00\x00\x00\x00\x01\x02" + "\x00\x00" + "\x7F\xFF\xFF\xFF\xFF\xFF\xFF\xFD"
	l := []Part{text("a\x00"), number(258), text(""), number(-3)}
	if got := Put(l...); got != want {
		t.Errorf("Put(%v): % X", l, got)
	}
	wantRow(t, want, []uint8{Text, Int, Text, Int}, l)
	if got := Put(Part{Kind: Int, N: 7, Text: "x"}); got != Put(number(7)) {
		t.Errorf("a number with a text: % X", got)
	}
	for _, kind := range []uint8{0, 2, 3, 128, 255} {
		if got := Put(Part{Kind: kind, N: 7, Text: "x"}); got != "x\x00\x00" {
			t.Errorf("a text of the kind %d: % X", kind, got)
		}
	}
}

// P4.1: what is too short, too long, of other kinds, or of no kind.
func TestParseWrong(t *testing.T) {
	const seven, eight = "1234567", "12345678"
	for _, c := range []struct {
		s     string
		kinds []uint8
	}{
		{"", []uint8{Int}}, {"1", []uint8{Int}}, {seven, []uint8{Int}}, {eight + "9", []uint8{Int}}, {eight + seven, []uint8{Int, Int}}, {eight, []uint8{Int, Int}}, {eight + eight, []uint8{Int}},
		{"", []uint8{Text}}, {"a", []uint8{Text}}, {"a\x00", []uint8{Text}}, {"\x00", []uint8{Text}}, {"a\x00\xFF", []uint8{Text}}, {"a\x00\xFF\x00", []uint8{Text}},
		{"a\x00\x01\x00\x00", []uint8{Text}}, {"a\x00\xFE\x00\x00", []uint8{Text}}, {"a\x00b\x00\x00", []uint8{Text}},
		{"a\x00\x00b", []uint8{Text}}, {"a\x00\x00\x00", []uint8{Text}}, {"a\x00\x00\xFF\x00\x00", []uint8{Text}}, {"a\x00\x00", []uint8{Text, Text}}, {"\x00\x00\x00\x00", []uint8{Text}},
		{"a\x00\x00", nil}, {eight, nil}, {"\x00", nil}, {"a\x00\x00", []uint8{Text, Int}}, {"a\x00\x00", []uint8{Int, Text}}, {"a\x00\x00" + seven, []uint8{Text, Int}}, {"a\x00\x00" + eight, []uint8{Int, Text}},
	} {
		wantNoRow(t, c.s, c.kinds...)
	}
	for _, kind := range []uint8{0, 3, 4, 128, 255} {
		for _, s := range []string{"", "\x00\x00", "a\x00\x00", eight, "a\x00\x00" + eight} {
			wantNoRow(t, s, kind)
			wantNoRow(t, s, Int, kind)
			wantNoRow(t, s, Text, kind)
			wantNoRow(t, s, kind, Text)
		}
		wantNoRow(t, "a\x00\x00", Text, kind)
		wantNoRow(t, eight, Int, kind)
		wantNoRow(t, "a\x00\x00"+eight, Text, kind, Int)
	}
}

// P4.1 and P4.6: of all short texts just those that some row writes are read, and as that row.
func TestParseAnyTexts(t *testing.T) {
	written := map[string][]Part{}
	short := textsUpTo(6, "\x00\x01\xFF")
	for _, a := range short {
		one := []Part{text(a)}
		written[Put(one...)] = one
	}
	for _, s := range short {
		if want, ok := written[s]; ok {
			wantRow(t, s, []uint8{Text}, want)
		} else {
			wantNoRow(t, s, Text)
		}
	}
}

// P4.1 and P4.6: what is written is read as it was, of all kinds in any order; not with less, and not with more.
func TestReadAsItWas(t *testing.T) {
	r := rand.New(rand.NewPCG(4, 1))
	for _, kinds := range allKinds(4) {
		for range 200 {
			l := someRow(r, kinds)
			s := Put(l...)
			wantRow(t, s, kinds, l)
			wantNoRow(t, s+"\x00", kinds...)
			wantNoRow(t, s+"\xFF", kinds...)
			wantNoRow(t, s+"x", kinds...)
			for n := range s {
				wantNoRow(t, s[:n], kinds...)
			}
			wantNoRow(t, s, append(slices.Clone(kinds), Int)...)
			wantNoRow(t, s, append(slices.Clone(kinds), Text)...)
		}
	}
}

// P4.6: whatever bytes are read are what writes them.
func TestWrittenAsItWas(t *testing.T) {
	r := rand.New(rand.NewPCG(4, 2))
	read := 0
	for range 20000 {
		kinds := allKinds(3)[r.IntN(15)]
		s := Put(someRow(r, kinds)...)
		if b := []byte(s); len(b) > 0 && r.IntN(2) == 0 {
			b[r.IntN(len(b))] = byte(r.Uint32())
			s = string(b)
		}
		for _, other := range [][]uint8{kinds, allKinds(3)[r.IntN(15)]} {
			l, ok := Parse(s, other...)
			if !ok {
				continue
			}
			read++
			if Put(l...) != s || len(l) != len(other) {
				t.Fatalf("% X is read as %v", s, l)
			}
		}
	}
	if read < 10000 {
		t.Errorf("only %d were read", read)
	}
}

// P4.2: rows in their order, each held against each.
func TestCompare(t *testing.T) {
	rising := [][]Part{
		nil,
		{number(math.MinInt64)}, {number(-5)}, {number(-5), number(-9)}, {number(-5), number(0)}, {number(-5), text("a")}, {number(-4)}, {number(-1)}, {number(0)}, {number(0), text("")}, {number(1)}, {number(255)}, {number(256)}, {number(300)}, {number(math.MaxInt64)}, {number(math.MaxInt64), text("\xFF")},
		{text("")}, {text(""), number(3)}, {text(""), text("")}, {text("\x00")}, {text("\x00\x00")}, {text("\x00\x01")}, {text("\x01")}, {text("B")}, {text("a")}, {text("a"), number(-1)}, {text("a"), number(2)}, {text("a"), number(2), number(-7)}, {text("a"), number(10)}, {text("a\x00")}, {text("ab")}, {text("b")}, {text("\x7F")}, {text("\x80")}, {text("\xFF")}, {text("\xFF\xFF")},
		{{Kind: 3, Text: "a"}}, {{Kind: 3, Text: "b"}}, {{Kind: 128}}, {{Kind: 255, Text: ""}}, {{Kind: 255, Text: "x"}},
	}
	for i, a := range rising {
		for k, b := range rising {
			if got, want := Compare(a, b), order(i, k); got != want {
				t.Errorf("Compare(%v, %v): %d, want %d", a, b, got, want)
			}
		}
	}
	if got := Compare([]Part{}, nil); got != 0 {
		t.Errorf("an empty list and nil: %d", got)
	}
}

func order(i, k int) int {
	switch {
	case i < k:
		return -1
	case i > k:
		return 1
	}
	return 0
}

// P4.2: what a part's kind does not name counts for nothing; where kinds differ, they alone count.
func TestCompareByKind(t *testing.T) {
	for _, c := range []struct {
		a, b Part
		want int
	}{
		{Part{Kind: Int, N: 4, Text: "z"}, Part{Kind: Int, N: 4, Text: "a"}, 0},
		{Part{Kind: Int, N: 3, Text: "z"}, Part{Kind: Int, N: 4, Text: "a"}, -1},
		{Part{Kind: Text, N: 9, Text: "a"}, Part{Kind: Text, N: 1, Text: "a"}, 0},
		{Part{Kind: Text, N: 9, Text: "a"}, Part{Kind: Text, N: 1, Text: "b"}, -1},
		{Part{Kind: 0, N: 9, Text: "a"}, Part{Kind: 0, N: 1, Text: "a"}, 0},
		{Part{Kind: 0, N: 1, Text: "b"}, Part{Kind: 0, N: 9, Text: "a"}, 1},
		{Part{Kind: 7, N: 1, Text: "b"}, Part{Kind: 7, N: 9, Text: "a"}, 1},
		{Part{Kind: 0, N: 9, Text: "z"}, Part{Kind: Int, N: -9}, -1},
		{Part{Kind: Int, N: 9, Text: "z"}, Part{Kind: Text, N: -9, Text: ""}, -1},
		{Part{Kind: Text, Text: "z"}, Part{Kind: 3, Text: "a"}, -1},
		{Part{Kind: 255, Text: ""}, Part{Kind: 127, Text: "z"}, 1},
	} {
		if got := Compare([]Part{c.a}, []Part{c.b}); got != c.want {
			t.Errorf("%v, %v: %d", c.a, c.b, got)
		}
		if got := Compare([]Part{number(1), c.b, number(3)}, []Part{number(1), c.a, number(3)}); got != -c.want {
			t.Errorf("%v, %v, in a row: %d", c.b, c.a, got)
		}
	}
}

// P4.6: rows of the same kinds stand as the texts that write them, and none is written as the beginning of another one.
func TestOrderIsWritten(t *testing.T) {
	r := rand.New(rand.NewPCG(4, 3))
	for _, kinds := range allKinds(3) {
		var rows [][]Part
		for range 150 {
			l := someRow(r, kinds)
			rows = append(rows, l)
			if len(l) > 0 { // one that differs in a single part
				l = slices.Clone(l)
				i := r.IntN(len(l))
				l[i] = someRow(r, kinds[i:i+1])[0]
				rows = append(rows, l)
			}
		}
		for _, a := range rows {
			for _, b := range rows {
				wantWrittenOrder(t, a, b)
			}
		}
	}
	var all [][]Part
	for _, n := range numbers() {
		all = append(all, []Part{number(n)})
	}
	for i := range all {
		for k := range all {
			wantWrittenOrder(t, all[i], all[k])
		}
	}
	short := textsUpTo(3, "\x00\x01\xFE\xFF")
	for _, a := range short {
		for _, b := range short {
			wantWrittenOrder(t, []Part{text(a), number(-1)}, []Part{text(b), number(1)})
		}
	}
}

func wantWrittenOrder(t *testing.T, a, b []Part) {
	t.Helper()
	s, u := Put(a...), Put(b...)
	if got, want := Compare(a, b), strings.Compare(s, u); got != want {
		t.Errorf("Compare(%v, %v): %d, written %d", a, b, got, want)
	}
	if s != u && strings.HasPrefix(u, s) {
		t.Errorf("%v is written as the beginning of %v", a, b)
	}
}

// P4.3 and P4.6: what begins with a prefix is at least that, and less than what comes after it; anything else is not, and there is no lesser text of which that holds.
func TestAfter(t *testing.T) {
	short := textsUpTo(4, "\x00\x01\xFE\xFF")
	for _, prefix := range textsUpTo(3, "\x00\x01\xFE\xFF") {
		after, ok := After(prefix)
		if ok != (strings.ReplaceAll(prefix, "\xFF", "") != "") || !ok && after != "" {
			t.Errorf("After(% X): % X, %v", prefix, after, ok)
		}
		for _, s := range short {
			within := s >= prefix && (!ok || s < after)
			if within != strings.HasPrefix(s, prefix) {
				t.Errorf("After(% X): % X, %v; % X lies wrong", prefix, after, ok, s)
			}
		}
	}
}

// P4.3: every last byte, and long prefixes.
func TestAfterAtTheEdges(t *testing.T) {
	for i := range 255 {
		for _, c := range []struct{ ahead, behind string }{{"", ""}, {"a", ""}, {"\xFF", ""}, {"", "\xFF"}, {"\xFF\x00", "\xFF\xFF\xFF"}} {
			prefix := c.ahead + string([]byte{byte(i)}) + c.behind
			want := c.ahead + string([]byte{byte(i + 1)})
			if got, ok := After(prefix); got != want || !ok {
				t.Errorf("After(% X): % X, %v; want % X", prefix, got, ok, want)
			}
		}
	}
	many := strings.Repeat("\xFF", 70000)
	if s, ok := After(many); s != "" || ok {
		t.Errorf("After of many FF: %d bytes, %v", len(s), ok)
	}
	if s, ok := After("\x00" + many); s != "\x01" || !ok {
		t.Errorf("After of 00 and many FF: %d bytes, %v", len(s), ok)
	}
	if s, ok := After(many + "\x00"); s != many+"\x01" || !ok {
		t.Errorf("After of many FF and 00: %d bytes, %v", len(s), ok)
	}
}

// panes have keys, ends and starts of which each is held against each.
func panes() []Pane {
	var l []Pane
	for _, s := range []string{"", "\x00", "\x00\xFF", "a", "a\x00", "ab", "b", "\xFF", strings.Repeat("k", 40)} {
		for _, start := range []int64{math.MinInt64, -3, 0, 256, math.MaxInt64} {
			for _, end := range []int64{math.MinInt64, -1, 0, 7, 1 << 40, math.MaxInt64} {
				l = append(l, Pane{Key: s, Start: start, End: end})
			}
		}
	}
	return l
}

// P4.4: a pane's rows, by hand, and read.
func TestPaneRows(t *testing.T) {
	p := Pane{Key: "k\x00", Start: -3, End: 7}
	const key, end, start = "k\x00\xFF\x00\x00", "\x80\x00\x00\x00\x00\x00\x00\x07", "\x7F\xFF\xFF\xFF\xFF\xFF\xFF\xFD"
	if s := Primary(p); s != key+end+start {
		t.Errorf("Primary: % X", s)
	}
	if s := Secondary(p); s != end+key+start {
		t.Errorf("Secondary: % X", s)
	}
	for _, p := range panes() {
		if q, ok := OfPrimary(Primary(p)); q != p || !ok {
			t.Errorf("OfPrimary of %v's row: %v, %v", p, q, ok)
		}
		if q, ok := OfSecondary(Secondary(p)); q != p || !ok {
			t.Errorf("OfSecondary of %v's row: %v, %v", p, q, ok)
		}
	}
}

// P4.4: rows' order is the panes' by key, end and start; or by end, key and start.
func TestPaneOrders(t *testing.T) {
	for _, p := range panes() {
		for _, q := range panes() {
			keys, ends, starts := strings.Compare(p.Key, q.Key), compared(p.End, q.End), compared(p.Start, q.Start)
			if got, want := strings.Compare(Primary(p), Primary(q)), firstOf(keys, ends, starts); got != want {
				t.Errorf("primary rows of %v, %v: %d, want %d", p, q, got, want)
			}
			if got, want := strings.Compare(Secondary(p), Secondary(q)), firstOf(ends, keys, starts); got != want {
				t.Errorf("secondary rows of %v, %v: %d, want %d", p, q, got, want)
			}
		}
	}
}

func compared(a, b int64) int {
	switch {
	case a < b:
		return -1
	case a > b:
		return 1
	}
	return 0
}

// firstOf is the first that is not 0.
func firstOf(l ...int) int {
	for _, n := range l {
		if n != 0 {
			return n
		}
	}
	return 0
}

// P4.4: what is no pane's row: too short, too long, of other parts.
func TestPaneRowsWrong(t *testing.T) {
	for _, p := range panes() {
		for name, c := range map[string]struct {
			row string
			of  func(string) (Pane, bool)
		}{"OfPrimary": {Primary(p), OfPrimary}, "OfSecondary": {Secondary(p), OfSecondary}} {
			wrong := []string{"", "\x00", c.row + "\x00", c.row + "x", c.row + c.row}
			for n := range len(c.row) {
				wrong = append(wrong, c.row[:n])
			}
			for _, s := range wrong {
				if q, ok := c.of(s); ok || q != (Pane{}) {
					t.Errorf("%s(% X): %v, %v", name, s, q, ok)
				}
			}
		}
	}
	p := Pane{Key: "abc", Start: 1, End: 2}
	if q, ok := OfPrimary(Secondary(p)); ok || q != (Pane{}) {
		t.Errorf("a secondary row read as a primary one: %v", q)
	}
	if q, ok := OfSecondary(Primary(p)); ok || q != (Pane{}) {
		t.Errorf("a primary row read as a secondary one: %v", q)
	}
	if q, ok := OfPrimary(Put(text("a"), number(1), number(2), number(3))); ok || q != (Pane{}) {
		t.Errorf("a row of four parts: %v", q)
	}
	if q, ok := OfSecondary(Put(number(1), number(-1), text("a"))); ok || q != (Pane{}) {
		t.Errorf("a row of another order: %v", q)
	}
}

// P4.5: lists are only read, what lies behind their length included; and what is answered twice stands in two places.
func TestOnlyReads(t *testing.T) {
	parts := []Part{text("out"), text("a\x00"), number(-7), number(9)}
	kinds := []uint8{9, Text, Int, 7}
	partsBefore, kindsBefore := slices.Clone(parts), slices.Clone(kinds)
	l := parts[1:3]
	s := Put(l...)
	a, ok := Parse(s, kinds[1:3]...)
	b, again := Parse(s, kinds[1:3]...)
	if !ok || !again || Compare(a, l) != 0 || Compare(l, b) != 0 {
		t.Fatalf("%v, %v", a, b)
	}
	a[0], a[1] = number(1), text("x")
	if !slices.Equal(b, l) || Put(b...) != s {
		t.Errorf("a change of one answer is seen in another one: %v", b)
	}
	_ = append(a, number(5))
	_ = append(b, number(6))
	if !slices.Equal(parts, partsBefore) || !slices.Equal(kinds, kindsBefore) {
		t.Errorf("%v, %v", parts, kinds)
	}
}
