package bound

import (
	"cmp"
	"math"
	"math/rand/v2"
	"slices"
	"strings"
	"testing"

	"tidepool/key"
)

// keys stand in their order, with bytes that a row writes in its own way.
var keys = []string{"", "\x00", "\x00\x00", "\x00\xff", "\x01", "A", "a", "a\x00", "a\x00\x00b", "ab", "b", "b\xff", "c", strings.Repeat("k", 32), strings.Repeat("k", 33), "\xff", strings.Repeat("\xff", 32)}

// numbers stand in their order.
var numbers = []int64{math.MinInt64, math.MinInt64 + 1, -257, -1, 0, 1, 5, 255, 256, math.MaxInt64 - 1, math.MaxInt64}

func pane1(k string, start, end int64) key.Pane { return key.Pane{Key: k, Start: start, End: end} }

// allPanes has each key with each end, and some starts.
func allPanes() []key.Pane {
	var l []key.Pane
	for _, k := range keys {
		for _, end := range numbers {
			for _, start := range []int64{math.MinInt64, 0, math.MaxInt64} {
				l = append(l, pane1(k, start, end))
			}
		}
	}
	return l
}

// allFilters has each kind, of those that there are not some, with each of its parts.
func allFilters() []Filter {
	var l []Filter
	for _, a := range keys {
		for _, n := range numbers {
			l = append(l, OfPoint(a, n))
		}
		for _, b := range keys {
			l = append(l, OfRange(a, b))
		}
	}
	for _, a := range numbers {
		for _, b := range numbers {
			l = append(l, OfEnds(a, b))
		}
	}
	return append(l, Filter{}, Filter{Kind: 4}, Filter{Kind: 255, Key: "a", To: "b", Least: 1, Most: 2})
}

// rightNow is the chapter's table of what may be, told anew.
func rightNow(f Filter) bool {
	switch f.Kind {
	case 1:
		return len(f.Key) >= 1 && len(f.Key) <= 32 && f.To == "" && f.Most == 0
	case 2:
		return len(f.Key) <= 32 && len(f.To) <= 32 && f.Least == 0 && f.Most == 0
	case 3:
		return f.Key == "" && f.To == ""
	}
	return false
}

// hasNow is the chapter's table of which panes a filter has, told anew by places in what stands in order.
func hasNow(f Filter, p key.Pane) bool {
	switch f.Kind {
	case 1:
		return strings.Compare(p.Key, f.Key) == 0 && p.End-f.Least == 0
	case 2:
		k := slices.Index(keys, p.Key)
		past := slices.Index(keys, f.To)
		return k >= slices.Index(keys, f.Key) && (past == 0 || k < past)
	case 3:
		n := slices.Index(numbers, p.End)
		return n >= slices.Index(numbers, f.Least) && n < slices.Index(numbers, f.Most)
	}
	return false
}

// between tells whether a row is within bounds.
func between(row, from, to string) bool { return row >= from && (to == "" || row < to) }

// P10.1: each maker lays its kind and its parts, and nothing else.
func TestMakers(t *testing.T) {
	if Point != 1 || Range != 2 || Ends != 3 {
		t.Error("kinds")
	}
	if f := OfPoint("a", 5); f != (Filter{Kind: 1, Key: "a", Least: 5}) {
		t.Error(f)
	}
	if f := OfRange("a", "c"); f != (Filter{Kind: 2, Key: "a", To: "c"}) {
		t.Error(f)
	}
	if f := OfEnds(-5, 7); f != (Filter{Kind: 3, Least: -5, Most: 7}) {
		t.Error(f)
	}
}

// P10.1: Right holds each part of each kind against the chapter's words; Secondary is of Ends alone.
func TestRight(t *testing.T) {
	texts := []string{"", "\x00", "a", strings.Repeat("k", 31), strings.Repeat("k", 32), strings.Repeat("k", 33), strings.Repeat("k", 70000)}
	for kind := range 256 {
		for _, a := range texts {
			for _, b := range texts {
				for _, m := range []int64{math.MinInt64, -1, 0, 1, math.MaxInt64} {
					for _, n := range []int64{math.MinInt64, -1, 0, 1, math.MaxInt64} {
						f := Filter{uint8(kind), a, b, m, n}
						if f.Right() != rightNow(f) || f.Secondary() != (kind == 3) {
							t.Fatalf("%d, %d and %d bytes, %d, %d: %t", kind, len(a), len(b), m, n, f.Right())
						}
					}
				}
			}
		}
	}
}

// P10.2: the chapter's examples.
func TestExamples(t *testing.T) {
	for _, x := range []struct {
		f    Filter
		p    key.Pane
		want bool
	}{
		{OfPoint("a", 5), pane1("a", 0, 5), true}, {OfPoint("a", 5), pane1("a", 0, 6), false}, {OfPoint("a", 5), pane1("b", 0, 5), false},
		{OfRange("a", "c"), pane1("a", 0, 5), true}, {OfRange("a", "c"), pane1("ab", 0, 5), true}, {OfRange("a", "c"), pane1("b", 0, 5), true},
		{OfRange("a", "c"), pane1("c", 0, 5), false}, {OfRange("a", "c"), pane1("A", 0, 5), false},
		{OfRange("b", ""), pane1("b", 0, 5), true}, {OfRange("b", ""), pane1("z", 0, 5), true}, {OfRange("b", ""), pane1("a", 0, 5), false},
		{OfEnds(5, 7), pane1("x", 0, 4), false}, {OfEnds(5, 7), pane1("x", 0, 5), true}, {OfEnds(5, 7), pane1("x", 0, 6), true}, {OfEnds(5, 7), pane1("x", 0, 7), false},
	} {
		if x.f.Has(x.p) != x.want {
			t.Errorf("%v of %v: %t", x.f, x.p, !x.want)
		}
	}
}

// P10.2, P10.3, P10.5: each filter with each pane: has it that, just if its row is within the bounds?
func TestHasAndBounds(t *testing.T) {
	l := allPanes()
	for _, f := range allFilters() {
		from, to := f.Bounds()
		if !rightNow(f) && (from != "\x00" || to != "\x00") {
			t.Fatalf("%v: %q, %q", f, from, to)
		}
		for _, p := range l {
			want := hasNow(f, p)
			if f.Has(p) != want {
				t.Fatalf("%v, %v: %t", f, p, !want)
			}
			if rightNow(f) && between(f.Row(p), from, to) != want {
				t.Fatalf("%v, %v: %q, %q", f, p, from, to)
			}
			if !rightNow(f) && between(f.Row(p), from, to) {
				t.Fatalf("%v is not right, and has %v within its bounds", f, p)
			}
		}
	}
}

// P10.2: what a filter has hangs on what its kind names, also where it is not right.
func TestHasOfTheWrong(t *testing.T) {
	p := pane1("a", 0, 5)
	for _, f := range []Filter{{Point, "a", "b", 5, 9}, {Range, "a", "b", 7, 2}, {Ends, "z", "x", 5, 6}} {
		if f.Right() || !f.Has(p) || !slices.Equal(f.Sort(p), []key.Pane{p}) {
			t.Error(f)
		}
	}
	for kind := 4; kind < 257; kind++ {
		if f := (Filter{Kind: uint8(kind), Key: "a", Least: 5, Most: 9}); f.Has(p) || f.Sort(p) != nil {
			t.Error(f)
		}
	}
}

// P10.2, P10.5: rows are those of layer 4, and are read as their panes.
func TestRows(t *testing.T) {
	for _, p := range allPanes() {
		for _, f := range []Filter{OfPoint("a", 5), OfRange("", ""), OfEnds(0, 1)} {
			row := key.Primary(p)
			if f.Kind == 3 {
				row = key.Secondary(p)
			}
			got, ok := f.Pane(row)
			if f.Row(p) != row || got != p || !ok {
				t.Fatalf("%v, %v: %q, %v, %t", f, p, f.Row(p), got, ok)
			}
		}
	}
}

// P10.2: what is no row of the filter's sort is no pane's.
func TestNoRows(t *testing.T) {
	row := key.Put(key.Part{Kind: key.Text, Text: "a"}, key.Part{Kind: key.Int, N: 1}, key.Part{Kind: key.Int, N: 2})
	for _, f := range []Filter{OfPoint("a", 5), OfRange("", ""), OfEnds(0, 1)} {
		own := f.Row(pane1("a", 2, 1))
		for _, s := range []string{"", "x", "\x00", own + "x", own[:len(own)-1], own[2:], strings.Repeat("\x00", 15), strings.Repeat("x", 99)} {
			if p, ok := f.Pane(s); ok || p != (key.Pane{}) {
				t.Errorf("%v, %q: %v", f, s, p)
			}
		}
		if p, ok := f.Pane(row); ok != (f.Kind != 3) || p != (key.Pane{}) && f.Kind == 3 {
			t.Errorf("%v: %v, %t", f, p, ok)
		}
	}
}

// byRows orders panes anew, by their parts.
func byRows(secondary bool) func(a, b key.Pane) int {
	return func(a, b key.Pane) int {
		if secondary {
			return cmp.Or(cmp.Compare(a.End, b.End), cmp.Compare(a.Key, b.Key), cmp.Compare(a.Start, b.Start))
		}
		return cmp.Or(cmp.Compare(a.Key, b.Key), cmp.Compare(a.End, b.End), cmp.Compare(a.Start, b.Start))
	}
}

// P10.3: Sort tells the ones it has, each as often as it stands there, in the order of its rows.
func TestSort(t *testing.T) {
	r := rand.New(rand.NewPCG(10, 3))
	all, filters := allPanes(), allFilters()
	for range 3000 {
		f := filters[r.IntN(len(filters))]
		var l, want []key.Pane
		for range r.IntN(60) {
			p := all[r.IntN(len(all))]
			for range 1 + r.IntN(3) {
				l = append(l, p)
			}
		}
		r.Shuffle(len(l), func(i, j int) { l[i], l[j] = l[j], l[i] })
		for _, p := range l {
			if hasNow(f, p) {
				want = append(want, p)
			}
		}
		slices.SortFunc(want, byRows(f.Kind == 3))
		if got := f.Sort(l...); !slices.Equal(got, want) {
			t.Fatalf("%v, %v: %v", f, l, got)
		}
	}
	if OfRange("", "").Sort() != nil {
		t.Error("of none")
	}
}

// P10.4: what is handed in is only read, what lies behind it included; what is answered is new.
func TestOnlyRead(t *testing.T) {
	l := []key.Pane{pane1("c", 0, 1), pane1("a", 0, 3), pane1("b", 0, 2), pane1("z", 9, 9), pane1("A", 0, 0)}
	before := slices.Clone(l)
	f := OfRange("", "")
	got, again := f.Sort(l[:3]...), f.Sort(l[:3]...)
	if !slices.Equal(l, before) {
		t.Error(l)
	}
	got[0].Key = "x"
	_ = append(got, pane1("y", 0, 0))
	if !slices.Equal(l, before) || again[0].Key != "a" || f.Sort(l[1])[0].Key != "a" {
		t.Error("one shares memory with another")
	}
	sorted := f.Sort(l[1]) // of one that needs no sorting, too
	sorted[0].Key = "x"
	if l[1].Key != "a" {
		t.Error("the answer is what was handed in")
	}
}

// anyText has few kinds of bytes, so that beginnings often are the same.
func anyText(r *rand.Rand, longest int) string {
	b := make([]byte, r.IntN(longest+1))
	for i := range b {
		b[i] = []byte{0, 1, 'a', 0xFE, 0xFF}[r.IntN(5)]
	}
	return string(b)
}

func anyNumber(r *rand.Rand) int64 {
	if r.IntN(2) == 0 {
		return int64(r.IntN(4)) - 2
	}
	return int64(r.Uint64())
}

// P10.5: a right filter has a pane just if its row is within its bounds; a row is read as its pane.
func TestWhatFollows(t *testing.T) {
	r := rand.New(rand.NewPCG(10, 5))
	had := 0
	for range 200000 {
		p := pane1(anyText(r, 4), anyNumber(r), anyNumber(r))
		f := []Filter{OfPoint(anyText(r, 4), anyNumber(r)), OfRange(anyText(r, 4), anyText(r, 4)), OfEnds(anyNumber(r), anyNumber(r))}[r.IntN(3)]
		if r.IntN(4) == 0 && f.Kind == Point { // one that is near
			f.Key, f.Least = p.Key, p.End
		}
		from, to := f.Bounds()
		if f.Right() && f.Has(p) != between(f.Row(p), from, to) {
			t.Fatalf("%v, %v: %q, %q", f, p, from, to)
		}
		if got, ok := f.Pane(f.Row(p)); got != p || !ok {
			t.Fatalf("%v, %v: %v", f, p, got)
		}
		if f.Right() && f.Has(p) {
			had++
		}
	}
	if had < 10000 {
		t.Error("few were had:", had)
	}
}
