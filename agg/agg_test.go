package agg

import (
	"cmp"
	"math"
	"math/big"
	"math/rand/v2"
	"slices"
	"strings"
	"testing"

	"tidepool/api"
	"tidepool/key"
)

const least, most = math.MinInt64, math.MaxInt64

// edges are values at which something runs over, or that may be taken for none, and some small ones.
func edges() []int64 {
	return []int64{least, least + 1, least / 2, -1 << 40, -7, -1, 0, 1, 3, 7, 1 << 40, most / 2, most/2 + 1, most - 1, most}
}

// someValue is of any size, each size as likely as another.
func someValue(r *rand.Rand) int64 { return int64(r.Uint64()) >> r.IntN(64) }

// someValues are at most that many, some of them edges.
func someValues(r *rand.Rand, upTo int) []int64 {
	var l []int64
	for range r.IntN(upTo + 1) {
		if r.IntN(4) == 0 {
			l = append(l, edges()[r.IntN(len(edges()))])
		} else {
			l = append(l, someValue(r))
		}
	}
	return l
}

// total is a sum of numbers of any length.
func total(l ...int64) *big.Int {
	sum := new(big.Int)
	for _, n := range l {
		sum.Add(sum, big.NewInt(n))
	}
	return sum
}

// ofAll is what is told of values, worked out by another way than All's.
func ofAll(l []int64) (Agg, api.Errno) {
	if len(l) == 0 {
		return Agg{}, api.OK
	}
	sum := total(l...)
	if !sum.IsInt64() {
		return Agg{}, api.ErrOverflow
	}
	sorted := slices.Sorted(slices.Values(l))
	return Agg{Count: int64(len(l)), Sum: sum.Int64(), Min: sorted[0], Max: sorted[len(l)-1]}, api.OK
}

func wantAgg(t *testing.T, name string, got Agg, e api.Errno, want Agg, wantErrno api.Errno) {
	t.Helper()
	if got != want || e != wantErrno {
		t.Errorf("%s: %d, %d; want %d, %d", name, got, e, want, wantErrno)
	}
}

func pane(k string, start, end int64) key.Pane { return key.Pane{Key: k, Start: start, End: end} }

func row(k string, start, end, v int64) Row { return Row{Pane: pane(k, start, end), Agg: One(v)} }

// P5.1 to P5.4: the chapter's examples.
func TestExamples(t *testing.T) {
	a, e := All(3, -1, 5)
	wantAgg(t, "All(3, -1, 5)", a, e, Agg{3, 7, -1, 5}, api.OK)
	a, e = One(most).Put(1)
	wantAgg(t, "One(2^63 - 1).Put(1)", a, e, One(most), api.ErrOverflow)
	both, _ := All(3, -1)
	a, e = Join(both, Agg{}, One(5))
	wantAgg(t, "Join(of 3 and -1, none, of 5)", a, e, Agg{3, 7, -1, 5}, api.OK)
	x, y, z := row("a", 0, 10, 1), row("a", 5, 9, 2), row("b", 0, 1, 3)
	if got := Sort(false, x, y, z); !slices.Equal(got, []Row{y, x, z}) {
		t.Errorf("in primary order: %v", got)
	}
	if got := Sort(true, x, y, z); !slices.Equal(got, []Row{z, y, x}) {
		t.Errorf("in secondary order: %v", got)
	}
}

// P5.1: a value alone.
func TestOne(t *testing.T) {
	for _, v := range edges() {
		a := One(v)
		if a != (Agg{1, v, v, v}) || !a.Right() || a.Blank() {
			t.Errorf("One(%d): %d, %v, %v", v, a, a.Right(), a.Blank())
		}
		all, e := All(v)
		wantAgg(t, "All of one", all, e, a, api.OK)
	}
}

// P5.1: none; and sums at the edges, which leave the numbers and come back, or don't.
func TestAll(t *testing.T) {
	for _, c := range []struct {
		l    []int64
		want Agg
		e    api.Errno
	}{
		{nil, Agg{}, api.OK}, {[]int64{}, Agg{}, api.OK}, {[]int64{0}, Agg{1, 0, 0, 0}, api.OK}, {[]int64{0, 0}, Agg{2, 0, 0, 0}, api.OK},
		{[]int64{5, 3, 9}, Agg{3, 17, 3, 9}, api.OK}, {[]int64{-5, -3, -9}, Agg{3, -17, -9, -3}, api.OK}, {[]int64{4, 4}, Agg{2, 8, 4, 4}, api.OK}, {[]int64{-1, 1}, Agg{2, 0, -1, 1}, api.OK},
		{[]int64{most, 1, -1}, Agg{3, most, -1, most}, api.OK}, {[]int64{least, -1, 1}, Agg{3, least, least, 1}, api.OK}, {[]int64{most, least}, Agg{2, -1, least, most}, api.OK},
		{[]int64{most, most, least, least}, Agg{4, -2, least, most}, api.OK}, {[]int64{most - 1, 1}, Agg{2, most, 1, most - 1}, api.OK}, {[]int64{least + 1, -1}, Agg{2, least, least + 1, -1}, api.OK},
		{[]int64{most, 1}, Agg{}, api.ErrOverflow}, {[]int64{least, -1}, Agg{}, api.ErrOverflow}, {[]int64{-1, most, 2}, Agg{}, api.ErrOverflow}, {[]int64{most, most, 2}, Agg{}, api.ErrOverflow}, {[]int64{least, least}, Agg{}, api.ErrOverflow},
	} {
		got, e := All(c.l...)
		wantAgg(t, "All", got, e, c.want, c.e)
	}
	if a, e := All(); a != (Agg{}) || e != api.OK {
		t.Errorf("All(): %d, %d", a, e)
	}
}

// P5.1: held against values worked out another way.
func TestAllOfMany(t *testing.T) {
	r := rand.New(rand.NewPCG(5, 1))
	seen := map[api.Errno]int{}
	for range 20000 {
		l := someValues(r, 12)
		want, wantErrno := ofAll(l)
		got, e := All(l...)
		wantAgg(t, "All", got, e, want, wantErrno)
		if !got.Right() || got.Blank() != (len(l) == 0 || e != api.OK) {
			t.Errorf("All(%d): %d is right: %v, blank: %v", l, got, got.Right(), got.Blank())
		}
		seen[e]++
	}
	if seen[api.OK] == 0 || seen[api.ErrOverflow] == 0 || len(seen) != 2 {
		t.Errorf("errors seen: %v", seen)
	}
}

// P5.1: what is blank, and what is right; any one thing that is off is told.
func TestRightAndBlank(t *testing.T) {
	for _, c := range []struct {
		a            Agg
		right, blank bool
	}{
		{Agg{}, true, true},
		{Agg{0, 1, 0, 0}, false, false}, {Agg{0, 0, 1, 0}, false, false}, {Agg{0, 0, 0, 1}, false, false}, {Agg{0, 0, -1, 1}, false, false}, {Agg{0, 5, 5, 5}, false, false},
		{Agg{1, 0, 0, 0}, true, false}, {Agg{1, -4, -4, -4}, true, false}, {Agg{1, least, least, least}, true, false}, {Agg{1, most, most, most}, true, false},
		{Agg{1, 2, 1, 2}, false, false}, {Agg{1, 1, 1, 2}, false, false}, {Agg{1, 3, 2, 2}, false, false}, {Agg{1, 2, 3, 1}, false, false},
		{Agg{2, 0, 0, 0}, true, false}, {Agg{2, 5, 2, 3}, true, false}, {Agg{2, 9, 3, 2}, false, false}, {Agg{2, 6, 3, 3}, true, false}, {Agg{2, 77, 1, 1}, true, false}, {Agg{2, 0, least, most}, true, false}, {Agg{2, 0, most, least}, false, false},
		{Agg{3, 0, 1, 0}, false, false}, {Agg{most, most, -1, 1}, true, false}, {Agg{most, 0, 1, -1}, false, false},
		{Agg{-1, 0, 0, 0}, false, false}, {Agg{-1, 2, 2, 2}, false, false}, {Agg{least, 0, 0, 0}, false, false}, {Agg{-2, 5, 2, 3}, false, false},
	} {
		if c.a.Right() != c.right || c.a.Blank() != c.blank {
			t.Errorf("%d: right %v, blank %v", c.a, c.a.Right(), c.a.Blank())
		}
	}
}

// P5.2: a value more, of none and of several; at the edges of count and sum.
func TestPut(t *testing.T) {
	for _, v := range edges() {
		a, e := Agg{}.Put(v)
		wantAgg(t, "Put to the blank one", a, e, One(v), api.OK)
	}
	for _, c := range []struct {
		a    Agg
		v    int64
		want Agg
		e    api.Errno
	}{
		{Agg{3, 7, -1, 5}, -4, Agg{4, 3, -4, 5}, api.OK}, {Agg{3, 7, -1, 5}, 9, Agg{4, 16, -1, 9}, api.OK}, {Agg{3, 7, -1, 5}, 2, Agg{4, 9, -1, 5}, api.OK}, {One(0), 0, Agg{2, 0, 0, 0}, api.OK}, {One(4), 6, Agg{2, 10, 4, 6}, api.OK}, {One(-4), -6, Agg{2, -10, -6, -4}, api.OK},
		{One(most), 0, Agg{2, most, 0, most}, api.OK}, {One(most), -1, Agg{2, most - 1, -1, most}, api.OK}, {One(most - 1), 1, Agg{2, most, 1, most - 1}, api.OK}, {One(most), least, Agg{2, -1, least, most}, api.OK},
		{One(most), 1, One(most), api.ErrOverflow}, {One(1), most, One(1), api.ErrOverflow}, {One(most), most, One(most), api.ErrOverflow},
		{One(least), -1, One(least), api.ErrOverflow}, {One(-1), least, One(-1), api.ErrOverflow}, {One(least), 0, Agg{2, least, least, 0}, api.OK},
		{Agg{most - 1, 3, 0, 2}, 5, Agg{most, 8, 0, 5}, api.OK}, {Agg{most, 3, 0, 2}, 5, Agg{most, 3, 0, 2}, api.ErrOverflow}, {Agg{most, 3, 0, 2}, 0, Agg{most, 3, 0, 2}, api.ErrOverflow}, {Agg{most, most, 0, 2}, 1, Agg{most, most, 0, 2}, api.ErrOverflow},
	} {
		before := c.a
		got, e := c.a.Put(c.v)
		wantAgg(t, "Put", got, e, c.want, c.e)
		if c.a != before {
			t.Errorf("Put(%d) changed %d", c.v, before)
		}
	}
}

// P5.2: none, blank ones alone and among others, sums and counts at the edges; counts and sums count as a whole.
func TestJoin(t *testing.T) {
	few := Agg{3, 7, -1, 5}
	for _, c := range []struct {
		l    []Agg
		want Agg
		e    api.Errno
	}{
		{nil, Agg{}, api.OK}, {[]Agg{}, Agg{}, api.OK}, {[]Agg{{}}, Agg{}, api.OK}, {[]Agg{{}, {}}, Agg{}, api.OK},
		{[]Agg{few}, few, api.OK}, {[]Agg{few, {}}, few, api.OK}, {[]Agg{{}, few}, few, api.OK}, {[]Agg{{}, One(-5), {}}, One(-5), api.OK}, {[]Agg{{}, One(5), {}}, One(5), api.OK}, {[]Agg{One(0), {}}, One(0), api.OK},
		{[]Agg{One(3), {}, One(8)}, Agg{2, 11, 3, 8}, api.OK}, {[]Agg{One(-8), {}, One(-3)}, Agg{2, -11, -8, -3}, api.OK}, {[]Agg{few, few}, Agg{6, 14, -1, 5}, api.OK}, {[]Agg{few, {2, 0, -9, 9}}, Agg{5, 7, -9, 9}, api.OK}, {[]Agg{{2, 0, -9, 9}, few}, Agg{5, 7, -9, 9}, api.OK},
		{[]Agg{One(most), One(1), One(-1)}, Agg{3, most, -1, most}, api.OK}, {[]Agg{One(least), One(-1), One(1)}, Agg{3, least, least, 1}, api.OK}, {[]Agg{One(most), One(most), One(least), One(least)}, Agg{4, -2, least, most}, api.OK},
		{[]Agg{One(most), One(1)}, Agg{}, api.ErrOverflow}, {[]Agg{One(least), {}, One(-1)}, Agg{}, api.ErrOverflow}, {[]Agg{One(most), One(most), One(2)}, Agg{}, api.ErrOverflow},
		{[]Agg{{most - 1, 4, 0, 1}, One(2)}, Agg{most, 6, 0, 2}, api.OK}, {[]Agg{{most, 4, 0, 1}, {}}, Agg{most, 4, 0, 1}, api.OK}, {[]Agg{{most, 4, 0, 1}, One(0)}, Agg{}, api.ErrOverflow}, {[]Agg{{most, 0, 0, 1}, {most, 0, 0, 1}, {2, 0, 0, 1}}, Agg{}, api.ErrOverflow}, {[]Agg{{most, most, 0, 1}, One(1)}, Agg{}, api.ErrOverflow},
	} {
		got, e := Join(c.l...)
		wantAgg(t, "Join", got, e, c.want, c.e)
	}
}

// P5.2: aggregates made by hand that are not right: only blank ones count for nothing, and it is the whole sum that counts, of counts, too.
func TestWrongOnes(t *testing.T) {
	for _, c := range []struct {
		l    []Agg
		want Agg
		e    api.Errno
	}{
		{[]Agg{{0, 5, 0, 0}, One(3)}, Agg{1, 8, 0, 3}, api.OK}, {[]Agg{One(3), {0, 0, 0, 9}}, Agg{1, 3, 0, 9}, api.OK}, {[]Agg{{0, 0, -2, 0}}, Agg{0, 0, -2, 0}, api.OK},
		{[]Agg{{most, 0, 1, 1}, {1, 0, 1, 1}, {-1, 0, 1, 1}}, Agg{most, 0, 1, 1}, api.OK}, {[]Agg{{least, 0, 1, 1}, {-1, 0, 1, 1}}, Agg{}, api.ErrOverflow},
		{[]Agg{{2, 1, 4, 3}, {2, 1, 8, 7}}, Agg{4, 2, 4, 7}, api.OK},
		{[]Agg{One(3), {-1, -3, 3, 3}, One(9)}, Agg{1, 9, 3, 9}, api.OK}, {[]Agg{{0, 0, 5, 0}, One(0), One(7)}, Agg{2, 7, 0, 7}, api.OK},
	} {
		for _, l := range [][]Agg{c.l, reversed(c.l)} {
			got, e := Join(l...)
			wantAgg(t, "Join", got, e, c.want, c.e)
		}
	}
	got, e := Agg{-1, 4, 2, 2}.Put(1)
	wantAgg(t, "Put to a wrong one", got, e, Agg{0, 5, 1, 2}, api.OK)
	got, e = Agg{0, 4, 0, 0}.Put(1)
	wantAgg(t, "Put to a wrong one of no count", got, e, Agg{1, 5, 0, 1}, api.OK)
	got, e = Agg{-1, most, 2, 2}.Put(1)
	wantAgg(t, "Put to a wrong one whose sum is full", got, e, Agg{-1, most, 2, 2}, api.ErrOverflow)
}

func reversed(l []Agg) []Agg {
	out := slices.Clone(l)
	slices.Reverse(out)
	return out
}

// risingKeys are keys each of which is less than the next.
func risingKeys() []string {
	return []string{"", "\x00", "\x00\x00", "\x00\xFF", "A", "a", "a\x00", "aa", "b", "\x7F", "\x80", "\xFF", "\xFF\xFF"}
}

func risingNumbers() []int64 { return []int64{least, -1 << 40, -2, -1, 0, 1, 9, 10, 256, most} }

// P5.3: panes held against panes, by hand.
func TestOrdersByHand(t *testing.T) {
	for _, c := range []struct {
		a, b               key.Pane
		primary, secondary int
	}{
		{pane("a", 0, 10), pane("a", 0, 10), 0, 0},
		{pane("a", 0, 10), pane("b", 0, 10), -1, -1}, {pane("a", 0, 10), pane("aa", 0, 10), -1, -1}, {pane("", 0, 10), pane("\x00", 0, 10), -1, -1}, {pane("\x7F", 0, 0), pane("\xFF", 0, 0), -1, -1},
		{pane("a", 0, 9), pane("a", 0, 10), -1, -1}, {pane("a", 0, -10), pane("a", 0, -9), -1, -1}, {pane("a", 0, 10), pane("a", 1, 10), -1, -1}, {pane("a", -1, 10), pane("a", 0, 10), -1, -1},
		{pane("a", 0, 10), pane("b", 0, 9), -1, 1}, {pane("a", 5, 9), pane("a", 0, 10), -1, -1}, {pane("a", 5, 10), pane("b", 0, 10), -1, -1}, {pane("a", 5, 10), pane("b", 0, 5), -1, 1},
		{pane("a", 0, least), pane("a", 0, most), -1, -1}, {pane("a", least, 0), pane("a", most, 0), -1, -1}, {pane("b", most, least), pane("a", least, most), 1, -1},
	} {
		if p, s := Primary(c.a, c.b), Secondary(c.a, c.b); p != c.primary || s != c.secondary {
			t.Errorf("%v, %v: %d, %d", c.a, c.b, p, s)
		}
		if p, s := Primary(c.b, c.a), Secondary(c.b, c.a); p != -c.primary || s != -c.secondary {
			t.Errorf("%v, %v: %d, %d", c.b, c.a, p, s)
		}
	}
}

// P5.3: the orders are those of the rows that are written (chapter 4), and 0 is told of one pane alone.
func TestOrdersAreWritten(t *testing.T) {
	r := rand.New(rand.NewPCG(5, 2))
	keys, numbers := risingKeys(), risingNumbers()
	some := func() key.Pane {
		return pane(keys[r.IntN(len(keys))], numbers[r.IntN(len(numbers))], numbers[r.IntN(len(numbers))])
	}
	for range 50000 {
		a, b := some(), some()
		if r.IntN(2) == 0 {
			b.Key = a.Key
		}
		if r.IntN(2) == 0 {
			b.End = a.End
		}
		if got, want := Primary(a, b), strings.Compare(key.Primary(a), key.Primary(b)); got != want {
			t.Errorf("Primary(%v, %v): %d, want %d", a, b, got, want)
		}
		if got, want := Secondary(a, b), strings.Compare(key.Secondary(a), key.Secondary(b)); got != want {
			t.Errorf("Secondary(%v, %v): %d, want %d", a, b, got, want)
		}
		if one := a == b; one != (Primary(a, b) == 0) || one != (Secondary(a, b) == 0) {
			t.Errorf("%v, %v: %d, %d", a, b, Primary(a, b), Secondary(a, b))
		}
	}
}

// P5.4: no rows, one, and some that stand alike, which stay as they stood.
func TestSort(t *testing.T) {
	for _, second := range []bool{false, true} {
		if got := Sort(second); len(got) != 0 {
			t.Errorf("Sort of none: %v", got)
		}
		if got := Sort(second, []Row{}...); len(got) != 0 {
			t.Errorf("Sort of an empty list: %v", got)
		}
		one := row("a", 3, 5, 7)
		if got := Sort(second, one); !slices.Equal(got, []Row{one}) {
			t.Errorf("Sort of one: %v", got)
		}
	}
	l := []Row{row("b", 0, 1, 1), row("a", 0, 10, 2), row("a", 5, 9, 9), row("a", 5, 9, 4), row("b", 0, 1, 0), row("a", 4, 9, 5), {Pane: pane("a", 5, 9), Agg: Agg{-1, 0, 0, 0}}}
	if got, want := Sort(false, l...), []Row{l[5], l[2], l[3], l[6], l[1], l[0], l[4]}; !slices.Equal(got, want) {
		t.Errorf("in primary order: %v", got)
	}
	if got, want := Sort(true, l...), []Row{l[0], l[4], l[5], l[2], l[3], l[6], l[1]}; !slices.Equal(got, want) {
		t.Errorf("in secondary order: %v", got)
	}
}

// P5.4: many rows; each stands where the order, and where it stood, put it. The rows' sums tell where they stood.
func TestSortMany(t *testing.T) {
	r := rand.New(rand.NewPCG(5, 3))
	keys := risingKeys()
	for _, size := range []int{2, 3, 5, 12, 40, 300, 5000} {
		var l []Row
		for i := range size {
			l = append(l, row(keys[r.IntN(len(keys))], int64(r.IntN(4)), int64(r.IntN(5)), int64(i)))
		}
		for second, order := range map[bool]func(p key.Pane) string{false: key.Primary, true: key.Secondary} {
			want := slices.SortedFunc(slices.Values(l), func(a, b Row) int {
				return cmp.Or(strings.Compare(order(a.Pane), order(b.Pane)), cmp.Compare(a.Agg.Sum, b.Agg.Sum))
			})
			if got := Sort(second, l...); !slices.Equal(got, want) {
				t.Errorf("%d rows, second %v: %v", size, second, got)
			}
		}
	}
}

// P5.4: rows are the same one by one, in all that they have.
func TestSame(t *testing.T) {
	l := []Row{row("a", 0, 10, 1), row("b", -5, 5, 2)}
	if !Same(nil, nil) || !Same(nil, []Row{}) || !Same([]Row{}, nil) || !Same(l, slices.Clone(l)) || !Same(l[:0], nil) {
		t.Error("rows that are the same")
	}
	for _, other := range [][]Row{nil, {}, l[:1], l[1:], {l[1], l[0]}, {l[0], l[0]}, {l[0], l[1], l[1]}, {l[0], l[1], {}}, {{}, l[0], l[1]}} {
		if Same(l, other) || Same(other, l) {
			t.Errorf("%v, %v", l, other)
		}
	}
	for i, change := range []func(r *Row){
		func(r *Row) { r.Pane.Key = "" }, func(r *Row) { r.Pane.Key += "\x00" }, func(r *Row) { r.Pane.Start++ }, func(r *Row) { r.Pane.End-- },
		func(r *Row) { r.Agg.Count++ }, func(r *Row) { r.Agg.Sum++ }, func(r *Row) { r.Agg.Min-- }, func(r *Row) { r.Agg.Max++ }, func(r *Row) { r.Agg = Agg{} },
	} {
		for k := range l {
			other := slices.Clone(l)
			change(&other[k])
			if Same(l, other) || Same(other, l) {
				t.Errorf("change %d of row %d is not told", i, k)
			}
		}
	}
}

// P5.5: lists are only read, what lies behind their length included; and what is answered twice stands in two places.
func TestOnlyReads(t *testing.T) {
	values := []int64{9, most, 1, -1, 8}
	valuesBefore := slices.Clone(values)
	if a, e := All(values[1:4]...); a != (Agg{3, most, -1, most}) || e != api.OK {
		t.Errorf("All: %d, %d", a, e)
	}
	aggs := []Agg{One(9), {}, One(3), {}, One(-1), One(8)}
	aggsBefore := slices.Clone(aggs)
	if a, e := Join(aggs[1:5]...); a != (Agg{2, 2, -1, 3}) || e != api.OK {
		t.Errorf("Join: %d, %d", a, e)
	}
	rows := []Row{row("z", 0, 1, 1), row("b", 0, 1, 1), row("a", 0, 2, 2), row("c", 0, 0, 3), row("", 0, 1, 1)}
	rowsBefore := slices.Clone(rows)
	for _, second := range []bool{false, true} {
		a, b := Sort(second, rows[1:4]...), Sort(second, rows[1:4]...)
		want := slices.Clone(b)
		for i := range a {
			a[i] = Row{}
		}
		_ = append(a, row("x", 9, 9, 9))
		if !Same(b, want) || len(b) != 3 {
			t.Errorf("a change of one answer is seen in another one: %v", b)
		}
		_ = append(Sort(second, rows[1:1]...), row("x", 9, 9, 9))
	}
	Same(rows[1:3], rows[2:4])
	if !slices.Equal(values, valuesBefore) || !slices.Equal(aggs, aggsBefore) || !slices.Equal(rows, rowsBefore) {
		t.Errorf("%d, %d, %v", values, aggs, rows)
	}
}

// parted are values in rows of which each has some, or none.
func parted(r *rand.Rand, l []int64) [][]int64 {
	rows := make([][]int64, 1+r.IntN(5))
	for _, v := range l {
		i := r.IntN(len(rows))
		rows[i] = append(rows[i], v)
	}
	return rows
}

// P5.6: values that are parted, and joined, in any order, have the aggregate of all, if all fits.
func TestPartedAndJoined(t *testing.T) {
	r := rand.New(rand.NewPCG(5, 4))
	joined := 0
	for range 20000 {
		l := someValues(r, 10)
		want, wantErrno := All(l...)
		var aggs []Agg
		fits := true
		for _, part := range parted(r, l) {
			a, e := All(part...)
			fits = fits && e == api.OK
			aggs = append(aggs, a)
		}
		if !fits {
			continue
		}
		for range 4 {
			a, e := Join(aggs...)
			wantAgg(t, "Join of parts", a, e, want, wantErrno)
			if !a.Right() {
				t.Errorf("%d joined are not right: %d", aggs, a)
			}
			r.Shuffle(len(aggs), func(i, k int) { aggs[i], aggs[k] = aggs[k], aggs[i] })
		}
		joined++
	}
	if joined < 5000 {
		t.Errorf("only %d were joined", joined)
	}
}

// P5.6: what is put one by one is what All tells, as long as it fits; a value that does not fit leaves what was; all that comes of it is right.
func TestPutOneByOne(t *testing.T) {
	r := rand.New(rand.NewPCG(5, 5))
	refused := 0
	for range 20000 {
		var a Agg
		var in []int64
		for _, v := range someValues(r, 10) {
			want, wantErrno := ofAll(append(slices.Clone(in), v))
			before := a
			got, e := a.Put(v)
			if wantErrno != api.OK {
				want = before
				refused++
			} else {
				in = append(in, v)
			}
			wantAgg(t, "Put", got, e, want, wantErrno)
			if !got.Right() || got.Blank() != (len(in) == 0) {
				t.Errorf("%d: %d is right: %v", in, got, got.Right())
			}
			a = got
		}
		all, e := All(in...)
		wantAgg(t, "All of what was put", all, e, a, api.OK)
	}
	if refused == 0 {
		t.Error("nothing was refused")
	}
}

// P5.6: one value joined is one value put, where it fits.
func TestPutIsJoin(t *testing.T) {
	for _, first := range edges() {
		for _, second := range edges() {
			for _, v := range edges() {
				a, e := All(first, second)
				if e != api.OK {
					continue
				}
				put, putErrno := a.Put(v)
				joined, joinErrno := Join(a, One(v))
				if putErrno != joinErrno || putErrno == api.OK && put != joined || putErrno != api.OK && (put != a || joined != Agg{}) {
					t.Errorf("%d and %d: put %d, %d; joined %d, %d", a, v, put, putErrno, joined, joinErrno)
				}
			}
		}
	}
}
