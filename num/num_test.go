package num

import (
	"math"
	"math/big"
	"math/rand/v2"
	"slices"
	"testing"

	"tidepool/api"
)

// edges are numbers at which something runs over, or nearly does, and some small ones.
func edges() []int64 {
	var l []int64
	for _, n := range []int64{0, 3, 7, 10, 1 << 20, 1 << 31, 1 << 32, 3037000499, 1 << 40, 1 << 62, math.MaxInt64 / 3, math.MaxInt64} {
		for by := int64(-2); by <= 2; by++ {
			l = append(l, n+by, -(n + by)) // above 2^63 - 1 they go on at -2^63: edges, too
		}
	}
	slices.Sort(l)
	return slices.Compact(l)
}

// someNumber is of any size, each size as likely as another.
func someNumber(r *rand.Rand) int64 {
	return int64(r.Uint64()) >> r.IntN(64)
}

// pairs are all edges with each other, products' edges, and some of any numbers.
func pairs() [][2]int64 {
	var l [][2]int64
	for _, a := range edges() {
		for _, b := range edges() {
			l = append(l, [2]int64{a, b})
		}
		if a == 0 {
			continue
		}
		for by := int64(-2); by <= 2; by++ {
			l = append(l, [2]int64{a, math.MaxInt64/a + by}, [2]int64{a, math.MinInt64/a + by})
		}
	}
	r := rand.New(rand.NewPCG(3, 1))
	for range 20000 {
		l = append(l, [2]int64{someNumber(r), someNumber(r)})
	}
	return l
}

func wantFitting(t *testing.T, name string, got int64, ok bool, want *big.Int) {
	t.Helper()
	if ok != want.IsInt64() || ok && got != want.Int64() || !ok && got != 0 {
		t.Errorf("%s: %d, %v; it is %s", name, got, ok, want)
	}
}

func wantSum(t *testing.T, l []int64) {
	t.Helper()
	want := new(big.Int)
	for _, n := range l {
		want.Add(want, big.NewInt(n))
	}
	got, e := Sum(l...)
	wantFitting(t, "Sum", got, e == api.OK, want)
	if e != api.OK && e != api.ErrOverflow {
		t.Errorf("Sum(%d): error %d", l, e)
	}
}

// P3.1 to P3.4: the chapter's examples.
func TestExamples(t *testing.T) {
	for name, call := range map[string]func() (int64, bool){
		"Add": func() (int64, bool) { return Add(math.MaxInt64, 1) },
		"Sub": func() (int64, bool) { return Sub(math.MinInt64, 1) },
		"Mul": func() (int64, bool) { return Mul(1<<32, 1<<31) },
	} {
		if n, ok := call(); n != 0 || ok {
			t.Errorf("%s: %d, %v", name, n, ok)
		}
	}
	if n, e := Sum(math.MaxInt64, 1, -1); n != math.MaxInt64 || e != api.OK {
		t.Errorf("Sum: %d, %d", n, e)
	}
	quotient, e := FloorDiv(-7, 3)
	rest, f := FloorMod(-7, 3)
	down, g := Down(-7, 3)
	if quotient != -3 || rest != 2 || down != -9 || e != api.OK || f != api.OK || g != api.OK {
		t.Errorf("FloorDiv, FloorMod, Down: %d, %d, %d; %d, %d, %d", quotient, rest, down, e, f, g)
	}
	if a, b := Clamp(5, 1, 3), Clamp(5, 9, 3); a != 3 || b != 9 {
		t.Errorf("Clamp: %d, %d", a, b)
	}
}

// P3.1: at the edges, told by hand.
func TestTwoAtTheEdges(t *testing.T) {
	const least, most = math.MinInt64, math.MaxInt64
	for _, c := range []struct {
		name string
		call func(a, b int64) (int64, bool)
		a, b int64
		want int64
		fits bool
	}{
		{"Add", Add, most, 0, most, true}, {"Add", Add, most - 1, 1, most, true}, {"Add", Add, 1, most, 0, false}, {"Add", Add, most, most, 0, false},
		{"Add", Add, least, 0, least, true}, {"Add", Add, least + 1, -1, least, true}, {"Add", Add, -1, least, 0, false}, {"Add", Add, least, least, 0, false}, {"Add", Add, least, most, -1, true},
		{"Sub", Sub, most, most, 0, true}, {"Sub", Sub, least, least, 0, true}, {"Sub", Sub, 0, least, 0, false}, {"Sub", Sub, -1, least, most, true}, {"Sub", Sub, most, -1, 0, false}, {"Sub", Sub, 0, most, -most, true}, {"Sub", Sub, least, most, 0, false}, {"Sub", Sub, most, least, 0, false}, {"Sub", Sub, -2, most, 0, false}, {"Sub", Sub, -1, most, least, true},
		{"Mul", Mul, least, -1, 0, false}, {"Mul", Mul, -1, least, 0, false}, {"Mul", Mul, most, -1, -most, true}, {"Mul", Mul, -1, most, -most, true}, {"Mul", Mul, least, 1, least, true}, {"Mul", Mul, 1, least, least, true},
		{"Mul", Mul, least, 0, 0, true}, {"Mul", Mul, 0, least, 0, true}, {"Mul", Mul, -1 << 32, 1 << 31, least, true}, {"Mul", Mul, -1 << 32, -1 << 31, 0, false}, {"Mul", Mul, least, least, 0, false}, {"Mul", Mul, 1 << 32, 1 << 32, 0, false},
	} {
		if n, ok := c.call(c.a, c.b); n != c.want || ok != c.fits {
			t.Errorf("%s(%d, %d): %d, %v; want %d, %v", c.name, c.a, c.b, n, ok, c.want, c.fits)
		}
	}
}

// P3.1: held against numbers of any length.
func TestTwo(t *testing.T) {
	for _, p := range pairs() {
		a, b := big.NewInt(p[0]), big.NewInt(p[1])
		n, ok := Add(p[0], p[1])
		wantFitting(t, "Add", n, ok, new(big.Int).Add(a, b))
		n, ok = Sub(p[0], p[1])
		wantFitting(t, "Sub", n, ok, new(big.Int).Sub(a, b))
		n, ok = Mul(p[0], p[1])
		wantFitting(t, "Mul", n, ok, new(big.Int).Mul(a, b))
		n, ok = Abs(p[0])
		wantFitting(t, "Abs", n, ok, new(big.Int).Abs(a))
	}
}

// P3.1: only the least number has none.
func TestAbs(t *testing.T) {
	for _, c := range []struct {
		n, want int64
		fits    bool
	}{
		{0, 0, true}, {5, 5, true}, {-5, 5, true}, {math.MaxInt64, math.MaxInt64, true}, {-math.MaxInt64, math.MaxInt64, true}, {math.MinInt64, 0, false},
	} {
		if n, ok := Abs(c.n); n != c.want || ok != c.fits {
			t.Errorf("Abs(%d): %d, %v", c.n, n, ok)
		}
	}
}

// P3.2: none, one, and sums at the edges that leave the numbers on either side, more than once, and come back or don't.
func TestSum(t *testing.T) {
	const least, most = math.MinInt64, math.MaxInt64
	for _, c := range []struct {
		l    []int64
		want int64
		e    api.Errno
	}{
		{nil, 0, api.OK}, {[]int64{}, 0, api.OK}, {[]int64{0, 0}, 0, api.OK}, {[]int64{1, -2, 3}, 2, api.OK},
		{[]int64{most}, most, api.OK}, {[]int64{least}, least, api.OK}, {[]int64{most, least}, -1, api.OK},
		{[]int64{most, 1}, 0, api.ErrOverflow}, {[]int64{most, 1, -1}, most, api.OK}, {[]int64{1, most, -1}, most, api.OK},
		{[]int64{least, -1}, 0, api.ErrOverflow}, {[]int64{least, -1, 1}, least, api.OK},
		{[]int64{most, most, most, most, least, least, least, least}, -4, api.OK},
		{[]int64{least, least, least, least, most, most, most, most}, -4, api.OK},
		{[]int64{most, most, 2}, 0, api.ErrOverflow},   // 2^64: its last 64 digits are 0
		{[]int64{most, most, 7}, 0, api.ErrOverflow},   // 2^64 and 5
		{[]int64{least, least}, 0, api.ErrOverflow},    // -2^64
		{[]int64{least, least, 5}, 0, api.ErrOverflow}, // 5 above -2^64
		{[]int64{least, least, least, least}, 0, api.ErrOverflow},
		{[]int64{most, 1, least, least}, least, api.OK}, {[]int64{most, 1, least, least, -1}, 0, api.ErrOverflow}, {[]int64{most, 1, least, least, most, 1}, 0, api.OK},
	} {
		if n, e := Sum(c.l...); n != c.want || e != c.e {
			t.Errorf("Sum(%d): %d, %d; want %d, %d", c.l, n, e, c.want, c.e)
		}
	}
	if n, e := Sum(); n != 0 || e != api.OK {
		t.Errorf("Sum(): %d, %d", n, e)
	}
}

// P3.2: held against numbers of any length.
func TestSumOfMany(t *testing.T) {
	r := rand.New(rand.NewPCG(3, 2))
	l := edges()
	for range 5000 {
		var row []int64
		for range r.IntN(30) {
			row = append(row, someNumber(r), l[r.IntN(len(l))])
		}
		wantSum(t, row)
		wantSum(t, append(row, l[0], l[len(l)-1]))
		wantSum(t, turnedBack(row))
	}
	for _, a := range l {
		for _, b := range l {
			wantSum(t, []int64{a, b})
			wantSum(t, []int64{a, b, a, -b})
		}
	}
	wantSum(t, slices.Repeat([]int64{math.MaxInt64}, 100000))
	wantSum(t, slices.Repeat([]int64{math.MinInt64}, 100000))
	wantSum(t, slices.Concat(slices.Repeat([]int64{math.MinInt64}, 5000), slices.Repeat([]int64{math.MaxInt64}, 5000)))
}

// turnedBack is a row behind which most of it is taken back, so that its sum is small, whatever was added on the way.
func turnedBack(row []int64) []int64 {
	out := slices.Clone(row)
	for _, n := range row {
		out = append(out, ^n) // -n less 1, which always fits
	}
	return out
}

// P3.2, and the rule that what is handed in is only read: a list, and what lies behind its length.
func TestSumOnlyReads(t *testing.T) {
	memory := []int64{9, math.MaxInt64, 1, -1, 8}
	before := slices.Clone(memory)
	l := memory[1:4]
	for range 2 {
		if n, e := Sum(l...); n != math.MaxInt64 || e != api.OK {
			t.Errorf("Sum: %d, %d", n, e)
		}
	}
	if !slices.Equal(memory, before) {
		t.Errorf("%d, it was %d", memory, before)
	}
}

// P3.3: numbers that are told by hand.
func TestFloors(t *testing.T) {
	const least, most = math.MinInt64, math.MaxInt64
	for _, c := range []struct{ n, d, quotient, rest, down int64 }{
		{7, 3, 2, 1, 6}, {6, 3, 2, 0, 6}, {-6, 3, -2, 0, -6}, {-5, 3, -2, 1, -6}, {-1, 3, -1, 2, -3}, {0, 1, 0, 0, 0}, {0, most, 0, 0, 0},
		{2, 3, 0, 2, 0}, {most, 1, most, 0, most}, {most, most, 1, 0, most}, {most - 1, most, 0, most - 1, 0}, {most, 2, 1<<62 - 1, 1, most - 1},
		{least, 1, least, 0, least}, {least, 2, -1 << 62, 0, least}, {least, 1 << 62, -2, 0, least}, {least + 1, most, -1, 0, -most}, {-1, most, -1, most - 1, -most},
	} {
		quotient, e := FloorDiv(c.n, c.d)
		rest, f := FloorMod(c.n, c.d)
		down, g := Down(c.n, c.d)
		if quotient != c.quotient || rest != c.rest || down != c.down || e != api.OK || f != api.OK || g != api.OK {
			t.Errorf("%d by %d: %d, %d, %d; %d, %d, %d", c.n, c.d, quotient, rest, down, e, f, g)
		}
	}
}

// P3.3: a multiple below the least number; the floor and what is left fit all the same.
func TestDownDoesNotFit(t *testing.T) {
	for _, c := range []struct{ n, d, quotient, rest int64 }{
		{math.MinInt64, 3, -3074457345618258603, 1}, {math.MinInt64 + 1, 5, -1844674407370955162, 3},
		{math.MinInt64, math.MaxInt64, -2, math.MaxInt64 - 1}, {math.MinInt64 + 1, 1<<62 + 1, -2, 3},
	} {
		if n, e := Down(c.n, c.d); n != 0 || e != api.ErrOverflow {
			t.Errorf("Down(%d, %d): %d, %d", c.n, c.d, n, e)
		}
		if n, e := FloorDiv(c.n, c.d); n != c.quotient || e != api.OK {
			t.Errorf("FloorDiv(%d, %d): %d, %d", c.n, c.d, n, e)
		}
		if n, e := FloorMod(c.n, c.d); n != c.rest || e != api.OK {
			t.Errorf("FloorMod(%d, %d): %d, %d", c.n, c.d, n, e)
		}
	}
}

// P3.3: by nothing, and by less.
func TestFloorsByNoDivisor(t *testing.T) {
	for name, call := range map[string]func(n, d int64) (int64, api.Errno){"FloorDiv": FloorDiv, "FloorMod": FloorMod, "Down": Down} {
		for _, n := range edges() {
			for _, d := range []int64{0, -1, -2, -3, -math.MaxInt64, math.MinInt64} {
				if got, e := call(n, d); got != 0 || e != api.ErrArg {
					t.Errorf("%s(%d, %d): %d, %d", name, n, d, got, e)
				}
			}
		}
	}
}

// P3.3 and P3.5: held against numbers of any length; n is d times the floor and what is left, which is from 0 to d - 1.
func TestFloorsOfAny(t *testing.T) {
	for _, p := range pairs() {
		n, d := p[0], p[1]
		if d <= 0 {
			continue
		}
		wantQuotient, wantRest := new(big.Int).DivMod(big.NewInt(n), big.NewInt(d), new(big.Int))
		quotient, e := FloorDiv(n, d)
		rest, f := FloorMod(n, d)
		if e != api.OK || f != api.OK || big.NewInt(quotient).Cmp(wantQuotient) != 0 || big.NewInt(rest).Cmp(wantRest) != 0 {
			t.Errorf("%d by %d: %d, %d; %d, %d", n, d, quotient, rest, e, f)
		}
		if rest < 0 || rest >= d || n != d*quotient+rest {
			t.Errorf("%d by %d: %d and %d are not it together", n, d, quotient, rest)
		}
		down, g := Down(n, d)
		wantFitting(t, "Down", down, g == api.OK, new(big.Int).Mul(wantQuotient, big.NewInt(d)))
		if g != api.OK && g != api.ErrOverflow {
			t.Errorf("Down(%d, %d): error %d", n, d, g)
		}
		if g == api.OK && (down > n || n-down >= d || down%d != 0) {
			t.Errorf("Down(%d, %d): %d", n, d, down)
		}
	}
}

// P3.4: below, at, between and above two numbers; and the first of two that stand the wrong way round, wherever n is.
func TestClamp(t *testing.T) {
	const least, most = math.MinInt64, math.MaxInt64
	for _, c := range []struct{ n, least, most, want int64 }{
		{0, 1, 3, 1}, {1, 1, 3, 1}, {2, 1, 3, 2}, {3, 1, 3, 3}, {4, 1, 3, 3}, {-9, -5, -5, -5}, {-5, -5, -5, -5}, {9, -5, -5, -5},
		{least, least, most, least}, {most, least, most, most}, {0, most, most, most}, {0, least, least, least}, {most, 0, 0, 0}, {least, 0, 0, 0},
		{2, 9, 3, 9}, {3, 9, 3, 9}, {5, 9, 3, 9}, {9, 9, 3, 9}, {10, 9, 3, 9}, {most, 9, 3, 9}, {least, 9, 3, 9}, {0, most, least, most}, {least, most, least, most}, {most, most, least, most},
	} {
		if got := Clamp(c.n, c.least, c.most); got != c.want {
			t.Errorf("Clamp(%d, %d, %d): %d, want %d", c.n, c.least, c.most, got, c.want)
		}
	}
}

// P3.4: what comes out stands between the two, and is n where n does.
func TestClampOfAny(t *testing.T) {
	r := rand.New(rand.NewPCG(3, 3))
	for _, p := range pairs() {
		n, least, most := someNumber(r), min(p[0], p[1]), max(p[0], p[1])
		got := Clamp(n, least, most)
		if got < least || got > most || n >= least && n <= most && got != n || n < least && got != least || n > most && got != most {
			t.Errorf("Clamp(%d, %d, %d): %d", n, least, most, got)
		}
	}
}

// P3.5: what Add tells Sub takes back, and the other way round.
func TestTakenBack(t *testing.T) {
	fitted := 0
	for _, p := range pairs() {
		if sum, ok := Add(p[0], p[1]); ok {
			fitted++
			if n, ok := Sub(sum, p[1]); !ok || n != p[0] {
				t.Errorf("%d and %d: %d, from which %d, %v", p[0], p[1], sum, n, ok)
			}
		}
		if difference, ok := Sub(p[0], p[1]); ok {
			if n, ok := Add(difference, p[1]); !ok || n != p[0] {
				t.Errorf("%d less %d: %d, from which %d, %v", p[0], p[1], difference, n, ok)
			}
		}
	}
	if fitted == 0 {
		t.Error("no sum fits")
	}
}

// P3.5: one sum, in whatever order.
func TestSumInAnyOrder(t *testing.T) {
	r := rand.New(rand.NewPCG(3, 4))
	l := edges()
	for range 300 {
		var row []int64
		for range 1 + r.IntN(8) {
			row = append(row, l[r.IntN(len(l))])
		}
		for _, row := range [][]int64{row, turnedBack(row)} {
			want, wantErrno := Sum(row...)
			for range 20 {
				r.Shuffle(len(row), func(i, j int) { row[i], row[j] = row[j], row[i] })
				if n, e := Sum(row...); n != want || e != wantErrno {
					t.Fatalf("Sum(%d): %d, %d; in another order %d, %d", row, n, e, want, wantErrno)
				}
			}
		}
	}
}
