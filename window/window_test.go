package window

import (
	"math"
	"math/big"
	"math/rand/v2"
	"slices"
	"testing"
)

// Limits, told anew.
const (
	maxTime int64 = 1 << 40
	maxSpan int64 = 1 << 20
)

// numbers are of a window: none, small ones, limits and what is past them.
var numbers = []int64{math.MinInt64, -maxSpan, -4, -1, 0, 1, 2, 3, 4, 6, 15, 16, 17, 18, 32, 34, 1<<16 - 1, 1 << 16, 1<<16 + 1, 61681 * 17, maxSpan - 16, maxSpan - 1, maxSpan, maxSpan + 1, 1 << 21, math.MaxInt64}

// small are right windows of each kind whose times may be gone over one by one.
var small = []Window{OfTumbling(1), OfTumbling(2), OfTumbling(7), OfTumbling(10), OfTumbling(16), OfSliding(1, 1), OfSliding(5, 5), OfSliding(6, 2), OfSliding(6, 3), OfSliding(10, 5), OfSliding(12, 4), OfSliding(16, 1), OfSliding(15, 1), OfSliding(32, 2), OfSliding(48, 3), OfSession(1), OfSession(4), OfSession(10)}

// great are right windows of each kind, of numbers at and near the limits.
var great = []Window{OfTumbling(maxSpan), OfTumbling(maxSpan - 1), OfTumbling(999983), OfSliding(maxSpan, maxSpan), OfSliding(maxSpan, 1<<16), OfSliding(maxSpan-1, (maxSpan-1)/15), OfSliding(999999, 333333), OfSession(maxSpan), OfSession(maxSpan - 1)}

// wrong are windows that are not right: of no kind, of a number too little or too great, of a number that is another kind's.
var wrong = []Window{
	{}, {Size: 4}, {Kind: 4, Size: 4}, {Kind: 255, Gap: 4}, {Kind: 0, Gap: 4},
	OfTumbling(0), OfTumbling(-1), OfTumbling(math.MinInt64), OfTumbling(maxSpan + 1), OfTumbling(math.MaxInt64), {Kind: Tumbling, Size: 4, Slide: 4}, {Kind: Tumbling, Size: 4, Gap: 1}, {Kind: Tumbling, Size: 4, Slide: -1}, {Kind: Tumbling, Gap: 4},
	OfSliding(0, 0), OfSliding(4, 0), OfSliding(0, 4), OfSliding(4, 3), OfSliding(2, 4), OfSliding(17, 1), OfSliding(34, 2), OfSliding(-4, -2), OfSliding(-4, 2), OfSliding(4, -2), OfSliding(4, math.MinInt64), OfSliding(math.MinInt64, -1), OfSliding(maxSpan+16, 1<<16+1), OfSliding(1<<21, 1<<20), OfSliding(1<<21, 1<<21), {Kind: Sliding, Size: 4, Slide: 2, Gap: 1}, {Kind: Sliding, Gap: 4},
	OfSession(0), OfSession(-1), OfSession(math.MinInt64), OfSession(maxSpan + 1), OfSession(math.MaxInt64), {Kind: Session, Gap: 4, Size: 4}, {Kind: Session, Gap: 4, Slide: 4}, {Kind: Session, Size: 4},
}

// about are times about 0, and about the limits, such as are none among them.
func about() []int64 {
	var l []int64
	for by := int64(-50); by <= 50; by++ {
		l = append(l, by, maxTime+by, -maxTime+by)
	}
	return append(l, 12345678901, -12345678901, 999999999999, -999999999999, math.MinInt64, math.MinInt64+1, math.MaxInt64-1, math.MaxInt64, 1<<41, -1<<41)
}

func span(start, end int64) Span { return Span{start, end} }

// rightNow is the chapter's word of what is right, told anew: each number is held against its kind's limits.
func rightNow(w Window) bool {
	within := func(n int64) bool { return n > 0 && n < maxSpan+1 }
	switch {
	case w.Kind == 1:
		return within(w.Size) && w.Slide == 0 && w.Gap == 0
	case w.Kind == 3:
		return within(w.Gap) && w.Slide == 0 && w.Size == 0
	case w.Kind != 2 || !within(w.Size) || !within(w.Slide) || w.Gap != 0:
		return false
	}
	for times := int64(1); times < 17; times++ {
		if times*w.Slide == w.Size {
			return true
		}
	}
	return false
}

// ofNow is the chapter's table, told anew: it looks at all starts from which a window would have the time.
func ofNow(w Window, t int64) []Span {
	if !rightNow(w) || t < -maxTime || t > maxTime {
		return nil
	}
	if w.Kind == 3 {
		return []Span{span(t, t+w.Gap)}
	}
	step := w.Size
	if w.Kind == 2 {
		step = w.Slide
	}
	var l []Span
	for start := t - w.Size + 1; start <= t; start++ {
		if start%step == 0 {
			l = append(l, span(start, start+w.Size))
		}
	}
	return l
}

// isNow tells anew whether a span is a window of some time: it looks at all times that it has. It is for spans of few times, or none.
func isNow(w Window, s Span) bool {
	if w.Kind == 3 && rightNow(w) {
		return s.Start >= -maxTime && s.Start <= maxTime && s.End <= maxTime+w.Gap && length(s).Cmp(big.NewInt(w.Gap)) >= 0
	}
	for t := max(s.Start, -maxTime); t < s.End && t <= maxTime && t-s.Start <= 100; t++ {
		if slices.Contains(ofNow(w, t), s) {
			return true
		}
	}
	return false
}

func length(s Span) *big.Int { return new(big.Int).Sub(big.NewInt(s.End), big.NewInt(s.Start)) }

// P14.1: each maker lays its kind and its numbers, and nothing else, also where they may not be.
func TestMakers(t *testing.T) {
	if Tumbling != 1 || Sliding != 2 || Session != 3 {
		t.Error("kinds")
	}
	for _, n := range numbers {
		if w := OfTumbling(n); w != (Window{Kind: 1, Size: n}) {
			t.Error(w)
		}
		if w := OfSession(n); w != (Window{Kind: 3, Gap: n}) {
			t.Error(w)
		}
		for _, m := range numbers {
			if w := OfSliding(n, m); w != (Window{Kind: 2, Size: n, Slide: m}) {
				t.Error(w)
			}
		}
	}
}

// P14.1: those told by hand.
func TestRight(t *testing.T) {
	for _, w := range slices.Concat(small, great) {
		if !w.Right() {
			t.Errorf("%v is not right", w)
		}
	}
	for _, w := range wrong {
		if w.Right() {
			t.Errorf("%v is right", w)
		}
	}
}

// P14.1: each number of each kind with each other, against the chapter's words.
func TestRightOfAll(t *testing.T) {
	right := map[uint8]int{}
	for kind := range 256 {
		for _, size := range numbers {
			for _, slide := range numbers {
				for _, gap := range numbers {
					w := Window{uint8(kind), size, slide, gap}
					if w.Right() != rightNow(w) {
						t.Fatalf("%v: %t", w, w.Right())
					}
					if w.Right() {
						right[w.Kind]++
					}
				}
			}
		}
	}
	if len(right) != 3 || right[1] < 10 || right[2] < 20 || right[3] < 10 {
		t.Error("few are right:", right)
	}
}

// P14.1: how often a slide may go into a size, and what it may leave.
func TestRightSlides(t *testing.T) {
	for slide := int64(1); slide <= 70; slide++ {
		for size := int64(1); size <= 1200; size++ {
			if w := OfSliding(size, slide); w.Right() != (size%slide == 0 && size/slide <= 16) {
				t.Errorf("%v: %t", w, w.Right())
			}
		}
	}
}

// P14.2, P14.4: the chapter's examples.
func TestExamples(t *testing.T) {
	for _, x := range []struct {
		w    Window
		t    int64
		want []Span
	}{
		{OfTumbling(10), 25, []Span{{20, 30}}}, {OfTumbling(10), -1, []Span{{-10, 0}}}, {OfTumbling(10), 20, []Span{{20, 30}}},
		{OfSliding(10, 5), 12, []Span{{5, 15}, {10, 20}}},
		{OfSession(4), 7, []Span{{7, 11}}},
	} {
		if l := x.w.Of(x.t); !slices.Equal(l, x.want) {
			t.Errorf("%v of %d: %v", x.w, x.t, l)
		}
	}
	if s := Together(span(7, 11), span(9, 13)); s != span(7, 13) {
		t.Error(s)
	}
}

// P14.2: told by hand, below 0, at the limits of times, and of the greatest numbers.
func TestOfAtTheEdges(t *testing.T) {
	for _, x := range []struct {
		w    Window
		t    int64
		want []Span
	}{
		{OfTumbling(10), 0, []Span{{0, 10}}}, {OfTumbling(10), 9, []Span{{0, 10}}}, {OfTumbling(10), -10, []Span{{-10, 0}}}, {OfTumbling(10), -11, []Span{{-20, -10}}}, {OfTumbling(1), -3, []Span{{-3, -2}}},
		{OfSliding(10, 5), 0, []Span{{-5, 5}, {0, 10}}}, {OfSliding(10, 5), -1, []Span{{-10, 0}, {-5, 5}}}, {OfSliding(6, 2), -6, []Span{{-10, -4}, {-8, -2}, {-6, 0}}}, {OfSliding(7, 7), -7, []Span{{-7, 0}}}, {OfSliding(1, 1), 0, []Span{{0, 1}}},
		{OfSession(1), -7, []Span{{-7, -6}}}, {OfSession(maxSpan), 0, []Span{{0, maxSpan}}},
		{OfTumbling(10), maxTime, []Span{{maxTime - 6, maxTime + 4}}}, {OfTumbling(10), -maxTime, []Span{{-maxTime - 4, -maxTime + 6}}},
		{OfTumbling(maxSpan), maxTime, []Span{{maxTime, maxTime + maxSpan}}}, {OfTumbling(maxSpan), maxTime - 1, []Span{{maxTime - maxSpan, maxTime}}}, {OfTumbling(maxSpan), -maxTime, []Span{{-maxTime, -maxTime + maxSpan}}}, {OfTumbling(maxSpan), -1, []Span{{-maxSpan, 0}}},
		{OfSliding(maxSpan, maxSpan/2), -maxTime, []Span{{-maxTime - maxSpan/2, -maxTime + maxSpan/2}, {-maxTime, -maxTime + maxSpan}}},
		{OfSession(maxSpan), maxTime, []Span{{maxTime, maxTime + maxSpan}}}, {OfSession(4), -maxTime, []Span{{-maxTime, -maxTime + 4}}},
	} {
		if l := x.w.Of(x.t); !slices.Equal(l, x.want) {
			t.Errorf("%v of %d: %v", x.w, x.t, l)
		}
	}
}

// P14.2: all small windows at all times about the edges, against all starts.
func TestOf(t *testing.T) {
	for _, w := range small {
		for _, at := range about() {
			if l := w.Of(at); !slices.Equal(l, ofNow(w, at)) {
				t.Errorf("%v of %d: %v", w, at, l)
			}
		}
	}
}

// P14.2: great windows at some times, against all starts.
func TestOfGreat(t *testing.T) {
	r := rand.New(rand.NewPCG(14, 2))
	for _, w := range great {
		for _, at := range []int64{-maxTime, -1, 0, maxTime, r.Int64N(2*maxTime) - maxTime, r.Int64N(2*maxSpan) - maxSpan} {
			if l := w.Of(at); !slices.Equal(l, ofNow(w, at)) {
				t.Errorf("%v of %d: %v", w, at, l)
			}
		}
	}
}

// P14.2: nothing of what is no time; nothing of a window that is not right.
func TestOfNothing(t *testing.T) {
	for _, w := range slices.Concat(small, great) {
		for _, at := range []int64{maxTime + 1, -maxTime - 1, 1 << 41, -1 << 41, math.MaxInt64, math.MinInt64} {
			if l := w.Of(at); l != nil {
				t.Errorf("%v of %d: %v", w, at, l)
			}
		}
		if w.Of(maxTime) == nil || w.Of(-maxTime) == nil {
			t.Errorf("%v: nothing at the limits", w)
		}
	}
	for _, w := range wrong {
		for _, at := range about() {
			if l := w.Of(at); l != nil {
				t.Errorf("%v of %d: %v", w, at, l)
			}
		}
	}
}

// P14.3: told by hand.
func TestIsByHand(t *testing.T) {
	for _, x := range []struct {
		w    Window
		s    Span
		want bool
	}{
		{OfTumbling(10), span(0, 10), true}, {OfTumbling(10), span(-10, 0), true}, {OfTumbling(10), span(5, 15), false}, {OfTumbling(10), span(0, 9), false}, {OfTumbling(10), span(0, 11), false}, {OfTumbling(10), span(0, 20), false}, {OfTumbling(10), span(10, 0), false}, {OfTumbling(10), span(0, 0), false},
		{OfSliding(10, 5), span(5, 15), true}, {OfSliding(10, 5), span(-5, 5), true}, {OfSliding(10, 5), span(5, 10), false}, {OfSliding(10, 5), span(4, 14), false}, {OfSliding(10, 5), span(0, 5), false},
		// The last and the first one that have a time, and those past them.
		{OfTumbling(10), span(maxTime-6, maxTime+4), true}, {OfTumbling(10), span(maxTime+4, maxTime+14), false}, {OfTumbling(10), span(-maxTime-4, -maxTime+6), true}, {OfTumbling(10), span(-maxTime-14, -maxTime-4), false},
		{OfTumbling(maxSpan), span(maxTime, maxTime+maxSpan), true}, {OfTumbling(maxSpan), span(maxTime+maxSpan, maxTime+2*maxSpan), false}, {OfTumbling(maxSpan), span(-maxTime, -maxTime+maxSpan), true}, {OfTumbling(maxSpan), span(-maxTime-maxSpan, -maxTime), false},
		{OfSliding(maxSpan, 1<<16), span(-maxTime-15<<16, -maxTime+1<<16), true}, {OfSliding(maxSpan, 1<<16), span(-maxTime-maxSpan, -maxTime), false},
		{OfTumbling(maxSpan - 1), span(1048574, 2097149), false}, {OfTumbling(maxSpan - 1), span(1048575, 2097150), true}, {OfTumbling(maxSpan), span(maxSpan, 2*maxSpan), true}, {OfTumbling(maxSpan), span(maxSpan, 2*maxSpan-1), false},
		// Starts about the greatest ones that the chapter names, and numbers that run over.
		{OfTumbling(10), span(1<<41-2, 1<<41+8), false}, {OfTumbling(10), span(1<<41+8, 1<<41+18), false}, {OfTumbling(10), span(-1<<41+2, -1<<41+12), false}, {OfTumbling(10), span(-1<<41-8, -1<<41+2), false},
		{OfTumbling(1), span(math.MaxInt64, math.MinInt64), false}, {OfTumbling(2), span(math.MaxInt64-1, math.MinInt64), false}, {OfTumbling(2), span(math.MinInt64, math.MinInt64+2), false}, {OfTumbling(10), span(0, math.MinInt64), false}, {OfTumbling(10), span(0, math.MaxInt64), false}, {OfTumbling(10), span(math.MinInt64, math.MaxInt64), false},
	} {
		if x.w.Is(x.s) != x.want {
			t.Errorf("%v, %v: %t", x.w, x.s, !x.want)
		}
	}
}

// P14.3: sessions, told by hand.
func TestIsOfSessions(t *testing.T) {
	w := OfSession(4)
	for s, want := range map[Span]bool{
		span(3, 7): true, span(3, 8): true, span(3, 6): false, span(3, 3): false, span(3, -1): false, span(3, 1<<40): true, span(0, 0): false,
		span(maxTime, maxTime+4): true, span(maxTime, maxTime+5): false, span(maxTime, maxTime+3): false, span(maxTime-1, maxTime+4): true, span(maxTime+1, maxTime+5): false, span(maxTime+1, maxTime+4): false,
		span(-maxTime, -maxTime+4): true, span(-maxTime-1, -maxTime+3): false, span(-maxTime-1, 0): false, span(-maxTime, -maxTime+3): false,
		span(-maxTime, maxTime+4): true, span(-maxTime, maxTime+5): false, span(-maxTime, math.MaxInt64): false, span(0, math.MaxInt64): false, span(maxTime, math.MinInt64): false, span(-maxTime, math.MinInt64): false,
		span(math.MinInt64, math.MaxInt64): false, span(math.MinInt64, 0): false, span(math.MaxInt64, math.MinInt64): false, span(math.MaxInt64, math.MaxInt64): false, span(math.MaxInt64-3, math.MinInt64): false,
	} {
		if w.Is(s) != want {
			t.Errorf("%v: %t", s, !want)
		}
	}
	great := OfSession(maxSpan)
	if !great.Is(span(0, maxSpan)) || great.Is(span(0, maxSpan-1)) || !great.Is(span(maxTime, maxTime+maxSpan)) || great.Is(span(-maxTime, maxTime+maxSpan+1)) {
		t.Error("of the greatest gap")
	}
}

// P14.3: all small windows with all short spans about the edges, and with such as run over, against all times.
func TestIs(t *testing.T) {
	were := 0
	for _, w := range small {
		for _, start := range about() {
			for by := int64(-3); by <= 50; by++ {
				s := span(start, start+by) // which may run over
				if w.Is(s) != isNow(w, s) {
					t.Errorf("%v, %v: %t", w, s, w.Is(s))
				}
				if w.Is(s) {
					were++
				}
			}
		}
	}
	if were < 1000 {
		t.Error("few were windows:", were)
	}
}

// P14.3: the windows of great times and numbers are windows; one beside them is not.
func TestIsOfGreat(t *testing.T) {
	r := rand.New(rand.NewPCG(14, 3))
	for range 2000 {
		w := great[r.IntN(len(great)-2)] // no session
		for _, s := range w.Of(r.Int64N(2*maxTime+1) - maxTime) {
			if !w.Is(s) {
				t.Errorf("%v is no window of %v", s, w)
			}
			for _, x := range []Span{{s.Start - 1, s.End - 1}, {s.Start + 1, s.End + 1}, {s.Start - 1, s.End}, {s.Start, s.End + 1}, {s.Start, s.End - 1}, {s.Start, s.Start}, {s.End, s.Start}} {
				if w.Is(x) {
					t.Errorf("%v is a window of %v", x, w)
				}
			}
		}
	}
}

// P14.3: nothing is a window of what is not right.
func TestIsOfTheWrong(t *testing.T) {
	for _, w := range wrong {
		for _, start := range []int64{math.MinInt64, -1 << 41, -maxTime, -4, 0, 3, 4, maxTime, 1 << 41, math.MaxInt64} {
			for _, by := range []int64{math.MinInt64, -1, 0, 1, 2, 3, 4, 16, 17, 34, w.Size, w.Slide, w.Gap, maxSpan + 1, math.MaxInt64} {
				if s := span(start, start+by); w.Is(s) {
					t.Errorf("%v, %v", w, s)
				}
			}
		}
	}
}

// edges are of spans: about 0, and such as run over.
var edges = []int64{math.MinInt64, math.MinInt64 + 1, -1 << 41, -3, -2, -1, 0, 1, 2, 3, 4, 1 << 41, math.MaxInt64 - 1, math.MaxInt64}

func allSpans() []Span {
	var l []Span
	for _, a := range edges {
		for _, b := range edges {
			l = append(l, span(a, b))
		}
	}
	return l
}

// hasNow tells anew whether a span has a time, by numbers of any length.
func hasNow(s Span, t int64) bool {
	behind := length(Span{s.Start, t})
	return behind.Sign() >= 0 && behind.Cmp(length(s)) < 0
}

// P14.4: all spans with all times.
func TestHas(t *testing.T) {
	for _, s := range allSpans() {
		for _, at := range edges {
			if s.Has(at) != hasNow(s, at) {
				t.Errorf("%v, %d: %t", s, at, s.Has(at))
			}
			if s.End <= s.Start && s.Has(at) {
				t.Errorf("%v has %d", s, at)
			}
		}
	}
	if s := span(2, 5); s.Has(1) || !s.Has(2) || !s.Has(4) || s.Has(5) {
		t.Error("2 to 5")
	}
}

// P14.4: all spans with each other: if a time is in both, the start of one of them is.
func TestOverlaps(t *testing.T) {
	overlapped := 0
	for _, a := range allSpans() {
		for _, b := range allSpans() {
			want := hasNow(a, a.Start) && hasNow(b, a.Start) || hasNow(a, b.Start) && hasNow(b, b.Start)
			if a.Overlaps(b) != want || b.Overlaps(a) != want {
				t.Errorf("%v, %v: %t", a, b, !want)
			}
			if want {
				overlapped++
			}
		}
	}
	if overlapped < 1000 {
		t.Error("few overlapped:", overlapped)
	}
}

// P14.4: told by hand: such as touch, such as lie within, and such as have no time.
func TestOverlapsByHand(t *testing.T) {
	for _, x := range []struct {
		a, b Span
		want bool
	}{
		{span(0, 5), span(4, 9), true}, {span(0, 5), span(5, 9), false}, {span(0, 5), span(6, 9), false}, {span(0, 9), span(3, 4), true}, {span(0, 5), span(0, 5), true}, {span(0, 1), span(0, 1), true}, {span(0, 9), span(8, 20), true},
		{span(3, 3), span(0, 9), false}, {span(3, 3), span(3, 3), false}, {span(5, 3), span(0, 9), false}, {span(9, 0), span(9, 0), false}, {span(9, 0), span(3, 4), false}, {span(0, 0), span(0, 9), false}, {Span{}, Span{}, false},
		{span(math.MinInt64, math.MaxInt64), span(0, 1), true}, {span(math.MinInt64, 0), span(0, math.MaxInt64), false}, {span(math.MinInt64, 1), span(0, math.MaxInt64), true}, {span(math.MaxInt64, math.MinInt64), span(0, 1), false},
	} {
		if x.a.Overlaps(x.b) != x.want || x.b.Overlaps(x.a) != x.want {
			t.Errorf("%v, %v: %t", x.a, x.b, !x.want)
		}
	}
}

// P14.4: of none, of one, and of many; such as have no time count as they are.
func TestTogether(t *testing.T) {
	for _, x := range []struct {
		l    []Span
		want Span
	}{
		{nil, span(0, 0)}, {[]Span{}, span(0, 0)}, {[]Span{{7, 8}}, span(7, 8)}, {[]Span{{-9, -8}}, span(-9, -8)}, {[]Span{{8, 7}}, span(8, 7)}, {[]Span{{5, 5}}, span(5, 5)},
		{[]Span{{3, 5}, {-1, 4}, {8, 9}}, span(-1, 9)}, {[]Span{{3, 5}, {5, 7}}, span(3, 7)}, {[]Span{{0, 9}, {3, 4}}, span(0, 9)}, {[]Span{{3, 4}, {0, 9}}, span(0, 9)},
		{[]Span{{5, 6}, {9, 1}}, span(5, 6)}, {[]Span{{5, 6}, {1, 1}}, span(1, 6)}, {[]Span{{5, 6}, {2, -3}}, span(2, 6)}, {[]Span{{5, 6}, {9, 9}}, span(5, 9)}, {[]Span{{9, 1}, {8, 2}}, span(8, 2)},
		{[]Span{{-5, -4}, {-9, -8}}, span(-9, -4)}, {[]Span{{4, 5}, {8, 9}}, span(4, 9)},
		{[]Span{{math.MinInt64, 0}, {0, math.MaxInt64}}, span(math.MinInt64, math.MaxInt64)}, {[]Span{{math.MaxInt64, math.MinInt64}}, span(math.MaxInt64, math.MinInt64)},
	} {
		if s := Together(x.l...); s != x.want {
			t.Errorf("%v: %v", x.l, s)
		}
	}
	if s := Together(); s != span(0, 0) {
		t.Error(s)
	}
}

// P14.4: the least start and the greatest end, in whatever order.
func TestTogetherOfMany(t *testing.T) {
	r := rand.New(rand.NewPCG(14, 4))
	all := allSpans()
	for range 3000 {
		var l []Span
		var starts, ends []int64
		for range 1 + r.IntN(12) {
			s := all[r.IntN(len(all))]
			l, starts, ends = append(l, s), append(starts, s.Start), append(ends, s.End)
		}
		want := span(slices.Min(starts), slices.Max(ends))
		for range 3 {
			if s := Together(l...); s != want {
				t.Fatalf("%v: %v", l, s)
			}
			r.Shuffle(len(l), func(i, j int) { l[i], l[j] = l[j], l[i] })
		}
	}
}

// P14.5, and the rule that what is handed in is only read.
func TestMemory(t *testing.T) {
	for _, w := range slices.Concat(small, great) {
		l, again := w.Of(12), w.Of(12)
		l[0] = span(99, 99)
		_ = append(l, span(98, 98))
		if !slices.Equal(again, ofNow(w, 12)) || !slices.Equal(w.Of(12), again) {
			t.Errorf("%v: one answer shares memory with another", w)
		}
	}
	l := []Span{{7, 8}, {3, 5}, {9, 1}, {2, 2}, {-5, 50}}
	before := slices.Clone(l)
	if s := Together(l[:2]...); s != span(3, 8) || !slices.Equal(l, before) {
		t.Error(s, l)
	}
}

// P14.6: a time is in each of its windows, and in no other one that might be.
func TestInItsWindows(t *testing.T) {
	for _, w := range small {
		for _, at := range about() {
			l := w.Of(at)
			for _, s := range l {
				if !s.Has(at) || !w.Is(s) {
					t.Errorf("%v of %d: %v", w, at, s)
				}
			}
			if w.Kind == Session || l == nil {
				continue
			}
			for start := at - 60; start <= at+10; start++ {
				for long := range int64(60) {
					s := span(start, start+long)
					if s.Has(at) && w.Is(s) != slices.Contains(l, s) {
						t.Fatalf("%v of %d: %v", w, at, s)
					}
				}
			}
		}
	}
}

// P14.6: tumbling windows part all times: each is in one, and behind one's end the next one begins.
func TestTumblingParts(t *testing.T) {
	for _, w := range slices.Concat(small, great) {
		if w.Kind != Tumbling {
			continue
		}
		for _, from := range []int64{-maxTime, -150, maxTime - 300} {
			s := w.Of(from)[0]
			for at := from; at <= from+300; at++ {
				if at == s.End {
					s = span(s.End, s.End+w.Size)
				}
				if l := w.Of(at); !slices.Equal(l, []Span{s}) {
					t.Fatalf("%v of %d: %v, not %v", w, at, l, s)
				}
			}
		}
		if l, next := w.Of(0)[0], w.Of(w.Size)[0]; l != span(0, w.Size) || next != span(w.Size, 2*w.Size) || w.Of(w.Size - 1)[0] != l {
			t.Errorf("%v: %v, %v", w, l, next)
		}
	}
}

// P14.6: a time has Size by Slide sliding windows, one Slide apart.
func TestSlidingApart(t *testing.T) {
	for _, w := range slices.Concat(small, great) {
		for _, at := range about() {
			l := w.Of(at)
			if w.Kind != Sliding || l == nil {
				continue
			}
			if int64(len(l)) != w.Size/w.Slide {
				t.Errorf("%v of %d: %v", w, at, l)
			}
			for i, s := range l {
				if s != span(l[0].Start+int64(i)*w.Slide, l[0].Start+int64(i)*w.Slide+w.Size) {
					t.Errorf("%v of %d: %v", w, at, l)
				}
			}
		}
	}
}
