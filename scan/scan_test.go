package scan

import (
	"fmt"
	"math"
	"math/rand/v2"
	"slices"
	"strings"
	"testing"

	"tidepool/tree"
)

// lettered is a table of keys, a letter each; each has its place, from 1 on, as a value.
func lettered(letters string) *tree.Tree { return planted(strings.Split(letters, "")...) }

func planted(keys ...string) *tree.Tree {
	t := tree.New()
	for i, k := range keys {
		t.Put(k, i+1)
	}
	return t
}

func random(seed uint64) *rand.Rand { return rand.New(rand.NewPCG(seed, 13)) }

// plain is a scan told anew: it looks at all keys of a table each time.
type plain struct {
	from, to string
	back     bool
	at       []string // the key told last, if there is one
}

func (p *plain) next(t *tree.Tree) (tree.Hit, bool) {
	l := t.All()
	if p.back {
		slices.Reverse(l)
	}
	for _, h := range l {
		within := h.Key >= p.from && (p.to == "" || h.Key < p.to)
		if within && p.behind(h.Key) {
			return h, true
		}
	}
	return tree.Hit{}, false
}

func (p *plain) behind(k string) bool {
	return len(p.at) == 0 || !p.back && k > p.at[0] || p.back && k < p.at[0]
}

func (p *plain) tell(t *tree.Tree) (tree.Hit, bool) {
	h, ok := p.next(t)
	if ok {
		p.at = []string{h.Key}
	}
	return h, ok
}

func (p *plain) page(t *tree.Tree, n int) (l []tree.Hit, done bool) {
	for range max(n, 0) {
		h, ok := p.tell(t)
		if !ok {
			break
		}
		l = append(l, h)
	}
	_, more := p.next(t)
	return l, !more
}

func (p *plain) skip(k string) bool {
	if !p.behind(k) {
		return false
	}
	p.at = []string{k}
	return true
}

// place holds a scan's place, and what comes next in a table, against what was told anew.
func place(t *testing.T, s *Scan, p *plain, x *tree.Tree) {
	t.Helper()
	want := ""
	if len(p.at) > 0 {
		want = p.at[0]
	}
	if k, ok := s.At(); k != want || ok != (len(p.at) > 0) {
		t.Fatalf("%+v: At tells %q, %t; not %q", *p, k, ok, want)
	}
	h, is := p.next(x)
	for range 2 { // Peek does not go on
		if got, ok := s.Peek(x); got != h || ok != is {
			t.Fatalf("%+v: Peek tells %v, %t; not %v, %t", *p, got, ok, h, is)
		}
	}
}

// keys writes the keys of hits, one behind the other.
func keys(l []tree.Hit) string {
	var b strings.Builder
	for _, h := range l {
		b.WriteString(h.Key)
	}
	return b.String()
}

// edges are bounds, and keys, about and between those of a table, and such as are hard to hold against each other.
var edges = []string{"", "\x00", "a", "a\x00", "b", "bb", "c", "cz", "d", "e", "\xff", "\xff\xff"}

// each calls with all bounds, both ways.
func each(call func(from, to string, back bool)) {
	for _, from := range edges {
		for _, to := range edges {
			call(from, to, false)
			call(from, to, true)
		}
	}
}

// shapes are tables of none, few and many of the edges, and of keys far from them.
func shapes() []*tree.Tree {
	many := planted(edges...)
	for i := range 40 {
		many.Put(fmt.Sprintf("c%03d", i), -i)
	}
	return []*tree.Tree{tree.New(), {}, lettered("abcd"), lettered("d"), planted(""), planted("", "b", "\xff"), planted(edges...), many}
}

// P13.1, P13.2: the chapter's examples.
func TestExamples(t *testing.T) {
	x := lettered("abcd")
	s := New("b", "d", false)
	if l, done := s.Page(x, 5); keys(l) != "bc" || !done {
		t.Error(l, done)
	}
	s = New("b", "", true)
	if l, done := s.Page(x, 2); keys(l) != "dc" || done {
		t.Error(l, done)
	}
	if h, ok := s.Next(x); h != (tree.Hit{Key: "b", Val: 2}) || !ok {
		t.Error(h, ok)
	}
	if h, ok := s.Next(x); h != (tree.Hit{}) || ok {
		t.Error(h, ok)
	}
	s = New("a", "", false)
	if h, ok := s.Next(x); h != (tree.Hit{Key: "a", Val: 1}) || !ok {
		t.Error(h, ok)
	}
	x.Delete("b")
	x.Delete("c")
	if h, ok := s.Next(x); h != (tree.Hit{Key: "d", Val: 4}) || !ok {
		t.Error(h, ok)
	}
}

// All promises: what a nil scan answers.
func TestNilScan(t *testing.T) {
	var s *Scan
	for _, x := range []*tree.Tree{nil, tree.New(), lettered("abc")} {
		if h, ok := s.Peek(x); h != (tree.Hit{}) || ok {
			t.Error(h, ok)
		}
		if h, ok := s.Next(x); h != (tree.Hit{}) || ok {
			t.Error(h, ok)
		}
		for _, n := range []int{math.MinInt, -1, 0, 1, math.MaxInt} {
			if l, done := s.Page(x, n); l != nil || !done {
				t.Error(n, l, done)
			}
		}
	}
	if s.Skip("") || s.Skip("a") || s.Copy() != nil {
		t.Error("nil")
	}
	if k, ok := s.At(); k != "" || ok {
		t.Error(k, ok)
	}
}

// All promises: in a nil tree nothing comes next, and the scan stays where it is.
func TestNilTree(t *testing.T) {
	x := lettered("abcd")
	each(func(from, to string, back bool) {
		s, p := New(from, to, back), &plain{from: from, to: to, back: back}
		for range 3 {
			if h, ok := s.Peek(nil); h != (tree.Hit{}) || ok {
				t.Error(h, ok)
			}
			if h, ok := s.Next(nil); h != (tree.Hit{}) || ok {
				t.Error(h, ok)
			}
			for _, n := range []int{-1, 0, 1, math.MaxInt} {
				if l, done := s.Page(nil, n); l != nil || !done {
					t.Error(n, l, done)
				}
			}
			place(t, s, p, x)
			s.Next(x)
			p.tell(x)
		}
		if n := Count(nil, from, to); n != 0 {
			t.Error(n)
		}
	})
}

// P13.1: what is told one behind the other, in all tables, by all bounds; behind the end nothing is told, and the place stays.
func TestNext(t *testing.T) {
	for _, x := range shapes() {
		each(func(from, to string, back bool) {
			s, p := New(from, to, back), &plain{from: from, to: to, back: back}
			place(t, s, p, x)
			for end := 0; end < 2; {
				h, is := p.tell(x)
				if got, ok := s.Next(x); got != h || ok != is {
					t.Fatalf("%q to %q, %t: %v, %t; not %v, %t", from, to, back, got, ok, h, is)
				}
				place(t, s, p, x)
				if !is {
					end++
				}
			}
		})
	}
	if New("a", "b", true) == New("a", "b", true) {
		t.Error("two scans are one")
	}
}

// P13.1: a blank scan is one of all keys, forward.
func TestBlank(t *testing.T) {
	s := &Scan{}
	if k, ok := s.At(); k != "" || ok {
		t.Error(k, ok)
	}
	if l, done := s.Page(lettered("bca"), 9); keys(l) != "abc" || !done {
		t.Error(l, done)
	}
}

// P13.1, P13.3: an empty upper bound is none, but an empty key that was told, or skipped to, is a place.
func TestEmptyKey(t *testing.T) {
	x := planted("", "a")
	for i, c := range []struct {
		back, skip bool
		want       string
	}{{false, false, "'' 'a'"}, {true, false, "'a' ''"}, {false, true, "'a'"}, {true, true, ""}} {
		s := New("", "", c.back)
		if c.skip && !s.Skip("") {
			t.Error(i, "Skip")
		}
		var l []string
		for {
			h, ok := s.Next(x)
			if !ok {
				break
			}
			l = append(l, "'"+h.Key+"'")
		}
		if got := strings.Join(l, " "); got != c.want {
			t.Errorf("%d: %s, not %s", i, got, c.want)
		}
		if _, ok := s.At(); !ok {
			t.Error(i, "At")
		}
	}
}

// P13.2: pages of all sizes, below 0 and past all keys included, and whether they are the last ones.
func TestPage(t *testing.T) {
	for _, x := range shapes() {
		each(func(from, to string, back bool) {
			for _, n := range []int{math.MinInt, -1, 0, 1, 2, 3, 5, 1000} {
				s, p := New(from, to, back), &plain{from: from, to: to, back: back}
				for range 3 {
					want, end := p.page(x, n)
					if l, done := s.Page(x, n); !slices.Equal(l, want) || done != end {
						t.Fatalf("%q to %q, %t, %d: %v, %t; not %v, %t", from, to, back, n, l, done, want, end)
					}
					place(t, s, p, x)
				}
			}
		})
	}
	if l, done := New("", "", true).Page(lettered("abc"), math.MaxInt); keys(l) != "cba" || !done {
		t.Error(l, done)
	}
}

// P13.2: a page that is full tells whether it is the last one by what is there, not by what is out of the bounds.
func TestDone(t *testing.T) {
	x := lettered("abcde")
	for i, c := range []struct {
		from, to string
		back     bool
		n        int
		want     string
		done     bool
	}{
		{"b", "d", false, 1, "b", false}, {"b", "d", false, 2, "bc", true}, {"b", "d", false, 3, "bc", true},
		{"b", "d", true, 1, "c", false}, {"b", "d", true, 2, "cb", true}, {"b", "d", true, 3, "cb", true},
		{"b", "", false, 4, "bcde", true}, {"", "d", true, 3, "cba", true},
		{"b", "d", false, 0, "", false}, {"b", "d", true, -5, "", false},
		{"bb", "c", false, 0, "", true}, {"bb", "c", true, -5, "", true}, {"d", "b", false, 2, "", true}, {"d", "b", true, 2, "", true}, {"c", "c", false, 2, "", true},
	} {
		if l, done := New(c.from, c.to, c.back).Page(x, c.n); keys(l) != c.want || done != c.done {
			t.Errorf("%d: %v, %t", i, l, done)
		}
	}
}

// P13.3: a text behind the place is the place from then on, within the bounds or not; another one changes nothing.
func TestSkip(t *testing.T) {
	for _, x := range []*tree.Tree{lettered("abcd"), planted("", "b", "\xff")} {
		each(func(from, to string, back bool) {
			for _, first := range edges {
				for _, next := range edges {
					s, p := New(from, to, back), &plain{from: from, to: to, back: back}
					if !s.Skip(first) || !p.skip(first) {
						t.Fatal(first)
					}
					place(t, s, p, x)
					if got, want := s.Skip(next), p.skip(next); got != want || want != (!back && next > first || back && next < first) {
						t.Fatalf("Skip(%q) behind %q: %t", next, first, got)
					}
					place(t, s, p, x)
					h, is := p.tell(x)
					if got, ok := s.Next(x); got != h || ok != is {
						t.Fatalf("%+v: %v, %t; not %v, %t", *p, got, ok, h, is)
					}
					if k, told := s.At(); told && s.Skip(k) {
						t.Fatalf("skips to %q, where it is", k)
					}
				}
			}
		})
	}
}

// P13.3: what is skipped to is not told, nor is what is passed by.
func TestSkipTells(t *testing.T) {
	x := lettered("abcdef")
	for i, c := range []struct {
		back bool
		skip string
		want string
	}{{false, "c", "def"}, {false, "cc", "def"}, {false, "f", ""}, {false, "", "bcdef"}, {true, "c", "b"}, {true, "cc", "cb"}, {true, "zz", "fedcb"}, {true, "", ""}, {true, "b", ""}, {true, "a", ""}} {
		s := New("b", "", c.back)
		if !s.Skip(c.skip) {
			t.Error(i)
		}
		if l, done := s.Page(x, 9); keys(l) != c.want || !done {
			t.Errorf("%d: %v, %t", i, l, done)
		}
	}
}

// P13.4: how many keys there are between all bounds, however a scan would go.
func TestCount(t *testing.T) {
	for _, x := range shapes() {
		each(func(from, to string, back bool) {
			l, _ := New(from, to, back).Page(x, math.MaxInt)
			want := 0
			for _, h := range x.All() {
				if h.Key >= from && (to == "" || h.Key < to) {
					want++
				}
			}
			if n := Count(x, from, to); n != want || n != len(l) {
				t.Errorf("%q to %q: %d, not %d", from, to, n, want)
			}
		})
	}
}

// P13.4: a copy has the same bounds and place, goes on alike, and neither moves the other.
func TestCopy(t *testing.T) {
	x := planted(edges...)
	each(func(from, to string, back bool) {
		for moves := range 4 {
			s, p := New(from, to, back), &plain{from: from, to: to, back: back}
			for range moves {
				s.Next(x)
				p.tell(x)
			}
			c, d := s.Copy(), s.Copy()
			for _, one := range []*Scan{c, s, d} { // each goes to its end while those behind it must stay
				if one == c && (c == s || c == d) {
					t.Fatal("a copy is the same scan")
				}
				place(t, one, p, x)
				want, _ := (&plain{from, to, back, p.at}).page(x, 99)
				if l, done := one.Page(x, 99); !slices.Equal(l, want) || !done {
					t.Fatalf("%+v: %v, not %v", *p, l, want)
				}
			}
		}
	})
}

// shape writes all nodes of a table, and what its keys have.
func shape(x *tree.Tree) string { return fmt.Sprint(x.Places(), x.All(), x.Len(), x.Check()) }

// P13.5: a table is only read, and a page is no other page's memory.
func TestOnlyReads(t *testing.T) {
	x := planted(edges...)
	before := shape(x)
	each(func(from, to string, back bool) {
		s := New(from, to, back)
		c := s.Copy()
		one, _ := s.Page(x, 3)
		two, _ := c.Page(x, 3)
		want := slices.Clone(two)
		more, _ := s.Page(x, 3)
		rest := slices.Clone(more)
		_ = append(one, tree.Hit{Key: "?", Val: -7})
		one = one[:cap(one)]
		for i := range one {
			one[i] = tree.Hit{Key: "?", Val: -7}
		}
		if again, _ := c.Page(x, 3); !slices.Equal(two, want) || !slices.Equal(more, rest) || !slices.Equal(again, rest) {
			t.Error(two, want, more, again, rest)
		}
		Count(x, from, to)
		s.Skip("c")
	})
	if now := shape(x); now != before {
		t.Errorf("%s, not %s", now, before)
	}
}

// P13.6: back and forth tell the same, and pages of any sizes are one walk.
func TestOneWalk(t *testing.T) {
	for seed := range uint64(40) {
		r := random(seed)
		x := tree.New()
		for range r.IntN(300) {
			x.Put(fmt.Sprintf("%03d", r.IntN(500)), r.IntN(99))
		}
		from, to := fmt.Sprintf("%03d", r.IntN(300)), fmt.Sprintf("%03d", 200+r.IntN(300))
		if r.IntN(4) == 0 {
			to = ""
		}
		whole, _ := New(from, to, false).Page(x, math.MaxInt)
		back, _ := New(from, to, true).Page(x, math.MaxInt)
		slices.Reverse(back)
		if !slices.Equal(whole, back) {
			t.Fatalf("%v, and back %v", whole, back)
		}
		s := New(from, to, false)
		var l []tree.Hit
		for done := false; !done; {
			var page []tree.Hit
			n := r.IntN(9)
			if page, done = s.Page(x, n); len(page) > n || !done && len(page) != n {
				t.Fatal(n, page, done)
			}
			l = append(l, page...)
		}
		if !slices.Equal(l, whole) {
			t.Fatalf("%v, by pages %v", whole, l)
		}
	}
}

// P13.6: keys come and go meanwhile: what is told rises (or falls), is told once, and was there then; what is there all along is told.
func TestChanges(t *testing.T) {
	for seed := range uint64(60) {
		r := random(seed)
		x, stays := tree.New(), map[string]bool{}
		for i := range 200 {
			k := fmt.Sprintf("%03d", r.IntN(400))
			x.Put(k, i)
			stays[k] = stays[k] || r.IntN(3) == 0
		}
		from, to, back := fmt.Sprintf("%03d", r.IntN(100)), fmt.Sprintf("%03d", 250+r.IntN(150)), seed%2 == 1
		s, p := New(from, to, back), &plain{from: from, to: to, back: back}
		var told []string
		for {
			for range r.IntN(6) { // those that stay may have other values
				k := fmt.Sprintf("%03d", r.IntN(400))
				if stays[k] || r.IntN(2) == 0 {
					x.Put(k, r.IntN(1000))
				} else {
					x.Delete(k)
				}
			}
			place(t, s, p, x)
			h, is := p.tell(x)
			got, ok := s.Next(x)
			if got != h || ok != is {
				t.Fatal(got, ok, h, is)
			}
			if !ok {
				break
			}
			if v, there := x.Get(got.Key); !there || v != got.Val {
				t.Fatal(got, "is not there")
			}
			told = append(told, got.Key)
		}
		checkTold(t, told, stays, from, to, back)
	}
}

// checkTold is P13.6, of keys that were told.
func checkTold(t *testing.T, told []string, stays map[string]bool, from, to string, back bool) {
	t.Helper()
	for i, k := range told {
		if k < from || k >= to || i > 0 && (back && k >= told[i-1] || !back && k <= told[i-1]) {
			t.Fatalf("%q is told out of order, or out of the bounds: %v", k, told)
		}
	}
	for k, is := range stays {
		if is && k >= from && k < to && !slices.Contains(told, k) {
			t.Fatalf("%q is there all along, and is not told: %v", k, told)
		}
	}
}

// P13.6: the table may be another one each time; keys that come in behind the end are told then.
func TestOtherTables(t *testing.T) {
	s := New("b", "", false)
	for i, c := range []struct{ letters, want string }{{"abd", "b"}, {"bce", "c"}, {"abc", ""}, {"", ""}, {"bcdef", "d"}, {"df", "f"}, {"abcdef", ""}, {"gh", "g"}} {
		h, ok := s.Next(lettered(c.letters))
		if h.Key != c.want || ok != (c.want != "") {
			t.Errorf("%d: %v, %t", i, h, ok)
		}
	}
	b := New("b", "h", true)
	for i, c := range []struct{ letters, want string }{{"abh", "b"}, {"cdefgh", ""}, {"a", ""}} {
		h, ok := b.Next(lettered(c.letters))
		if h.Key != c.want || ok != (c.want != "") {
			t.Errorf("%d: %v, %t", i, h, ok)
		}
	}
}

// anyKey is a key, or a bound, of few.
func anyKey(r *rand.Rand) string {
	if r.IntN(20) == 0 {
		return edges[r.IntN(len(edges))]
	}
	return fmt.Sprintf("%02d", r.IntN(60))
}

// All promises: a walk of all calls, on tables that change, held against a scan told anew.
func TestWalk(t *testing.T) {
	for seed := range uint64(300) {
		r := random(seed)
		x := tree.New()
		for range r.IntN(60) {
			x.Put(anyKey(r), r.IntN(99))
		}
		p := &plain{from: anyKey(r), to: anyKey(r), back: r.IntN(2) == 0}
		if r.IntN(2) == 0 {
			p.from, p.to = "", ""
		}
		s := New(p.from, p.to, p.back)
		for range 40 {
			switch k := anyKey(r); r.IntN(6) {
			case 0:
				x.Put(k, r.IntN(99))
			case 1:
				x.Delete(k)
			case 2:
				h, is := p.tell(x)
				if got, ok := s.Next(x); got != h || ok != is {
					t.Fatal(got, ok, h, is)
				}
			case 3:
				n := r.IntN(5) - 1
				want, end := p.page(x, n)
				if l, done := s.Page(x, n); !slices.Equal(l, want) || done != end {
					t.Fatal(l, done, want, end)
				}
			case 4:
				if got, want := s.Skip(k), p.skip(k); got != want {
					t.Fatal(k, got, want)
				}
			case 5:
				s = s.Copy()
			}
			place(t, s, p, x)
		}
	}
}
