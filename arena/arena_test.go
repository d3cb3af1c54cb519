package arena

import (
	"math"
	"math/rand/v2"
	"slices"
	"strconv"
	"testing"

	"tidepool/api"
)

func leaf(keys ...string) Node {
	vals := make([]int, len(keys))
	for i, k := range keys {
		vals[i] = len(k) + i
	}
	return Node{Leaf: true, Keys: keys, Vals: vals}
}

func inner(kids ...Handle) Node { return Node{Keys: []string{"k", "l"}, Kids: kids} }

// state is all that an arena tells, so that two times may be held against each other.
type state struct {
	used, all int
	handles   []Handle
	nodes     []Node
}

func stateOf(t *testing.T, a *Arena) state {
	t.Helper()
	s := state{handles: a.Used()}
	s.used, s.all = a.Len()
	for _, h := range s.handles {
		n, e := a.Get(h)
		if e != api.OK || !a.Has(h) {
			t.Fatalf("%v is used, and Get tells %d", h, e)
		}
		s.nodes = append(s.nodes, n)
	}
	return s
}

func sameState(a, b state) bool {
	return a.used == b.used && a.all == b.all && slices.Equal(a.handles, b.handles) && slices.EqualFunc(a.nodes, b.nodes, Same)
}

// nowhere are handles that tell no node of an arena in which each number up to all was given turn times.
func nowhere(all, turn int) []Handle {
	l := []Handle{{-1, 0}, {-1, 1}, {all, 0}, {all, 1}, {all + 1, 1}, {math.MaxInt, 1}, {math.MinInt, 1}, {math.MaxInt, math.MaxInt}, {math.MinInt, math.MinInt}}
	for at := range all {
		for _, n := range []int{0, -turn, turn - 1, turn + 1, math.MaxInt, math.MinInt} {
			l = append(l, Handle{at, n})
		}
	}
	return l
}

// P11.1 to P11.4: the chapter's examples.
func TestExamples(t *testing.T) {
	a := New()
	for at := range 3 {
		if h := a.Make(Node{}); h != (Handle{at, 1}) {
			t.Error(h)
		}
	}
	if e := a.Free(Handle{1, 1}); e != api.OK {
		t.Error(e)
	}
	if e := a.Free(Handle{0, 1}); e != api.OK {
		t.Error(e)
	}
	if h := a.Make(leaf("a")); h != (Handle{0, 2}) {
		t.Error(h)
	}
	if n, e := a.Get(Handle{0, 1}); e != api.ErrNode || !Same(n, Node{}) {
		t.Error(n, e)
	}
	if a.Has(Handle{1, 1}) {
		t.Error("a freed node is there")
	}
	if used, all := a.Len(); used != 2 || all != 3 {
		t.Error(used, all)
	}
}

// P11.1: a new arena, and a blank one, have no nodes, and go on alike.
func TestWithoutNodes(t *testing.T) {
	for _, a := range []*Arena{New(), {}} {
		if !sameState(stateOf(t, a), state{}) || a.Used() != nil {
			t.Error(stateOf(t, a))
		}
		for _, h := range append(nowhere(0, 1), Handle{}) {
			if a.Has(h) || a.Put(h, Node{}) != api.ErrNode || a.Free(h) != api.ErrNode {
				t.Error(h)
			}
			if n, e := a.Get(h); e != api.ErrNode || !Same(n, Node{}) {
				t.Error(h, n, e)
			}
		}
		if e := a.Free(); e != api.OK {
			t.Error(e)
		}
		if h := a.Make(leaf("a")); h != (Handle{0, 1}) || !sameState(stateOf(t, a), state{1, 1, []Handle{h}, []Node{leaf("a")}}) {
			t.Error(h, stateOf(t, a))
		}
	}
	if New() == New() {
		t.Error("two arenas are one")
	}
}

// All promises: what a nil arena answers.
func TestNil(t *testing.T) {
	var a *Arena
	for _, h := range append(nowhere(2, 1), Handle{}, Handle{0, 1}) {
		if n, e := a.Get(h); e != api.ErrNil || !Same(n, Node{}) {
			t.Error(h, n, e)
		}
		if a.Has(h) || a.Put(h, leaf("a")) != api.ErrNil || a.Free(h) != api.ErrNil || a.Free(h, h) != api.ErrNil {
			t.Error(h)
		}
	}
	if h := a.Make(leaf("a")); h != (Handle{}) {
		t.Error(h)
	}
	used, all := a.Len()
	if e := a.Free(); e != api.ErrNil || used != 0 || all != 0 || a.Used() != nil {
		t.Error(e, used, all, a.Used())
	}
}

// P11.1: the least number that is free is given first, in whatever order they were freed; then the one behind all.
func TestLeastFirst(t *testing.T) {
	const all = 5
	orders := [][]int{{0, 1, 2, 3, 4}, {4, 3, 2, 1, 0}, {2, 4, 0}, {3, 1}, {1, 3}, {4}, {0}, {}}
	for _, order := range orders {
		a := New()
		for range all {
			a.Make(Node{})
		}
		for _, at := range order {
			if e := a.Free(Handle{at, 1}); e != api.OK {
				t.Fatal(order, at, e)
			}
		}
		slices.Sort(order)
		for _, at := range order {
			if h := a.Make(Node{}); h != (Handle{at, 2}) {
				t.Errorf("%v: %v, not %d", order, h, at)
			}
		}
		if h := a.Make(Node{}); h != (Handle{all, 1}) {
			t.Errorf("%v: %v", order, h)
		}
	}
}

// P11.1: a number's turn counts how often it was given, and that alone.
func TestTurns(t *testing.T) {
	a := New()
	other := a.Make(leaf("other"))
	for turn := 1; turn <= 1000; turn++ {
		h := a.Make(leaf(strconv.Itoa(turn)))
		if h != (Handle{1, turn}) {
			t.Fatal(h)
		}
		a.Put(h, Node{})
		a.Get(h)
		if a.Free(h) != api.OK || a.Free(h) != api.ErrNode || a.Has(h) {
			t.Fatal(h)
		}
	}
	if n, e := a.Get(other); e != api.OK || !Same(n, leaf("other")) {
		t.Error(n, e)
	}
}

// P11.1 to P11.3: of a handle that tells no node all answer ErrNode, and nothing changes.
func TestNowhere(t *testing.T) {
	for turn := 1; turn < 4; turn++ {
		a := New()
		for range turn {
			a.Free(a.Used()...)
			for range 3 {
				a.Make(leaf("a"))
			}
		}
		before := stateOf(t, a)
		for _, h := range nowhere(3, turn) {
			if a.Has(h) || a.Put(h, leaf("z")) != api.ErrNode || a.Free(h) != api.ErrNode {
				t.Error(h)
			}
			if n, e := a.Get(h); e != api.ErrNode || n.Leaf || n.Keys != nil || n.Kids != nil || n.Vals != nil {
				t.Error(h, n, e)
			}
		}
		if !sameState(before, stateOf(t, a)) {
			t.Error(before, stateOf(t, a))
		}
	}
}

// P11.2: what is put is told from then on, whole, and nothing else is touched.
func TestPut(t *testing.T) {
	a := New()
	h, other := a.Make(leaf("a", "b")), a.Make(leaf("c"))
	for _, n := range []Node{inner(other, h), {}, leaf("z"), {Leaf: true}, {Vals: []int{3}}, {Kids: []Handle{{-1, -1}, {9, 9}}}, {Keys: make([]string, 1000)}} {
		if e := a.Put(h, n); e != api.OK {
			t.Error(n, e)
		}
		if got, e := a.Get(h); e != api.OK || !Same(got, n) {
			t.Error(n, got, e)
		}
		if got, e := a.Get(other); e != api.OK || !Same(got, leaf("c")) {
			t.Error(n, got, e)
		}
		if used, all := a.Len(); used != 2 || all != 2 || !slices.Equal(a.Used(), []Handle{h, other}) {
			t.Error(used, all, a.Used())
		}
	}
}

// P11.3: many are freed at once, in any order; kids are not freed with the one that names them.
func TestFree(t *testing.T) {
	a := New()
	var l []Handle
	for range 6 {
		l = append(l, a.Make(inner(l...)))
	}
	if e := a.Free(l[5], l[0], l[3]); e != api.OK {
		t.Error(e)
	}
	if used, all := a.Len(); used != 3 || all != 6 || !slices.Equal(a.Used(), []Handle{l[1], l[2], l[4]}) {
		t.Error(used, all, a.Used())
	}
	for i, h := range l {
		n, e := a.Get(h)
		if freed := i == 0 || i == 3 || i == 5; freed == a.Has(h) || freed != (e == api.ErrNode) || !freed && !Same(n, inner(l[:i]...)) {
			t.Error(h, n, e)
		}
		if !a.Has(h) && !Same(a.cells[h.At].node, Node{}) {
			t.Error(h, "keeps what a freed node had")
		}
	}
}

// P11.3: if one of them tells no node, or two are the same, nothing is freed, wherever they stand.
func TestFreeFails(t *testing.T) {
	a := New()
	var l []Handle
	for i := range 5 {
		l = append(l, a.Make(leaf(strconv.Itoa(i))))
	}
	a.Free(l[4])
	l[4] = Handle{4, 1}
	before := stateOf(t, a)
	for _, bad := range []Handle{l[0], l[2], l[3], l[4], {-1, 1}, {5, 1}, {0, 0}, {0, 2}, {math.MaxInt, 1}, {math.MinInt, 1}} {
		for at := range 5 {
			if e := a.Free(slices.Insert(slices.Clone(l[:4]), at, bad)...); e != api.ErrNode {
				t.Error(bad, at, e)
			}
			if !sameState(before, stateOf(t, a)) {
				t.Fatal(bad, at, stateOf(t, a))
			}
		}
	}
	if h := a.Make(Node{}); h != (Handle{4, 2}) { // the only number that waits
		t.Error(h)
	}
	if e := a.Free(l[:4]...); e != api.OK {
		t.Error(e)
	}
}

// P11.4: Same holds each part against the other's, and a list that is nil is an empty one.
func TestSame(t *testing.T) {
	h := Handle{1, 2}
	l := []Node{
		{}, {Leaf: true},
		{Keys: []string{"a"}}, {Keys: []string{"b"}}, {Keys: []string{"a", "b"}}, {Keys: []string{"b", "a"}}, {Keys: []string{""}}, {Leaf: true, Keys: []string{"a"}},
		{Kids: []Handle{h}}, {Kids: []Handle{{2, 2}}}, {Kids: []Handle{{1, 1}}}, {Kids: []Handle{{2, 1}}}, {Kids: []Handle{h, h}}, {Kids: []Handle{{}}},
		{Vals: []int{1}}, {Vals: []int{2}}, {Vals: []int{1, 2}}, {Vals: []int{2, 1}}, {Vals: []int{0}}, {Vals: []int{-1}},
		{true, []string{"a"}, []Handle{h}, []int{1}}, {false, []string{"a"}, []Handle{h}, []int{1}},
		{true, []string{"b"}, []Handle{h}, []int{1}}, {true, []string{"a"}, []Handle{h, h}, []int{1}}, {true, []string{"a"}, []Handle{h}, []int{}},
	}
	for i, a := range l {
		for j, b := range l {
			if Same(a, b) != (i == j) {
				t.Error(a, b)
			}
		}
		b := Node{a.Leaf, append([]string{}, a.Keys...), append([]Handle{}, a.Kids...), append([]int{}, a.Vals...)}
		if !Same(a, b) || !Same(b, a) {
			t.Error(a, b)
		}
	}
}

// spoil writes over all that a node has, what lies behind the lists' lengths included.
func spoil(n Node) {
	keys, kids, vals := n.Keys[:cap(n.Keys)], n.Kids[:cap(n.Kids)], n.Vals[:cap(n.Vals)]
	for i := range keys {
		keys[i] = "?"
	}
	for i := range kids {
		kids[i] = Handle{-7, -7}
	}
	for i := range vals {
		vals[i] = -7
	}
}

// P11.5: a node that is handed in is copied, and what lies behind its lists is left as it is.
func TestHandedIn(t *testing.T) {
	give := map[string]func(a *Arena, n Node) Handle{
		"Make": (*Arena).Make,
		"Put": func(a *Arena, n Node) Handle {
			h := a.Make(Node{Keys: make([]string, 9), Kids: make([]Handle, 9), Vals: make([]int, 9)})
			a.Put(h, n)
			return h
		},
	}
	for name, f := range give {
		for length := range 4 {
			keys, kids, vals := []string{"a", "b", "c", "d"}, []Handle{{1, 1}, {2, 2}, {3, 3}, {4, 4}}, []int{1, 2, 3, 4}
			n := Node{Keys: keys[:length], Kids: kids[:length], Vals: vals[:length]}
			a := New()
			h := f(a, n)
			want := Node{Keys: slices.Clone(n.Keys), Kids: slices.Clone(n.Kids), Vals: slices.Clone(n.Vals)}
			got, _ := a.Get(h)
			_, _, _ = append(got.Keys, "x"), append(got.Kids, Handle{}), append(got.Vals, 9)
			if !slices.Equal(keys, []string{"a", "b", "c", "d"}) || !slices.Equal(kids, []Handle{{1, 1}, {2, 2}, {3, 3}, {4, 4}}) || !slices.Equal(vals, []int{1, 2, 3, 4}) {
				t.Error(name, "changes what it is handed", keys, kids, vals)
			}
			spoil(n)
			if now, e := a.Get(h); e != api.OK || !Same(now, want) || !Same(got, want) {
				t.Error(name, "keeps what it is handed", now, e)
			}
		}
	}
}

// P11.5: what is answered is new memory each time.
func TestAnswered(t *testing.T) {
	a := New()
	h := a.Make(Node{})
	b := a.Make(inner(h, h, h))
	want := inner(h, h, h)
	want.Vals = []int{1, 2, 3}
	a.Put(b, want)
	one, _ := a.Get(b)
	two, _ := a.Get(b)
	spoil(one)
	if now, _ := a.Get(b); !Same(now, want) || !Same(two, want) {
		t.Error(now, two)
	}
	used, again := a.Used(), a.Used()
	used[0] = Handle{-7, -7}
	_ = append(used[:1], Handle{-7, -7})
	if l := []Handle{h, b}; !slices.Equal(again, l) || !slices.Equal(a.Used(), l) || !a.Has(h) || !a.Has(b) {
		t.Error(again, a.Used())
	}
}

// P11.3, P11.5: the handles that are handed in stand as they stood, those behind the list included.
func TestFreeOnlyReads(t *testing.T) {
	a := New()
	l := []Handle{a.Make(Node{}), a.Make(Node{}), a.Make(Node{}), a.Make(Node{})}
	l = []Handle{l[3], l[0], l[2], l[1]}
	before := slices.Clone(l)
	for _, e := range []api.Errno{a.Free(l[0], l[0]), a.Free(l[:2]...), a.Free(l[:3]...)} {
		if !slices.Equal(l, before) {
			t.Fatal(l, e)
		}
	}
	l[2] = Handle{-7, -7}
	if !slices.Equal(a.Used(), []Handle{before[3], before[2]}) {
		t.Error(a.Used())
	}
}

// plain is an arena told anew, that goes over all its numbers each time.
type plain struct {
	turns []int
	nodes map[Handle]Node
}

func (p *plain) make(n Node) Handle {
	for at, turn := range p.turns {
		if _, used := p.nodes[Handle{at, turn}]; !used {
			p.turns[at]++
			p.nodes[Handle{at, turn + 1}] = n
			return Handle{at, turn + 1}
		}
	}
	p.turns = append(p.turns, 1)
	p.nodes[Handle{len(p.turns) - 1, 1}] = n
	return Handle{len(p.turns) - 1, 1}
}

func (p *plain) free(l []Handle) api.Errno {
	for i, h := range l {
		if _, used := p.nodes[h]; !used || slices.Contains(l[:i], h) {
			return api.ErrNode
		}
	}
	for _, h := range l {
		delete(p.nodes, h)
	}
	return api.OK
}

func (p *plain) state() state {
	s := state{used: len(p.nodes), all: len(p.turns)}
	for at, turn := range p.turns {
		if n, used := p.nodes[Handle{at, turn}]; used {
			s.handles, s.nodes = append(s.handles, Handle{at, turn}), append(s.nodes, n)
		}
	}
	return s
}

func anyNode(r *rand.Rand, l []Handle) Node {
	n := Node{Leaf: r.IntN(2) == 0}
	for range r.IntN(4) {
		n.Keys, n.Vals = append(n.Keys, strconv.Itoa(r.IntN(99))), append(n.Vals, r.IntN(99))
		if len(l) > 0 {
			n.Kids = append(n.Kids, l[r.IntN(len(l))])
		}
	}
	return n
}

// someOf are handles, mostly of late, each once but now and then.
func someOf(r *rand.Rand, l []Handle) []Handle {
	var some []Handle
	for range r.IntN(4) {
		if h := l[max(0, len(l)-1-r.IntN(1+r.IntN(300)))]; r.IntN(9) == 0 || !slices.Contains(some, h) {
			some = append(some, h)
		}
	}
	return some
}

// All promises: a walk of all calls, held against an arena told anew.
func TestWalk(t *testing.T) {
	for seed := range uint64(20) {
		r := rand.New(rand.NewPCG(11, seed))
		a, p := New(), &plain{nodes: map[Handle]Node{}}
		given := []Handle{{0, 0}, {-1, 1}, {0, 5}}
		freed, most := 0, 0
		for range 3000 {
			switch n := anyNode(r, given); r.IntN(4) {
			case 0, 1:
				h := a.Make(n)
				if want := p.make(n); h != want {
					t.Fatal(h, want)
				}
				given = append(given, h)
			case 2:
				l := someOf(r, given)
				e, want := a.Free(l...), p.free(l)
				if e != want {
					t.Fatal(l, e, want)
				}
				if e == api.OK {
					freed += len(l)
				}
			case 3:
				h := given[r.IntN(len(given))]
				_, used := p.nodes[h]
				if e := a.Put(h, n); used != (e == api.OK) || !used && e != api.ErrNode {
					t.Fatal(h, e)
				}
				if used {
					p.nodes[h] = n
				}
			}
			most = max(most, len(p.nodes))
			used, all := a.Len()
			if used != len(p.nodes) || all != len(p.turns) || all != most { // P11.6
				t.Fatal(used, all, most)
			}
		}
		if !sameState(stateOf(t, a), p.state()) {
			t.Fatal(seed)
		}
		checkGiven(t, a, p, given)
		if freed < 300 {
			t.Error("few were freed:", freed)
		}
	}
}

// checkGiven is P11.6: a handle whose node was freed tells none, whatever was made since.
func checkGiven(t *testing.T, a *Arena, p *plain, given []Handle) {
	t.Helper()
	for _, h := range given {
		want, used := p.nodes[h]
		n, e := a.Get(h)
		if a.Has(h) != used || used != (e == api.OK) || !Same(n, want) {
			t.Fatal(h, n, e)
		}
	}
}

// P11.6: no two used nodes have one number, also where they are very many; numbers far apart are given and freed without a walk between them.
func TestMany(t *testing.T) {
	const all = 70*64*64 + 3
	a := New()
	for at := range all {
		if h := a.Make(Node{Vals: []int{at}}); h != (Handle{at, 1}) {
			t.Fatal(h)
		}
	}
	for turn := 2; turn < 300000; turn++ {
		if a.Free(Handle{all - 1, turn - 1}, Handle{1, turn - 1}) != api.OK {
			t.Fatal(turn)
		}
		if h, last := a.Make(Node{}), a.Make(Node{}); h != (Handle{1, turn}) || last != (Handle{all - 1, turn}) {
			t.Fatal(h, last)
		}
	}
	r := rand.New(rand.NewPCG(11, 6))
	l := slices.DeleteFunc(a.Used(), func(Handle) bool { return r.IntN(40) > 0 })
	r.Shuffle(len(l), func(i, j int) { l[i], l[j] = l[j], l[i] })
	if a.Free(l...) != api.OK {
		t.Fatal("Free")
	}
	slices.SortFunc(l, func(a, b Handle) int { return a.At - b.At })
	for _, was := range l {
		if h := a.Make(Node{}); h != (Handle{was.At, was.Turn + 1}) {
			t.Fatal(h, was)
		}
	}
	if used, n := a.Len(); used != all || n != all || len(a.Used()) != all {
		t.Error(used, n)
	}
	if h := a.Make(Node{}); h != (Handle{all, 1}) {
		t.Error(h)
	}
}

// P11.1: the least number is found among all that there may be, and nothing is left of those that wait no longer.
func TestWaiting(t *testing.T) {
	r := rand.New(rand.NewPCG(11, 1))
	for range 300 {
		var w waiting
		each := map[int]bool{}
		for _, at := range []int{0, 63, 64, 64*64 - 1, 64 * 64, 1<<18 - 1, 1 << 18, 1<<24 - 1, 1 << 24, 1<<30 - 1, 1 << 30, math.MaxInt32} {
			each[at] = r.IntN(2) == 0
		}
		for range r.IntN(60) {
			each[r.IntN(1<<(1+r.IntN(30)))] = true
		}
		var want []int
		for at, waits := range each {
			if waits {
				want = append(want, at)
				w.put(at)
			}
		}
		slices.Sort(want)
		for at, waits := range each {
			if w.has(at) != waits || w.count != len(want) {
				t.Fatal(at, waits, w.count)
			}
		}
		for i, at := range want {
			if got, ok := w.take(); got != at || !ok || w.has(at) || w.count != len(want)-1-i {
				t.Fatal(got, ok, at)
			}
		}
		if at, ok := w.take(); at != 0 || ok || len(w.words) != 0 {
			t.Fatal(at, ok, w.words)
		}
	}
}
