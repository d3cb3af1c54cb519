package tree

import (
	"fmt"
	"math"
	"math/rand/v2"
	"slices"
	"strings"
	"testing"

	"tidepool/api"
	"tidepool/arena"
)

// of is a table of keys, put in this order; each has its place, from 1 on, as a value.
func of(keys ...string) *Tree {
	x := New()
	for i, k := range keys {
		x.Put(k, i+1)
	}
	return x
}

// numbered are n keys that rise, with room between any two.
func numbered(n int) []string {
	l := make([]string, n)
	for i := range l {
		l[i] = fmt.Sprintf("%06d", 2*i+1)
	}
	return l
}

func shuffled(r *rand.Rand, l []string) []string {
	l = slices.Clone(l)
	r.Shuffle(len(l), func(i, j int) { l[i], l[j] = l[j], l[i] })
	return l
}

func random(seed uint64) *rand.Rand { return rand.New(rand.NewPCG(seed, 12)) }

// shape writes places: of each its depth, its keys, and a point if it is a leaf.
func shape(l []Place) string {
	var w []string
	for _, p := range l {
		s := fmt.Sprintf("%d:%s", p.Depth, strings.Join(p.Keys, ","))
		if p.Leaf {
			s += "."
		}
		w = append(w, s)
	}
	return strings.Join(w, " ")
}

// reader takes nodes from the places of a tree, by the chapter's words alone.
type reader struct {
	t    *testing.T
	left []Place
	keys []string // that the nodes have, from left to right
	deep int      // how deep the first leaf is
}

// take takes a node of a depth, and all below it. All its keys must be above low, and below high (both without one: no bound).
func (r *reader) take(depth int, low, high []string) {
	r.t.Helper()
	if len(r.left) == 0 {
		r.t.Fatalf("a node of depth %d is missing", depth)
	}
	p := r.left[0]
	r.left = r.left[1:]
	if p.Depth != depth || len(p.Keys) > 4 || len(p.Keys) < 1 || len(p.Keys) < 2 && depth > 1 {
		r.t.Fatalf("at depth %d stands %v", depth, p)
	}
	if p.Leaf && r.deep == 0 {
		r.deep = depth
	}
	if p.Leaf != (r.deep == depth) {
		r.t.Fatalf("leaves are %d deep, and there is %v", r.deep, p)
	}
	for _, k := range p.Keys {
		if len(low) > 0 && k <= low[0] || len(high) > 0 && k >= high[0] {
			r.t.Fatalf("%q is not between %q and %q", k, low, high)
		}
		if !p.Leaf {
			r.take(depth+1, low, []string{k})
		}
		r.keys = append(r.keys, k)
		low = []string{k}
	}
	if !p.Leaf {
		r.take(depth+1, low, high)
	}
}

// P12.3, P12.5: the nodes are as the chapter tells, and there are enough keys for their depth.
func sound(t *testing.T, x *Tree) {
	t.Helper()
	if e := x.Check(); e != api.OK {
		t.Fatalf("Check tells %d of %s", e, shape(x.Places()))
	}
	l := x.Places()
	used, _ := x.nodes.Len()
	if used != len(l) {
		t.Fatalf("%d nodes are used, and %d are told", used, len(l))
	}
	r := &reader{t: t, left: l}
	if len(l) > 0 {
		r.take(1, nil, nil)
	}
	if len(r.left) > 0 || len(r.keys) != x.Len() {
		t.Fatalf("%d places are left over, %d keys stand in %d", len(r.left), len(r.keys), x.Len())
	}
	enough := 2
	for range r.deep - 1 {
		enough *= 3
	}
	if r.deep > 0 && x.Len() < enough-1 {
		t.Fatalf("%d keys are %d deep", x.Len(), r.deep)
	}
	for i, h := range x.All() {
		if h.Key != r.keys[i] {
			t.Fatalf("key %d is %q, and stands as %q", i, h.Key, r.keys[i])
		}
	}
}

// table is a table told anew: a list.
type table []Hit

func (l table) find(k string) (int, bool) {
	return slices.BinarySearchFunc(l, k, func(h Hit, k string) int { return strings.Compare(h.Key, k) })
}

func (l *table) put(k string, v int) (int, bool) {
	i, ok := l.find(k)
	if !ok {
		*l = slices.Insert(*l, i, Hit{k, v})
		return 0, false
	}
	was := (*l)[i].Val
	(*l)[i].Val = v
	return was, true
}

func (l *table) drop(k string) (int, bool) {
	i, ok := l.find(k)
	if !ok {
		return 0, false
	}
	was := (*l)[i].Val
	*l = slices.Delete(*l, i, i+1)
	return was, true
}

// at is a key by its place; nothing, if there is none.
func (l table) at(i int) (Hit, bool) {
	if i < 0 || i >= len(l) {
		return Hit{}, false
	}
	return l[i], true
}

// beside asks for what is beside a key in all four ways, and for its value.
func beside(t *testing.T, x *Tree, l table, k string) {
	t.Helper()
	from, there := l.find(k)
	after := from
	if there {
		after++
	}
	for _, c := range []struct {
		name string
		call func(string) (Hit, bool)
		want int
	}{{"From", x.From, from}, {"Upto", x.Upto, after - 1}, {"After", x.After, after}, {"Before", x.Before, from - 1}} {
		got, ok := c.call(k)
		if want, is := l.at(c.want); got != want || ok != is {
			t.Fatalf("%s(%q): %v, %t; not %v, %t", c.name, k, got, ok, want, is)
		}
	}
	v, ok := x.Get(k)
	want := Hit{}
	if there {
		want = l[from]
	}
	if v != want.Val || ok != there {
		t.Fatalf("Get(%q): %d, %t; not %v", k, v, ok, want)
	}
}

// same holds a table against one that was told anew.
func same(t *testing.T, x *Tree, l table) {
	t.Helper()
	if x.Len() != len(l) || !slices.Equal(x.All(), []Hit(l)) {
		t.Fatalf("%d: %v, not %d: %v", x.Len(), x.All(), len(l), l)
	}
	first, ok := x.First()
	if want, is := l.at(0); first != want || ok != is {
		t.Fatalf("First: %v, %t; not %v", first, ok, want)
	}
	last, ok := x.Last()
	if want, is := l.at(len(l) - 1); last != want || ok != is {
		t.Fatalf("Last: %v, %t; not %v", last, ok, want)
	}
}

// P12.1 to P12.3: the chapter's examples.
func TestExamples(t *testing.T) {
	x := of("a", "b", "c", "d", "e")
	if got := shape(x.Places()); got != "1:c 2:a,b. 2:d,e." {
		t.Error(got)
	}
	if h, ok := x.From("bb"); h != (Hit{"c", 3}) || !ok {
		t.Error(h, ok)
	}
	if h, ok := x.Before("a"); h != (Hit{}) || ok {
		t.Error(h, ok)
	}
	if v, ok := x.Delete("c"); v != 3 || !ok || x.Len() != 4 {
		t.Error(v, ok, x.Len())
	}
	sound(t, x)
}

// All promises: what a nil table answers.
func TestNil(t *testing.T) {
	var x *Tree
	for _, k := range []string{"", "a"} {
		for i, call := range []func(string) (int, bool){x.Get, x.Delete, func(k string) (int, bool) { return x.Put(k, 5) }} {
			if v, ok := call(k); v != 0 || ok {
				t.Error(i, v, ok)
			}
		}
		for i, call := range []func(string) (Hit, bool){x.From, x.Upto, x.After, x.Before} {
			if h, ok := call(k); h != (Hit{}) || ok {
				t.Error(i, h, ok)
			}
		}
	}
	if h, ok := x.First(); h != (Hit{}) || ok {
		t.Error(h, ok)
	}
	if h, ok := x.Last(); h != (Hit{}) || ok {
		t.Error(h, ok)
	}
	if x.Len() != 0 || x.All() != nil || x.Places() != nil || x.Check() != api.ErrNil {
		t.Error(x.Len(), x.All(), x.Places(), x.Check())
	}
}

// P12.1: a new table, and a blank one, have no keys, and no node, and go on alike.
func TestWithoutKeys(t *testing.T) {
	for _, x := range []*Tree{New(), {}} {
		for range 2 { // what was emptied is as it was
			sound(t, x)
			same(t, x, nil)
			beside(t, x, nil, "")
			beside(t, x, nil, "a")
			if v, ok := x.Delete("a"); v != 0 || ok || x.All() != nil || x.Places() != nil {
				t.Error(v, ok, x.All(), x.Places())
			}
			if v, ok := x.Put("a", 7); v != 0 || ok {
				t.Error(v, ok)
			}
			sound(t, x)
			same(t, x, table{{"a", 7}})
			if got := shape(x.Places()); got != "1:a." {
				t.Error(got)
			}
			if v, ok := x.Delete("a"); v != 7 || !ok {
				t.Error(v, ok)
			}
		}
	}
	if New() == New() {
		t.Error("two tables are one")
	}
}

// P12.1: a key has what was put last, of any size, 0 included; keys are any texts, the empty one included.
func TestPut(t *testing.T) {
	keys := []string{"", "\x00", "\x00\x00", "\x00\xff", "a", "a\x00", "ab", "b", "\xe4", "\xff", "\xff\x00", "\xff\xff", strings.Repeat("a", 5000)}
	vals := []int{0, 1, -1, math.MaxInt, math.MinInt}
	x, l := New(), table{}
	for round := range 3 {
		for i, k := range shuffled(random(uint64(round)), keys) {
			v := vals[(i+round)%len(vals)]
			was, there := x.Put(k, v)
			if want, is := l.put(k, v); was != want || there != is || there != (round > 0) {
				t.Errorf("Put(%q): %d, %t; not %d, %t", k, was, there, want, is)
			}
			sound(t, x)
			same(t, x, l)
			for _, k := range keys {
				beside(t, x, l, k)
			}
		}
	}
	for _, k := range keys {
		was, there := x.Delete(k)
		if want, is := l.drop(k); was != want || there != is {
			t.Errorf("Delete(%q): %d, %t; not %d, %t", k, was, there, want, is)
		}
		if v, ok := x.Get(k); v != 0 || ok {
			t.Errorf("Get(%q): %d, %t", k, v, ok)
		}
		same(t, x, l)
	}
}

// P12.1: what puts a key anew, or deletes one that is not there, leaves the nodes as they are.
func TestNodesStay(t *testing.T) {
	for n := range 40 {
		keys := numbered(n)
		x := of(shuffled(random(uint64(n)), keys)...)
		before := shape(x.Places())
		for i, k := range keys {
			if _, there := x.Put(k, -i); !there {
				t.Error(k)
			}
			if v, there := x.Delete(k + "x"); v != 0 || there {
				t.Error(k, v, there)
			}
		}
		x.Delete("")
		if got := shape(x.Places()); got != before || x.Len() != n {
			t.Errorf("%d: %s, not %s", x.Len(), got, before)
		}
		for i, k := range keys {
			if v, ok := x.Get(k); v != -i || !ok {
				t.Error(k, v, ok)
			}
		}
	}
}

// P12.2: what is beside each key, and beside each place between two, in tables of all sizes.
func TestBeside(t *testing.T) {
	for n := range 130 {
		keys := numbered(n)
		x, l := New(), table{}
		for _, k := range shuffled(random(uint64(n)), keys) {
			x.Put(k, n+len(l))
			l.put(k, n+len(l))
		}
		sound(t, x)
		same(t, x, l)
		for i := range 2*n + 2 {
			beside(t, x, l, fmt.Sprintf("%06d", i))
		}
		beside(t, x, l, "")
		beside(t, x, l, "\xff")
		for _, k := range keys {
			beside(t, x, l, k[:5])
			beside(t, x, l, k+"\x00")
		}
	}
}

// P12.3: how the nodes stand that rising keys make, falling ones, and others.
func TestPlaces(t *testing.T) {
	for keys, want := range map[string]string{
		"":                  "",
		"a":                 "1:a.",
		"ba":                "1:a,b.",
		"dcba":              "1:a,b,c,d.",
		"edcba":             "1:c 2:a,b. 2:d,e.",
		"abcdefgh":          "1:c,f 2:a,b. 2:d,e. 2:g,h.",
		"hgfedcba":          "1:c,f 2:a,b. 2:d,e. 2:g,h.",
		"abcdefghijklmnop":  "1:c,f,i,l 2:a,b. 2:d,e. 2:g,h. 2:j,k. 2:m,n,o,p.",
		"abcdefghijklmnopq": "1:i 2:c,f 3:a,b. 3:d,e. 3:g,h. 2:l,o 3:j,k. 3:m,n. 3:p,q.",
		"aczbyxd":           "1:c 2:a,b. 2:d,x,y,z.",
		"abcdeabcde":        "1:c 2:a,b. 2:d,e.",
	} {
		x := of(strings.Split(keys, "")...)
		if got := shape(x.Places()); got != want {
			t.Errorf("%s: %s, not %s", keys, got, want)
		}
		sound(t, x)
	}
}

// orders calls with all orders of some keys.
func orders(l []string, n int, call func([]string)) {
	if n == len(l) {
		call(l)
		return
	}
	for i := n; i < len(l); i++ {
		l[n], l[i] = l[i], l[n]
		orders(l, n+1, call)
		l[n], l[i] = l[i], l[n]
	}
}

// P12.5: up to 6 keys, put in all orders, and deleted in another.
func TestAllOrders(t *testing.T) {
	for n := range 7 {
		count := 0
		orders(numbered(n), 0, func(l []string) {
			count++
			x := New()
			for i, k := range l {
				x.Put(k, i)
				sound(t, x)
			}
			for _, k := range shuffled(random(uint64(count)), l) {
				if _, ok := x.Delete(k); !ok {
					t.Error(k)
				}
				sound(t, x)
			}
		})
	}
}

// P12.5: from one table each key is deleted first, and from what is left each one again: every way in which nodes may be laid together.
func TestDeleteEach(t *testing.T) {
	for _, n := range []int{5, 8, 11, 17, 26, 53} {
		keys := numbered(n)
		for seed := range uint64(4) {
			order := shuffled(random(seed), keys)
			if seed == 0 {
				order = keys
			}
			for _, first := range keys {
				x, l := New(), table{}
				for i, k := range order {
					x.Put(k, i)
					l.put(k, i)
				}
				for _, k := range append([]string{first}, shuffled(random(seed+9), keys)...) {
					was, there := x.Delete(k)
					if want, is := l.drop(k); was != want || there != is {
						t.Fatalf("%s: %d, %t; not %d, %t", k, was, there, want, is)
					}
					sound(t, x)
					same(t, x, l)
				}
			}
		}
	}
}

// P12.1, P12.2, P12.5: any calls, one behind the other, against a list.
func TestWalk(t *testing.T) {
	for seed := range uint64(30) {
		r := random(seed)
		x, l := New(), table{}
		span := 1 + r.IntN(300)
		for step := range 800 {
			k := fmt.Sprintf("%04d", r.IntN(span))
			grows := r.IntN(10) < 3+4*(step/200%2) // a while it grows, a while it falls
			if grows {
				was, there := x.Put(k, step)
				if want, is := l.put(k, step); was != want || there != is {
					t.Fatalf("Put(%s): %d, %t; not %d, %t", k, was, there, want, is)
				}
			} else {
				was, there := x.Delete(k)
				if want, is := l.drop(k); was != want || there != is {
					t.Fatalf("Delete(%s): %d, %t; not %d, %t", k, was, there, want, is)
				}
			}
			sound(t, x)
			same(t, x, l)
			beside(t, x, l, k)
			beside(t, x, l, fmt.Sprintf("%04d", r.IntN(span)))
		}
	}
}

// P12.5: many keys, rising, falling, and in no order; half of them go, and come again, and all go at last.
func TestMany(t *testing.T) {
	const n = 30000
	keys := numbered(n)
	falling := slices.Clone(keys)
	slices.Reverse(falling)
	for _, order := range [][]string{keys, falling, shuffled(random(1), keys)} {
		x := of(order...)
		sound(t, x)
		most, _ := x.nodes.Len()
		for _, k := range order[:n/2] {
			x.Delete(k)
		}
		sound(t, x)
		for i, k := range order {
			if v, ok := x.Get(k); ok != (i >= n/2) || ok && v != i+1 {
				t.Fatal(k, v, ok)
			}
		}
		for _, k := range order[:n/2] {
			x.Put(k, 0)
		}
		sound(t, x)
		for _, k := range keys {
			x.Delete(k)
		}
		sound(t, x)
		if used, all := x.nodes.Len(); used != 0 || all > 2*most {
			t.Error(used, all, most)
		}
		same(t, x, nil)
	}
}

// broken are tables whose nodes are not as they must be, by what is wrong with them.
func broken() map[string]*Tree {
	l := map[string]*Tree{}
	recount := func(x *Tree) { // so that the number of keys alone tells nothing
		x.count = 0
		for _, h := range x.nodes.Used() {
			n, _ := x.nodes.Get(h)
			x.count += len(n.Keys)
		}
	}
	change := func(name string, at func(x *Tree) arena.Handle, change func(n *arena.Node)) {
		x := of(numbered(26)...)
		h := at(x)
		n, _ := x.nodes.Get(h)
		change(&n)
		x.nodes.Put(h, n)
		recount(x)
		l[name] = x
	}
	root := func(x *Tree) arena.Handle { return x.root }
	kid := func(x *Tree) arena.Handle { n, _ := x.nodes.Get(x.root); return n.Kids[1] }
	leaf := func(x *Tree) arena.Handle { n, _ := x.nodes.Get(kid(x)); return n.Kids[1] }
	change("a leaf of one key", leaf, func(n *arena.Node) { n.Keys, n.Vals = n.Keys[:1], n.Vals[:1] })
	change("a leaf of no key", leaf, func(n *arena.Node) { n.Keys, n.Vals = nil, nil })
	change("a leaf of five keys", leaf, func(n *arena.Node) {
		for len(n.Keys) < 5 {
			n.Keys, n.Vals = append(n.Keys, n.Keys[len(n.Keys)-1]+"x"), append(n.Vals, 1)
		}
	})
	change("a value too few", leaf, func(n *arena.Node) { n.Vals = n.Vals[:1] })
	change("a value too many", leaf, func(n *arena.Node) { n.Vals = append(n.Vals, 1) })
	change("an inner value too few", kid, func(n *arena.Node) { n.Vals = n.Vals[:1] })
	change("a kid too few", kid, func(n *arena.Node) { n.Kids = n.Kids[:len(n.Kids)-1] })
	change("a kid too many", kid, func(n *arena.Node) { n.Kids = append(n.Kids, n.Kids[0]) })
	change("no kids", kid, func(n *arena.Node) { n.Kids = nil })
	change("a leaf with kids", leaf, func(n *arena.Node) { n.Kids = []arena.Handle{{}, {}, {}} })
	change("a leaf that is none", leaf, func(n *arena.Node) { n.Leaf = false })
	change("an inner node as a leaf", kid, func(n *arena.Node) { n.Leaf, n.Kids = true, nil })
	change("a root of no key", root, func(n *arena.Node) { n.Keys, n.Vals, n.Kids = nil, nil, n.Kids[:1] })
	change("keys that fall", leaf, func(n *arena.Node) { n.Keys[0], n.Keys[1] = n.Keys[1], n.Keys[0] })
	change("one key twice", leaf, func(n *arena.Node) { n.Keys[1] = n.Keys[0] })
	change("a key below its place", leaf, func(n *arena.Node) { n.Keys[0] = "" })
	change("a key above its place", leaf, func(n *arena.Node) { n.Keys[len(n.Keys)-1] = "x" })
	change("an inner key beside its place", kid, func(n *arena.Node) { n.Keys[0] = n.Keys[1] + "x" })
	change("a kid that tells nothing", kid, func(n *arena.Node) { n.Kids[1] = arena.Handle{} })
	change("a kid of an earlier turn", kid, func(n *arena.Node) { n.Kids[1].Turn-- })
	change("one kid twice", kid, func(n *arena.Node) { n.Kids[1] = n.Kids[0] })
	itself := of(numbered(26)...)
	change("a root below itself", kid, func(n *arena.Node) { n.Kids[0] = itself.root }) // all these trees have their nodes at the same numbers
	change("a node below itself", kid, func(n *arena.Node) { n.Kids[0] = kid(itself) })
	bare := New()
	bare.root = bare.nodes.Make(arena.Node{Leaf: true})
	l["a root without keys"] = bare
	for name, change := range map[string]func(x *Tree){
		"a node beside the tree": func(x *Tree) { x.nodes.Make(arena.Node{Leaf: true, Keys: []string{"a", "b"}, Vals: []int{1, 2}}) },
		"a key too many":         func(x *Tree) { x.count-- },
		"a key too few":          func(x *Tree) { x.count++ },
		"no root":                func(x *Tree) { x.root = arena.Handle{} },
		"a leaf less deep": func(x *Tree) {
			n, _ := x.nodes.Get(x.root)
			n.Kids[0] = x.nodes.Make(arena.Node{Leaf: true, Keys: []string{"", "0"}, Vals: []int{1, 2}})
			x.nodes.Put(x.root, n)
		},
	} {
		x := of(numbered(26)...)
		change(x)
		l[name] = x
	}
	return l
}

// P12.3: Check tells ErrNode of nodes that are not as told, and ends.
func TestCheck(t *testing.T) {
	for name, x := range broken() {
		if e := x.Check(); e != api.ErrNode {
			t.Errorf("%s: %d", name, e)
		}
	}
	// A leaf that is less deep than the others, all else being right: no count tells it.
	var x Tree
	x.root = x.nodes.Make(arena.Node{Keys: []string{"c"}, Vals: []int{3}, Kids: []arena.Handle{
		x.nodes.Make(arena.Node{Leaf: true, Keys: []string{"a", "b"}, Vals: []int{1, 2}}),
		x.nodes.Make(arena.Node{Keys: []string{"f", "i"}, Vals: []int{6, 9}, Kids: []arena.Handle{
			x.nodes.Make(arena.Node{Leaf: true, Keys: []string{"d", "e"}, Vals: []int{4, 5}}),
			x.nodes.Make(arena.Node{Leaf: true, Keys: []string{"g", "h"}, Vals: []int{7, 8}}),
			x.nodes.Make(arena.Node{Leaf: true, Keys: []string{"j", "k"}, Vals: []int{10, 11}}),
		}}),
	}})
	x.count = 11
	if e := x.Check(); e != api.ErrNode || len(x.All()) != 11 {
		t.Errorf("leaves of two depths: %d, %d keys", e, len(x.All()))
	}
}

// P12.2: the keys are told till no more are wanted, and may be told again.
func TestHits(t *testing.T) {
	keys := numbered(60)
	x := of(keys...)
	for n := range len(keys) + 1 {
		var got []string
		for h := range x.hits() {
			if len(got) == n {
				break
			}
			got = append(got, h.Key)
		}
		if !slices.Equal(got, keys[:n]) {
			t.Errorf("%d: %q", n, got)
		}
		seen := 0
		for range x.levels() {
			if seen == n {
				break
			}
			seen++
		}
		if seen != min(n, len(x.Places())) {
			t.Errorf("%d: %d nodes", n, seen)
		}
	}
}

// P12.4: what is answered is new memory: who writes in it changes nothing, neither the table nor another answer, nor another list of its own.
func TestMemory(t *testing.T) {
	x, l := New(), table{}
	for i, k := range numbered(30) {
		x.Put(k, i)
		l.put(k, i)
	}
	want := shape(x.Places())
	hits, places := x.All(), x.Places()
	otherHits, otherPlaces := x.All(), x.Places()
	for i := range hits {
		hits[i] = Hit{"x", -1}
	}
	_ = append(hits[:0], Hit{"y", 1})
	for i := range places {
		grown := append(places[i].Keys, "y", "y", "y", "y")
		for j := range grown {
			grown[j] = "z"
		}
		for j := range places[i].Keys {
			places[i].Keys[j] = "x"
		}
		for _, p := range places[i+1:] {
			if slices.Contains(p.Keys, "y") || slices.Contains(p.Keys, "z") || slices.Contains(p.Keys, "x") {
				t.Fatal("two lists of one answer share memory")
			}
		}
	}
	if !slices.Equal(otherHits, []Hit(l)) || shape(otherPlaces) != want || shape(x.Places()) != want {
		t.Error("answers share memory")
	}
	sound(t, x)
	same(t, x, l)
	for _, k := range numbered(30) {
		beside(t, x, l, k)
	}
}

// P12.4, P12.5: two tables have nothing in common.
func TestTwo(t *testing.T) {
	x, y := of("a", "b", "c"), of("a", "b", "c")
	x.Put("a", 9)
	x.Delete("b")
	same(t, x, table{{"a", 9}, {"c", 3}})
	same(t, y, table{{"a", 1}, {"b", 2}, {"c", 3}})
}
