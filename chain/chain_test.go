package chain

import (
	"math"
	"math/rand/v2"
	"slices"
	"testing"

	"tidepool/agg"
	"tidepool/api"
)

const last = math.MaxUint64 // the greatest epoch

func live(epoch uint64, v int64) Version { return Version{Epoch: epoch, Agg: agg.One(v)} }

func dead(epoch uint64) Version { return Version{Epoch: epoch, Dead: true} }

func random(seed uint64) *rand.Rand { return rand.New(rand.NewPCG(seed, 15)) }

// made is the chain of versions that are one.
func made(t *testing.T, l ...Version) *Chain {
	t.Helper()
	c, e := Of(l...)
	if e != api.OK {
		t.Fatal(l, e)
	}
	return c
}

// sample is the chapter's.
func sample(t *testing.T) *Chain {
	t.Helper()
	return made(t, live(2, 5), dead(4), live(7, 9))
}

// holds holds all versions of a chain against a list.
func holds(t *testing.T, c *Chain, want ...Version) {
	t.Helper()
	if l := c.Versions(); !slices.Equal(l, want) || c.Len() != len(want) {
		t.Fatalf("%d versions: %v; not %v", c.Len(), l, want)
	}
}

// atNow tells anew what versions tell at an epoch.
func atNow(l []Version, epoch uint64) (agg.Agg, bool) {
	told, ok := agg.Agg{}, false
	for _, v := range l {
		if v.Epoch <= epoch {
			told, ok = v.Agg, !v.Dead
		}
	}
	return told, ok
}

// nextNow tells anew which version is the first one behind an epoch.
func nextNow(l []Version, epoch uint64) (Version, bool) {
	for _, v := range l {
		if v.Epoch > epoch {
			return v, true
		}
	}
	return Version{}, false
}

// garbageNow tells anew the places of the versions that are garbage.
func garbageNow(l []Version, floor uint64) []int {
	var places []int
	for i, v := range l {
		passed := i < len(l)-1 && l[i+1].Epoch <= floor
		gone := v.Dead && v.Epoch <= floor && i == 0
		if passed || gone {
			places = append(places, i)
		}
	}
	return places
}

// trimmed tells anew what is left, the first one that is garbage going first.
func trimmed(l []Version, floor uint64) []Version {
	l = slices.Clone(l)
	for {
		places := garbageNow(l, floor)
		if len(places) == 0 {
			return l
		}
		l = slices.Delete(l, places[0], places[0]+1)
	}
}

// edges are epochs, and floors, about which versions are made, and those beside them.
var edges = []uint64{0, 1, 2, 3, 4, 5, 6, math.MaxInt64, math.MaxInt64 + 1, math.MaxInt64 + 2, last - 2, last - 1, last}

// chains are all those of some epochs, each with nothing, a tombstone, or one of two aggregates there.
func chains() [][]Version {
	all := [][]Version{nil}
	for _, epoch := range []uint64{1, 2, 3, 5, math.MaxInt64 + 1, last - 1, last} {
		for _, l := range all {
			for _, v := range []Version{dead(epoch), live(epoch, 0), live(epoch, 3)} {
				all = append(all, append(slices.Clone(l), v))
			}
		}
	}
	return all
}

// wrong are versions that are none, whatever stands ahead of them.
var wrong = []Version{
	{}, live(0, 1), dead(0), {Epoch: 9}, {Epoch: last},
	{Epoch: 9, Dead: true, Agg: agg.One(1)}, {Epoch: 9, Dead: true, Agg: agg.Agg{Sum: 1}}, {Epoch: 9, Dead: true, Agg: agg.One(0)},
	{Epoch: 9, Agg: agg.Agg{Sum: 1}}, {Epoch: 9, Agg: agg.Agg{Min: -1, Max: 1}},
	{Epoch: 9, Agg: agg.Agg{Count: -1, Sum: 1, Min: 1, Max: 1}}, {Epoch: 9, Agg: agg.Agg{Count: 1, Sum: 1, Min: 1, Max: 2}},
	{Epoch: 9, Agg: agg.Agg{Count: 1, Sum: 2, Min: 1, Max: 1}}, {Epoch: 9, Agg: agg.Agg{Count: 2, Sum: 3, Min: 2, Max: 1}},
}

// P15.1 to P15.3: the chapter's examples.
func TestExamples(t *testing.T) {
	c := sample(t)
	for epoch, want := range map[uint64]int64{1: 0, 3: 5, 6: 0, 7: 9} {
		if a, ok := c.At(epoch); ok != (want != 0) || ok && a != agg.One(want) || !ok && a != (agg.Agg{}) {
			t.Errorf("at %d: %v, %t", epoch, a, ok)
		}
	}
	if c.Garbage(2, 3) || !c.Garbage(2, 4) || c.Garbage(4, 6) {
		t.Error("what is garbage")
	}
	if !c.Drop(2, 4) || !c.Garbage(4, 6) {
		t.Error("behind the first one")
	}
	holds(t, c, dead(4), live(7, 9))
	c = sample(t)
	if n := c.Trim(7); n != 2 {
		t.Error(n)
	}
	holds(t, c, live(7, 9))
}

func TestNil(t *testing.T) {
	var c *Chain
	for _, v := range append(wrong, live(1, 1), dead(1)) {
		if e := c.Add(v); e != api.ErrNil {
			t.Errorf("%v: %d", v, e)
		}
	}
	for _, n := range edges {
		a, told := c.At(n)
		v, more := c.Next(n)
		if a != (agg.Agg{}) || told || v != (Version{}) || more || c.Trim(n) != 0 {
			t.Errorf("%d: %v, %t, %v, %t", n, a, told, v, more)
		}
		for _, m := range edges {
			if c.Differs(n, m) || c.Garbage(n, m) || c.Drop(n, m) {
				t.Errorf("%d, %d", n, m)
			}
		}
	}
	if len(c.Versions()) != 0 || c.Len() != 0 {
		t.Error("versions")
	}
}

// A chain of none, and a blank one, have no versions, and go on alike.
func TestWithoutVersions(t *testing.T) {
	for _, c := range []*Chain{made(t), {}} {
		holds(t, c)
		for _, n := range edges {
			_, told := c.At(n)
			_, more := c.Next(n)
			if told || more || c.Garbage(n, n) || c.Drop(n, n) || c.Trim(n) != 0 || c.Differs(n, 1) {
				t.Error(n)
			}
		}
		if e := c.Add(live(3, 1)); e != api.OK {
			t.Error(e)
		}
		holds(t, c, live(3, 1))
	}
}

// P15.1: versions that are a chain: none, one, of all rising epochs, and dead ones wherever they stand.
func TestRight(t *testing.T) {
	many := agg.Agg{Count: 2, Sum: 9, Min: -1, Max: 1} // right, though no two such values have that sum
	for _, l := range [][]Version{
		nil, {}, {live(1, 5)}, {dead(1)}, {live(last, 0)}, {dead(last)}, {live(1, 5), live(2, 5)}, {dead(1), dead(2), live(3, 1), dead(last)},
		{live(math.MaxInt64, 1), live(math.MaxInt64+1, 1)}, {live(1, 1), {Epoch: 2, Agg: many}}, {live(9, math.MinInt64)},
	} {
		c, e := Of(l...)
		if !Right(l...) || c == nil || e != api.OK {
			t.Fatalf("%v: %d", l, e)
		}
		holds(t, c, l...)
	}
}

// P15.1: versions that are no chain: one that is none, wherever it stands; epochs that are the same, or fall.
func TestNotRight(t *testing.T) {
	lists := [][]Version{
		{live(2, 1), live(2, 1)}, {dead(2), live(2, 1)}, {live(2, 1), live(1, 1)}, {live(1, 1), live(3, 1), live(2, 1)}, {live(1, 1), live(5, 1), live(1, 1)}, {live(last, 1), live(1, 1)},
		{live(1, 1), live(3, 1), live(3, 1), live(4, 1)}, {live(math.MaxInt64+1, 1), live(math.MaxInt64, 1)}, {live(1, 1), dead(0)},
	}
	for _, v := range wrong {
		lists = append(lists, []Version{v}, []Version{v, live(last, 1)}, []Version{live(3, 1), v}, []Version{live(1, 1), v, live(last, 1)})
	}
	for _, l := range lists {
		if c, e := Of(l...); Right(l...) || c != nil || e != api.ErrArg {
			t.Errorf("%v: %v, %d", l, c, e)
		}
	}
}

// P15.1: a version more stands behind all others; what is no version is told first, and what fails changes nothing.
func TestAdd(t *testing.T) {
	c := sample(t)
	for _, x := range []struct {
		v    Version
		want api.Errno
	}{
		{live(7, 9), api.ErrEpoch}, {dead(7), api.ErrEpoch}, {live(6, 1), api.ErrEpoch}, {dead(1), api.ErrEpoch}, {live(2, 5), api.ErrEpoch}, {dead(4), api.ErrEpoch},
		{live(0, 1), api.ErrArg}, {dead(0), api.ErrArg}, {Version{Epoch: 7}, api.ErrArg}, {Version{Epoch: 3, Dead: true, Agg: agg.One(1)}, api.ErrArg}, {Version{Epoch: 7, Agg: agg.Agg{Count: -1}}, api.ErrArg},
	} {
		if e := c.Add(x.v); e != x.want {
			t.Errorf("%v: %d", x.v, e)
		}
	}
	for _, v := range wrong {
		if e := c.Add(v); e != api.ErrArg {
			t.Errorf("%v: %d", v, e)
		}
	}
	holds(t, c, live(2, 5), dead(4), live(7, 9))
	for _, v := range []Version{live(8, 9), dead(9), dead(11), live(math.MaxInt64+1, 3), dead(last - 1), live(last, 1)} {
		if e := c.Add(v); e != api.OK {
			t.Errorf("%v: %d", v, e)
		}
	}
	holds(t, c, live(2, 5), dead(4), live(7, 9), live(8, 9), dead(9), dead(11), live(math.MaxInt64+1, 3), dead(last-1), live(last, 1))
	if e := c.Add(live(last, 1)); e != api.ErrEpoch {
		t.Error(e)
	}
}

// P15.1: it is the versions that are there which an epoch must be above; those that went do not count.
func TestAddBehindDropped(t *testing.T) {
	c := made(t, live(5, 1), dead(6))
	if n := c.Trim(6); n != 2 {
		t.Fatal(n)
	}
	if e := c.Add(live(3, 2)); e != api.OK {
		t.Error(e)
	}
	if e := c.Add(live(3, 2)); e != api.ErrEpoch {
		t.Error(e)
	}
	holds(t, c, live(3, 2))
}

// P15.2: all chains at all epochs about theirs.
func TestAt(t *testing.T) {
	for _, l := range chains() {
		c := made(t, l...)
		for _, epoch := range edges {
			want, is := atNow(l, epoch)
			if a, ok := c.At(epoch); a != want || ok != is {
				t.Fatalf("%v at %d: %v, %t", l, epoch, a, ok)
			}
			next, more := nextNow(l, epoch)
			if v, ok := c.Next(epoch); v != next || ok != more {
				t.Fatalf("%v behind %d: %v, %t", l, epoch, v, ok)
			}
		}
		holds(t, c, l...)
	}
}

// P15.2: all chains between all epochs about theirs, there and back.
func TestDiffers(t *testing.T) {
	differed := 0
	for _, l := range chains() {
		c := made(t, l...)
		for _, from := range edges {
			for _, to := range edges {
				was, there := atNow(l, from)
				is, still := atNow(l, to)
				want := was != is || there != still
				if c.Differs(from, to) != want {
					t.Fatalf("%v from %d to %d: %t", l, from, to, !want)
				}
				if want {
					differed++
				}
			}
		}
	}
	if differed < 1000 {
		t.Error("few differed:", differed)
	}
}

// P15.2: versions lie between, but the same is told; of nothing, too.
func TestDiffersNot(t *testing.T) {
	c := made(t, dead(1), live(2, 5), live(3, 6), live(4, 5), dead(6), dead(8))
	for _, x := range []struct {
		from, to uint64
		want     bool
	}{
		{0, 1, false}, {1, 0, false}, {0, 2, true}, {2, 3, true}, {3, 2, true}, {2, 4, false}, {5, 2, false}, {3, 4, true}, {4, 6, true}, {6, 8, false}, {1, 7, false}, {0, last, false}, {last, 5, true}, {3, 3, false},
	} {
		if c.Differs(x.from, x.to) != x.want {
			t.Errorf("%v", x)
		}
	}
}

// P15.3: all chains by all floors: each version that is garbage is told, and goes if it is to; nothing else does.
func TestGarbage(t *testing.T) {
	for _, l := range chains() {
		c := made(t, l...)
		for _, floor := range edges {
			places := garbageNow(l, floor)
			for _, epoch := range edges {
				i := slices.IndexFunc(l, func(v Version) bool { return v.Epoch == epoch })
				is := slices.Contains(places, i)
				if c.Garbage(epoch, floor) != is {
					t.Fatalf("%v: %d by %d: %t", l, epoch, floor, !is)
				}
				left := slices.Clone(l)
				d := made(t, l...)
				if d.Drop(epoch, floor) != is {
					t.Fatalf("%v: drop %d by %d: %t", l, epoch, floor, !is)
				}
				if is {
					left = slices.Delete(left, i, i+1)
				}
				holds(t, d, left...)
			}
		}
		holds(t, c, l...)
	}
}

// P15.3: what is garbage, told by hand.
func TestGarbageByHand(t *testing.T) {
	c := made(t, dead(1), live(2, 5), dead(4), dead(5), live(7, 9), dead(9))
	for _, x := range []struct {
		epoch, floor uint64
		want         bool
	}{
		{1, 0, false}, {1, 1, true}, {1, 2, true}, {2, 3, false}, {2, 4, true}, {4, 4, false}, {4, 5, true}, {5, 6, false}, {5, 7, true}, {7, 8, false}, {7, 9, true}, {9, 9, false}, {9, last, false},
		{0, last, false}, {3, last, false}, {6, last, false}, {8, last, false}, {10, last, false}, {last, last, false},
	} {
		if c.Garbage(x.epoch, x.floor) != x.want {
			t.Errorf("%v", x)
		}
	}
	alone := made(t, live(3, 1))
	if alone.Garbage(3, last) || alone.Drop(3, last) || alone.Trim(last) != 0 {
		t.Error("one that is not dead, alone")
	}
	alone = made(t, dead(3))
	if alone.Drop(3, 2) || alone.Drop(2, 3) || !alone.Drop(3, 3) || alone.Drop(3, 3) || alone.Len() != 0 {
		t.Error("one that is dead, alone")
	}
}

// P15.3: all chains by all floors: what is garbage goes until nothing is, one that only then comes to be so included.
func TestTrim(t *testing.T) {
	went := 0
	for _, l := range chains() {
		for _, floor := range edges {
			c, want := made(t, l...), trimmed(l, floor)
			if n := c.Trim(floor); n != len(l)-len(want) {
				t.Fatalf("%v by %d: %d", l, floor, n)
			}
			holds(t, c, want...)
			if n := c.Trim(floor); n != 0 {
				t.Fatalf("%v by %d: %d more", l, floor, n)
			}
			went += len(l) - len(want)
		}
	}
	if went < 1000 {
		t.Error("few went:", went)
	}
}

// P15.4: a list is copied in; nothing of it is written to, what lies behind its length included.
func TestHandedIn(t *testing.T) {
	l := []Version{live(1, 1), dead(2), live(3, 3), live(4, 4), dead(5)}
	before := slices.Clone(l)
	c, d := made(t, l[:3]...), made(t, l[:3]...)
	if e := c.Add(live(9, 9)); e != api.OK {
		t.Fatal(e)
	}
	if !c.Drop(2, 3) || d.Trim(3) != 2 || !Right(l[:3]...) {
		t.Fatal("what goes")
	}
	if !slices.Equal(l, before) {
		t.Error("a list was written to:", l)
	}
	l[0], l[1], l[2] = dead(70), dead(80), dead(90)
	holds(t, c, live(1, 1), live(3, 3), live(9, 9))
	holds(t, d, live(3, 3))
}

// P15.4: what is answered is a list of its own each time, and stays as it was whatever comes.
func TestAnswered(t *testing.T) {
	c := sample(t)
	l, again := c.Versions(), c.Versions()
	l[0] = dead(99)
	_ = append(l[:1], dead(98), dead(97), dead(96))
	holds(t, c, again...)
	if e := c.Add(live(10, 1)); e != api.OK {
		t.Fatal(e)
	}
	if !c.Drop(4, 7) || c.Trim(7) != 1 {
		t.Fatal("what goes")
	}
	if !slices.Equal(again, []Version{live(2, 5), dead(4), live(7, 9)}) {
		t.Error("an answer changed:", again)
	}
	left := c.Versions()
	_ = append(left, dead(98))
	if e := c.Add(live(11, 1)); e != api.OK || !slices.Equal(left, []Version{live(7, 9), live(10, 1)}) {
		t.Error(left, e)
	}
	holds(t, c, live(7, 9), live(10, 1), live(11, 1))
}

// P15.5: what goes, alone or all of it, changes nothing that is told at the floor, or behind it.
func TestToldAfterwards(t *testing.T) {
	for _, l := range chains() {
		for at, floor := range edges {
			all := made(t, l...)
			all.Trim(floor)
			dropped := []*Chain{all}
			for _, i := range garbageNow(l, floor) {
				one := made(t, l...)
				one.Drop(l[i].Epoch, floor)
				dropped = append(dropped, one)
			}
			for _, c := range dropped {
				for _, epoch := range edges[at:] {
					want, is := atNow(l, epoch)
					if a, ok := c.At(epoch); a != want || ok != is {
						t.Fatalf("%v by %d, at %d: %v, %t; left are %v", l, floor, epoch, a, ok, c.Versions())
					}
				}
			}
		}
	}
}

// P15.5: when nothing is garbage, at most one version is not behind the floor, and is not dead. And what is garbage is so by every greater floor.
func TestWhatIsLeft(t *testing.T) {
	for _, l := range chains() {
		whole := made(t, l...)
		for at, floor := range edges {
			c := made(t, l...)
			c.Trim(floor)
			old := 0
			for _, v := range c.Versions() {
				if c.Garbage(v.Epoch, floor) {
					t.Fatalf("%v by %d: %d is left", l, floor, v.Epoch)
				}
				if v.Epoch > floor {
					break
				}
				old++
				if old > 1 || v.Dead {
					t.Fatalf("%v by %d: left are %v", l, floor, c.Versions())
				}
			}
			for _, v := range l {
				for _, greater := range edges[at:] {
					if whole.Garbage(v.Epoch, floor) && !whole.Garbage(v.Epoch, greater) {
						t.Fatalf("%v: %d is garbage by %d, not by %d", l, v.Epoch, floor, greater)
					}
				}
			}
		}
	}
}

// walker goes on with a chain, and with the list that it must be.
type walker struct {
	t    *testing.T
	r    *rand.Rand
	c    *Chain
	list []Version
	top  uint64 // above the epochs that there were
}

func (w *walker) add() {
	w.top += 1 + w.r.Uint64N(3)
	v := live(w.top, w.r.Int64N(3))
	if w.r.IntN(3) == 0 {
		v = dead(w.top)
	}
	if e := w.c.Add(v); e != api.OK {
		w.t.Fatal(v, e)
	}
	w.list = append(w.list, v)
}

// epoch is one about those that there are.
func (w *walker) epoch() uint64 {
	if len(w.list) == 0 {
		return w.r.Uint64N(9)
	}
	return w.list[w.r.IntN(len(w.list))].Epoch + w.r.Uint64N(3) - 1
}

func (w *walker) drop() {
	epoch, floor := w.epoch(), w.epoch()
	i := slices.IndexFunc(w.list, func(v Version) bool { return v.Epoch == epoch })
	is := slices.Contains(garbageNow(w.list, floor), i)
	if w.c.Drop(epoch, floor) != is {
		w.t.Fatalf("%v: drop %d by %d: %t", w.list, epoch, floor, !is)
	}
	if is {
		w.list = slices.Delete(w.list, i, i+1)
	}
}

func (w *walker) trim() {
	floor := w.epoch()
	left := trimmed(w.list, floor)
	if n := w.c.Trim(floor); n != len(w.list)-len(left) {
		w.t.Fatalf("%v by %d: %d", w.list, floor, n)
	}
	w.list = left
}

func (w *walker) look() {
	holds(w.t, w.c, w.list...)
	epoch, to := w.epoch(), w.epoch()
	want, is := atNow(w.list, epoch)
	if a, ok := w.c.At(epoch); a != want || ok != is {
		w.t.Fatalf("%v at %d: %v, %t", w.list, epoch, a, ok)
	}
	next, more := nextNow(w.list, epoch)
	if v, ok := w.c.Next(epoch); v != next || ok != more {
		w.t.Fatalf("%v behind %d: %v, %t", w.list, epoch, v, ok)
	}
	then, still := atNow(w.list, to)
	if w.c.Differs(epoch, to) != (want != then || is != still) {
		w.t.Fatalf("%v from %d to %d", w.list, epoch, to)
	}
}

// P15.1 to P15.3: versions come and go, few and many, held against a list.
func TestWalk(t *testing.T) {
	for seed := range uint64(40) {
		w := &walker{t: t, r: random(seed), c: made(t)}
		for range 400 {
			switch n := w.r.IntN(100); {
			case n < 60:
				w.add()
			case n < 97:
				w.drop()
			default:
				w.trim()
			}
			w.look()
		}
	}
}

// Of a long chain versions go one by one, from its beginning and from ahead of the floor, and come, without all being moved each time; what went is not kept for long.
func TestLong(t *testing.T) {
	const many = 1 << 17
	c := made(t)
	for i := range uint64(many) {
		if e := c.Add(live(i+1, int64(i))); e != api.OK {
			t.Fatal(e)
		}
	}
	for i := range uint64(many - 1) {
		if !c.Drop(i+1, many) {
			t.Fatal(i)
		}
		if i%3 == 0 {
			if e := c.Add(live(many+1+i, 1)); e != api.OK {
				t.Fatal(e)
			}
		}
		if c.spare > c.Len() {
			t.Fatalf("%d versions, and %d that went", c.Len(), c.spare)
		}
	}
	if a, ok := c.At(many); !ok || a != agg.One(many-1) || c.Len() != 1+(many+1)/3 {
		t.Error(a, ok, c.Len())
	}
	before := c.Len()
	if n := c.Trim(last); n != before-1 || c.Len() != 1 {
		t.Error(n, c.Len())
	}
	if cap(c.versions) > 8 {
		t.Error("what went is kept:", cap(c.versions))
	}
}
