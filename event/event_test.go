package event

import (
	"bytes"
	"encoding/binary"
	"math"
	"math/rand/v2"
	"slices"
	"strings"
	"testing"

	"tidepool/api"
)

const least, most = math.MinInt64, math.MaxInt64

const timeLimit = 1 << 40 // written anew: the chapter names the number

// kinds are all that there are, and some that there are not.
func kinds() []uint8 { return []uint8{0, 1, 2, 3, 4, 127, 128, 129, 130, 254, 255} }

// keys have lengths about the least and the greatest one, and bytes of all sorts.
func keys() []string {
	l := []string{"", "\x00", "a", "\xFF", "ab", "grün, 水", "\x00\x02a", "\x80\x00\xFF"}
	for _, n := range []int{31, 32, 33, 34, 64, 255, 256, 257, 288, 65535, 65536, 65537, 65568, 1 << 17} {
		l = append(l, strings.Repeat("k", n), strings.Repeat("\x00", n))
	}
	return l
}

// times lie about the greatest and the least one, and where bytes begin to count.
func times() []int64 {
	return []int64{least, least + 1, -timeLimit << 8, -timeLimit * 2, -timeLimit - 1, -timeLimit, -timeLimit + 1, -256, -1, 0, 1, 255, 256, 1 << 31, 1 << 32, timeLimit - 1, timeLimit, timeLimit + 1, timeLimit * 2, timeLimit << 8, most - 1, most}
}

func values() []int64 { return []int64{least, -1, 0, 1, 256, 1 << 40, most} }

// someOps are all kinds, keys, times and values that the lists above have, each with each.
func someOps() []Op {
	var l []Op
	for _, k := range kinds() {
		for _, s := range keys() {
			for _, n := range times() {
				for _, v := range values() {
					l = append(l, Op{Kind: k, Key: s, Time: n, Value: v})
				}
			}
		}
	}
	return l
}

// wanted is what is right, as the chapter words it.
func wanted(o Op) api.Errno {
	event, mark := o.Kind == 1, o.Kind == 2
	switch {
	case !event && !mark:
		return api.ErrTag
	case event && (len(o.Key) < 1 || len(o.Key) > 32), mark && (len(o.Key) > 0 || o.Value != 0):
		return api.ErrKey
	case o.Time > timeLimit, o.Time < -timeLimit:
		return api.ErrTime
	}
	return api.OK
}

// laid is an operation as bytes, right or not, written by another package than the program's.
func laid(o Op) []byte {
	b := []byte{o.Kind}
	if o.Kind == 1 {
		b = binary.BigEndian.AppendUint16(b, uint16(len(o.Key)))
		b = append(b, o.Key...)
	}
	b = binary.BigEndian.AppendUint64(b, uint64(o.Time))
	if o.Kind == 1 {
		b = binary.BigEndian.AppendUint64(b, uint64(o.Value))
	}
	return b
}

// rightOp is some operation that is right; its bytes are few, so that two have much in common.
func rightOp(r *rand.Rand) Op {
	time := r.Int64N(2*timeLimit+1) - timeLimit
	switch r.IntN(3) {
	case 0:
		time = []int64{-timeLimit, -1, 0, 1, 256, timeLimit}[r.IntN(6)]
	case 1:
		time >>= r.IntN(40)
	}
	if r.IntN(3) == 0 {
		return At(time)
	}
	key := make([]byte, 1+r.IntN(3))
	if r.IntN(4) == 0 {
		key = make([]byte, 1+r.IntN(32))
	}
	for i := range key {
		key[i] = []byte{0, 1, 2, 'a', 255, byte(r.Uint32())}[r.IntN(6)]
	}
	return Of(string(key), time, int64(r.Uint64())>>r.IntN(64))
}

func rightOps(r *rand.Rand, upTo int) []Op {
	var l []Op
	for range r.IntN(upTo + 1) {
		l = append(l, rightOp(r))
	}
	return l
}

func wantPut(t *testing.T, o Op, want []byte, wantErrno api.Errno) {
	t.Helper()
	if b, e := Put(o); !bytes.Equal(b, want) || e != wantErrno {
		t.Errorf("Put(%.40q of %d bytes, %d, %d, %d): % X, %d; want % X, %d", o.Key, len(o.Key), o.Kind, o.Time, o.Value, b, e, want, wantErrno)
	}
}

func wantParse(t *testing.T, b []byte, want Op, wantErrno api.Errno) {
	t.Helper()
	if o, e := Parse(b); o != want || e != wantErrno {
		t.Errorf("Parse(% .60X): %.40q, %d, %d, %d, error %d; want error %d", b, o.Key, o.Kind, o.Time, o.Value, e, wantErrno)
	}
}

func wantParseAll(t *testing.T, b []byte, want []Op, wantErrno api.Errno) {
	t.Helper()
	if l, e := ParseAll(b); !slices.Equal(l, want) || e != wantErrno {
		t.Errorf("ParseAll(% .60X): %v, %d; want %v, %d", b, l, e, want, wantErrno)
	}
}

// P6.2: the chapter's examples.
func TestExamples(t *testing.T) {
	minusOne := bytes.Repeat([]byte{0xFF}, 8)
	wantPut(t, Of("a", 2, -1), slices.Concat([]byte{1, 0, 1, 0x61, 0, 0, 0, 0, 0, 0, 0, 2}, minusOne), api.OK)
	wantPut(t, At(3), []byte{2, 0, 0, 0, 0, 0, 0, 0, 3}, api.OK)
	wantPut(t, Of("", 0, 0), nil, api.ErrKey)
	wantPut(t, At(1<<40+1), nil, api.ErrTime)
	wantParse(t, nil, Op{}, api.ErrShort)
	wantParse(t, []byte{3}, Op{}, api.ErrTag)
	wantParse(t, []byte{2}, Op{}, api.ErrShort)
}

// P6.1: what is made stands as it was told, even if it may not be.
func TestOfAndAt(t *testing.T) {
	if Event != 1 || Mark != 2 {
		t.Errorf("the kinds: %d, %d", Event, Mark)
	}
	for _, n := range times() {
		if got := At(n); got != (Op{Kind: 2, Time: n}) {
			t.Errorf("At(%d): %v", n, got)
		}
		for _, s := range keys() {
			for _, v := range values() {
				if got := Of(s, n, v); got != (Op{Kind: 1, Key: s, Time: n, Value: v}) {
					t.Errorf("Of(%.40q, %d, %d): %.100v", s, n, v, got)
				}
			}
		}
	}
}

// P6.1: by hand: every edge, and which error comes first where several apply.
func TestRightByHand(t *testing.T) {
	longest, tooLong := strings.Repeat("k", 32), strings.Repeat("k", 33)
	for _, c := range []struct {
		o Op
		e api.Errno
	}{
		{Of("k", 0, 0), api.OK}, {Of("\x00", 0, 0), api.OK}, {Of(longest, timeLimit, most), api.OK}, {Of(longest, -timeLimit, least), api.OK},
		{Of("", 0, 0), api.ErrKey}, {Of(tooLong, 0, 0), api.ErrKey}, {Of(strings.Repeat("水", 11), 0, 0), api.ErrKey}, {Of(strings.Repeat("水", 10), 0, 0), api.OK},
		{Of("k", timeLimit+1, 0), api.ErrTime}, {Of("k", -timeLimit-1, 0), api.ErrTime}, {Of("k", most, 0), api.ErrTime}, {Of("k", least, 0), api.ErrTime},
		{Of("", most, 0), api.ErrKey}, {Of(tooLong, least, 0), api.ErrKey},
		{At(0), api.OK}, {At(timeLimit), api.OK}, {At(-timeLimit), api.OK}, {At(timeLimit + 1), api.ErrTime}, {At(-timeLimit - 1), api.ErrTime}, {At(most), api.ErrTime}, {At(least), api.ErrTime},
		{Op{Kind: 2, Key: "k"}, api.ErrKey}, {Op{Kind: 2, Key: tooLong}, api.ErrKey}, {Op{Kind: 2, Value: 1}, api.ErrKey}, {Op{Kind: 2, Value: -1}, api.ErrKey}, {Op{Kind: 2, Value: least}, api.ErrKey}, {Op{Kind: 2, Key: "k", Value: 1}, api.ErrKey},
		{Op{Kind: 2, Key: "k", Time: most}, api.ErrKey}, {Op{Kind: 2, Value: 1, Time: least}, api.ErrKey},
		{Op{}, api.ErrTag}, {Op{Key: "k"}, api.ErrTag}, {Op{Kind: 3, Key: "k"}, api.ErrTag}, {Op{Kind: 255}, api.ErrTag}, {Op{Kind: 3, Key: tooLong, Time: most}, api.ErrTag}, {Op{Time: most}, api.ErrTag},
	} {
		if e := Right(c.o); e != c.e {
			t.Errorf("Right(%v): %d, want %d", c.o, e, c.e)
		}
	}
}

// P6.1, P6.2: all kinds, keys, times and values together; what is packed are these bytes, and what is not right is not packed.
func TestRightAndPut(t *testing.T) {
	seen := map[api.Errno]int{}
	for _, o := range someOps() {
		e := wanted(o)
		if got := Right(o); got != e {
			t.Errorf("Right(%.40q of %d bytes, %d, %d, %d): %d, want %d", o.Key, len(o.Key), o.Kind, o.Time, o.Value, got, e)
		}
		var b []byte
		if e == api.OK {
			b = laid(o)
		}
		wantPut(t, o, b, e)
		seen[e]++
	}
	if len(seen) != 4 || seen[api.OK] == 0 || seen[api.ErrTag] == 0 || seen[api.ErrKey] == 0 || seen[api.ErrTime] == 0 {
		t.Errorf("errors seen: %v", seen)
	}
}

// P6.2: bytes that are whole, whatever they pack: the operation, or why it is not right; a byte more is told ahead of that.
func TestParseWhole(t *testing.T) {
	for _, k := range []uint8{1, 2} {
		for _, s := range keys() {
			if len(s) > 65535 || k == 2 && s != "" { // no bytes tell these
				continue
			}
			for _, n := range times() {
				o := Op{Kind: k, Key: s, Time: n}
				if k == 1 {
					o.Value = n ^ 5
				}
				b, e := laid(o), wanted(o)
				want := o
				if e != api.OK {
					want = Op{}
				}
				wantParse(t, b, want, e)
				wantParse(t, append(b, 0), Op{}, api.ErrRest)
				wantParse(t, append(b, b...), Op{}, api.ErrRest)
			}
		}
	}
}

// P6.2: bytes that end too early, at every place; that the key or the time may not be is not told then.
func TestParseShort(t *testing.T) {
	for _, o := range []Op{Of("xy", 256, -3), Of("k", most, 0), Of("", 0, 0), Of(strings.Repeat("k", 32), 0, 0), Of(strings.Repeat("k", 33), most, 0), Of(strings.Repeat("\xFF", 300), 0, 0), At(-1), At(most)} {
		b := laid(o)
		for n := range b {
			wantParse(t, b[:n], Op{}, api.ErrShort)
		}
	}
	wantParse(t, []byte{}, Op{}, api.ErrShort)
	wantParse(t, []byte{1, 255, 255}, Op{}, api.ErrShort)
	wantParse(t, append([]byte{1, 255, 255}, make([]byte, 65534+16)...), Op{}, api.ErrShort)
	wantParse(t, append([]byte{1, 255, 255}, make([]byte, 65535+16)...), Op{}, api.ErrKey)
}

// P6.2: a first byte that is no kind is told ahead of all else, whatever follows.
func TestParseTag(t *testing.T) {
	for k := range 256 {
		if k == 1 || k == 2 {
			continue
		}
		for _, n := range []int{0, 1, 7, 8, 9, 16, 18, 19, 20, 40} {
			for _, c := range []byte{0, 1, 2, 0xFF} {
				wantParse(t, append([]byte{byte(k)}, bytes.Repeat([]byte{c}, n)...), Op{}, api.ErrTag)
				wantParseAll(t, append([]byte{byte(k)}, bytes.Repeat([]byte{c}, n)...), nil, api.ErrTag)
			}
		}
	}
}

// P6.3: none, one, many; one that is not right leaves nothing, wherever it stands, and the first of several is told.
func TestPutAll(t *testing.T) {
	a, m := Of("xy", 256, -3), At(-1)
	tag, key, time := Op{}, Of("", most, 0), At(most)
	for _, c := range []struct {
		l []Op
		e api.Errno
	}{
		{nil, api.OK}, {[]Op{}, api.OK}, {[]Op{a}, api.OK}, {[]Op{m}, api.OK}, {[]Op{a, m}, api.OK}, {[]Op{m, a}, api.OK}, {[]Op{m, m, m}, api.OK}, {[]Op{a, m, a, a, m}, api.OK},
		{[]Op{tag}, api.ErrTag}, {[]Op{key}, api.ErrKey}, {[]Op{time}, api.ErrTime},
		{[]Op{tag, a}, api.ErrTag}, {[]Op{a, tag}, api.ErrTag}, {[]Op{a, key, m}, api.ErrKey}, {[]Op{m, a, m, time}, api.ErrTime},
		{[]Op{a, time, key, tag}, api.ErrTime}, {[]Op{key, tag, time}, api.ErrKey}, {[]Op{m, tag, key}, api.ErrTag},
	} {
		var want []byte
		for _, o := range c.l {
			want = append(want, laid(o)...)
		}
		if c.e != api.OK {
			want = nil
		}
		if b, e := PutAll(c.l...); !bytes.Equal(b, want) || e != c.e {
			t.Errorf("PutAll(%v): % X, %d; want % X, %d", c.l, b, e, want, c.e)
		}
	}
	if b, e := PutAll(); len(b) != 0 || e != api.OK {
		t.Errorf("PutAll(): % X, %d", b, e)
	}
}

// P6.3: none, one, many; the first that fails is told, with nothing: one that is not right ahead of bytes behind it that end too early, or are no kind.
func TestParseAll(t *testing.T) {
	a, m := Of("xy", 256, -3), At(-1)
	join := func(l ...Op) []byte {
		var b []byte
		for _, o := range l {
			b = append(b, laid(o)...)
		}
		return b
	}
	wantParseAll(t, nil, nil, api.OK)
	wantParseAll(t, []byte{}, nil, api.OK)
	for _, l := range [][]Op{{a}, {m}, {a, m}, {m, a}, {a, a}, {m, m, a, m}} {
		wantParseAll(t, join(l...), l, api.OK)
		wantParseAll(t, append(join(l...), 0), nil, api.ErrTag)
		wantParseAll(t, append(join(l...), 3), nil, api.ErrTag)
		wantParseAll(t, append(join(l...), 1), nil, api.ErrShort)
		wantParseAll(t, append(join(l...), 2), nil, api.ErrShort)
	}
	key, time := Of("", most, 0), At(timeLimit+1)
	for _, c := range []struct {
		b []byte
		e api.Errno
	}{
		{join(key), api.ErrKey}, {join(time), api.ErrTime}, {join(a, key), api.ErrKey}, {join(a, m, time), api.ErrTime}, {join(time, a), api.ErrTime}, {join(Of(strings.Repeat("k", 33), 0, 0), a), api.ErrKey},
		{join(time, key), api.ErrTime}, {join(key, time), api.ErrKey}, {join(a, time, key, m), api.ErrTime},
		{append(join(time), 3), api.ErrTime}, {append(join(key), 3), api.ErrKey}, {append(join(time), 2), api.ErrTime}, {append(join(m, key), 1, 0), api.ErrKey},
		{append([]byte{3}, join(time)...), api.ErrTag}, {append([]byte{1, 255, 255}, join(time, a)...), api.ErrShort},
	} {
		wantParseAll(t, c.b, nil, c.e)
	}
}

// P6.3: bytes cut at every place: what is whole there, if it ends there; else ErrShort.
func TestParseAllCut(t *testing.T) {
	r := rand.New(rand.NewPCG(6, 1))
	for range 200 {
		var b []byte
		ends := map[int][]Op{0: nil}
		l := rightOps(r, 5)
		for i, o := range l {
			b = append(b, laid(o)...)
			ends[len(b)] = l[:i+1]
		}
		for n := range len(b) + 1 {
			if whole, ok := ends[n]; ok {
				wantParseAll(t, b[:n], whole, api.OK)
			} else {
				wantParseAll(t, b[:n], nil, api.ErrShort)
			}
		}
	}
}

// P6.4: bytes and operations are only read, what lies behind their length included.
func TestOnlyRead(t *testing.T) {
	memory := slices.Concat([]byte("...."), laid(Of("xy", 5, 6)), laid(At(7)), []byte("...."))
	before := bytes.Clone(memory)
	whole := memory[4 : len(memory)-4]
	Parse(whole)
	Parse(whole[:21])
	Parse(whole[:20])
	ParseAll(whole)
	ParseAll(whole[:25])
	if !bytes.Equal(memory, before) {
		t.Errorf("the bytes became % X", memory)
	}
	ops := []Op{At(9), Of("b", 1, 1), At(2), {}, Of("c", 3, 3)}
	opsBefore := slices.Clone(ops)
	PutAll(ops[1:3]...)
	PutAll(ops[1:4]...)
	PutAll(ops[1:1]...)
	if !slices.Equal(ops, opsBefore) {
		t.Errorf("the operations became %v", ops)
	}
}

// P6.4: what was parsed stays as it was when the bytes change; what was answered twice stands in two places.
func TestAnswersAreNew(t *testing.T) {
	ops := []Op{Of("xy", 5, 6), At(7)}
	b := slices.Concat(laid(ops[0]), laid(ops[1]))
	one, _ := Parse(b[:21])
	all, _ := ParseAll(b)
	other, _ := ParseAll(b)
	for i := range b {
		b[i] = 0xEE
	}
	if one != ops[0] || !slices.Equal(all, ops) {
		t.Errorf("%v, %v", one, all)
	}
	all[0] = Op{}
	_ = append(all, Op{}, Op{})
	if !slices.Equal(other, ops) {
		t.Errorf("a change of one answer is seen in another one: %v", other)
	}
	for name, put := range map[string]func() ([]byte, api.Errno){
		"Put":           func() ([]byte, api.Errno) { return Put(ops[0]) },
		"PutAll of one": func() ([]byte, api.Errno) { return PutAll(ops[1]) },
		"PutAll":        func() ([]byte, api.Errno) { return PutAll(ops...) },
	} {
		first, _ := put()
		second, _ := put()
		kept := bytes.Clone(second)
		for i := range first {
			first[i] ^= 0xFF
		}
		_ = append(first, 0xEE)
		if third, _ := put(); len(kept) == 0 || !bytes.Equal(second, kept) || !bytes.Equal(third, kept) {
			t.Errorf("%s: % X, % X, want % X", name, second, third, kept)
		}
	}
}

// P6.5: what is packed is parsed as it was, alone and among others.
func TestPackedIsParsed(t *testing.T) {
	r := rand.New(rand.NewPCG(6, 2))
	for range 20000 {
		o := rightOp(r)
		b, e := Put(o)
		if e != api.OK {
			t.Fatalf("Put(%v): %d", o, e)
		}
		wantParse(t, b, o, api.OK)
	}
	for range 3000 {
		l := rightOps(r, 9)
		b, e := PutAll(l...)
		if e != api.OK {
			t.Fatalf("PutAll(%v): %d", l, e)
		}
		wantParseAll(t, b, l, api.OK)
	}
	var many []Op
	for range 50000 {
		many = append(many, rightOp(r))
	}
	b, _ := PutAll(many...)
	if l, e := ParseAll(b); !slices.Equal(l, many) || e != api.OK {
		t.Errorf("of %d, %d came back, %d", len(many), len(l), e)
	}
}

// broken are the bytes of some operations, of which some bytes were changed, taken or added.
func broken(r *rand.Rand) []byte {
	b, _ := PutAll(rightOps(r, 3)...)
	for range 1 + r.IntN(2) {
		at := r.IntN(len(b) + 1)
		switch r.IntN(4) {
		case 0:
			b = slices.Insert(b, at, byte(r.IntN(4)))
		case 1:
			b = b[:at]
		case 2:
			b = slices.Delete(b, at, min(at+1, len(b)))
		default:
			if at < len(b) {
				b[at] = byte(r.IntN(4)) + byte(r.IntN(2))*0xFC
			}
		}
	}
	return b
}

// P6.5: what is parsed is right, and packed as those bytes, whatever they were; Parse and ParseAll tell the same of one.
func TestParsedIsPackedSo(t *testing.T) {
	r := rand.New(rand.NewPCG(6, 3))
	seen := map[api.Errno]int{}
	for range 100000 {
		b := broken(r)
		o, e := Parse(b)
		l, allErrno := ParseAll(b)
		seen[e]++
		if e == api.OK {
			if Right(o) != api.OK || allErrno != api.OK || !slices.Equal(l, []Op{o}) {
				t.Errorf("% X: %v; all: %v, %d", b, o, l, allErrno)
			}
			wantPut(t, o, b, api.OK)
		} else if o != (Op{}) || e != api.ErrRest && len(b) > 0 && allErrno != e {
			t.Errorf("% X: %v, %d; all: %d", b, o, e, allErrno)
		}
		if allErrno != api.OK {
			if len(l) != 0 {
				t.Errorf("% X: %v beside %d", b, l, allErrno)
			}
		} else if again, putErrno := PutAll(l...); putErrno != api.OK || !bytes.Equal(again, b) {
			t.Errorf("% X: packed again % X, %d", b, again, putErrno)
		}
	}
	for _, e := range []api.Errno{api.OK, api.ErrTag, api.ErrShort, api.ErrRest, api.ErrKey, api.ErrTime} {
		if seen[e] == 0 {
			t.Errorf("error %d was not seen: %v", e, seen)
		}
	}
}

// P6.5: no operation is packed as the beginning of another one.
func TestNoneBeginsAnother(t *testing.T) {
	ops := []Op{Of("a", 0, 0), Of("ab", 0, 0), Of("a\x00", 0, 0), Of("\x00", 0, 0), Of("\x00\x00", 0, 0), Of("\x02", 0, 0), At(0), At(1), At(256)}
	r := rand.New(rand.NewPCG(6, 4))
	for range 500 {
		ops = append(ops, rightOp(r))
	}
	for _, a := range ops {
		for _, b := range ops {
			first, _ := Put(a)
			second, _ := Put(b)
			if len(first) == 0 || a != b && bytes.HasPrefix(second, first) {
				t.Errorf("%v is packed as the beginning of %v", a, b)
			}
		}
	}
}
