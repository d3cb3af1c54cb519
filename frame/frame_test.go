package frame

import (
	"bytes"
	"encoding/binary"
	"hash/crc32"
	"math"
	"math/rand/v2"
	"slices"
	"testing"

	"tidepool/api"
)

const longest = 8192 // written anew: the chapter names the number

func someBytes(r *rand.Rand, n int) []byte {
	b := make([]byte, n)
	for i := range b {
		b[i] = byte(r.Uint32())
	}
	return b
}

// head is four bytes that tell a length, the greatest first.
func head(n uint32) []byte { return binary.BigEndian.AppendUint32(nil, n) }

// laid is a body's frame, however long, written by other packages than the program's.
func laid(body []byte) []byte {
	b := append(head(uint32(len(body))), body...)
	return binary.BigEndian.AppendUint32(b, crc32.ChecksumIEEE(body))
}

// spoilt is a body's frame in which one binary digit behind its first four bytes is another one.
func spoilt(r *rand.Rand, body []byte) []byte {
	b := laid(body)
	b[4+r.IntN(len(b)-4)] ^= 1 << r.IntN(8)
	return b
}

// someBody has mostly few bytes, now and then many, up to the greatest number.
func someBody(r *rand.Rand) []byte {
	switch r.IntN(12) {
	case 0:
		return someBytes(r, r.IntN(longest+1))
	case 1:
		return someBytes(r, 250+r.IntN(12))
	}
	return someBytes(r, r.IntN(6))
}

// mixed is frames of all sorts, one behind the other; now and then one is too long, cut, or its length is another one.
func mixed(r *rand.Rand) []byte {
	var b []byte
	for range r.IntN(8) {
		switch r.IntN(16) {
		case 0:
			b = append(b, head(longest+1+uint32(r.IntN(1<<r.IntN(31))))...)
		case 1:
			one := laid(someBody(r))
			b = append(b, one[:r.IntN(len(one))]...)
		case 2:
			one := laid(someBody(r))
			one[2+r.IntN(2)] ^= 1 << r.IntN(8)
			b = append(b, one...)
		case 3, 4, 5:
			b = append(b, spoilt(r, someBody(r))...)
		default:
			b = append(b, laid(someBody(r))...)
		}
	}
	return b
}

// stands is what stands at a place of b, as the chapter words it.
func stands(b []byte, at int) (body []byte, next int, e api.Errno) {
	if at < 0 || at > len(b) || len(b)-at < 4 {
		return nil, at, api.ErrMore
	}
	n := binary.BigEndian.Uint32(b[at:])
	if n > longest {
		return nil, at, api.ErrLength
	}
	if len(b)-at-8 < int(n) {
		return nil, at, api.ErrMore
	}
	body, next = b[at+4:at+4+int(n)], at+8+int(n)
	if crc32.ChecksumIEEE(body) != binary.BigEndian.Uint32(b[next-4:]) {
		return nil, next, api.ErrCheck
	}
	return body, next, api.OK
}

// allThatStands is what stands one behind the other, and the place of what is not told.
func allThatStands(b []byte) (l []Found, at int) {
	for {
		body, next, e := stands(b, at)
		if e == api.ErrMore {
			return l, at
		}
		l, at = append(l, Found{Body: body, Err: e}), next
		if e == api.ErrLength {
			return l, at
		}
	}
}

func sameFound(a, b Found) bool { return bytes.Equal(a.Body, b.Body) && a.Err == b.Err }

func sameAll(a, b []Found) bool { return slices.EqualFunc(a, b, sameFound) }

func wantPut(t *testing.T, body []byte, want []byte, wantErrno api.Errno) {
	t.Helper()
	if b, e := Put(body); !bytes.Equal(b, want) || e != wantErrno {
		t.Errorf("Put of %d bytes: %d bytes, % .12X, %d; want % .12X, %d", len(body), len(b), b, e, want, wantErrno)
	}
}

func wantJoin(t *testing.T, l [][]byte, want []byte, wantErrno api.Errno) {
	t.Helper()
	if b, e := Join(l...); !bytes.Equal(b, want) || e != wantErrno {
		t.Errorf("Join of %d bodies: %d bytes, % .40X, %d; want %d bytes, % .40X, %d", len(l), len(b), b, e, len(want), want, wantErrno)
	}
}

func wantTake(t *testing.T, b []byte, at int, want []byte, wantNext int, wantErrno api.Errno) {
	t.Helper()
	if body, next, e := Take(b, at); !bytes.Equal(body, want) || next != wantNext || e != wantErrno {
		t.Errorf("Take of % .20X, %d bytes, at %d: % .20X, %d, %d; want % .20X, %d, %d", b, len(b), at, body, next, e, want, wantNext, wantErrno)
	}
}

func wantAll(t *testing.T, b []byte, want []Found, wantNext int) {
	t.Helper()
	if l, next := All(b); !sameAll(l, want) || next != wantNext {
		t.Errorf("All of % .40X, %d bytes: % .40X, %d; want % .40X, %d", b, len(b), l, next, want, wantNext)
	}
}

func wantNext(t *testing.T, s *Stream, want Found, wantAny bool) {
	t.Helper()
	if found, ok := s.Next(); !sameFound(found, want) || ok != wantAny {
		t.Errorf("Next: % .20X, %v; want % .20X, %v", found, ok, want, wantAny)
	}
}

func wantState(t *testing.T, s *Stream, left int, dead bool) {
	t.Helper()
	for range 2 { // asking changes nothing
		if s.Left() != left || s.Dead() != dead {
			t.Errorf("Left %d, Dead %v; want %d, %v", s.Left(), s.Dead(), left, dead)
		}
	}
}

// rest is all that a stream tells now.
func rest(s *Stream) (l []Found) {
	for found, ok := s.Next(); ok; found, ok = s.Next() {
		l = append(l, found)
	}
	return l
}

// P7.1, P7.2: the chapter's examples.
func TestExamples(t *testing.T) {
	wantPut(t, nil, make([]byte, 8), api.OK)
	wantTake(t, make([]byte, 8), 0, nil, 8, api.OK)
	a := []byte{0, 0, 0, 1, 0x61, 0xE8, 0xB7, 0xBE, 0x43}
	wantPut(t, []byte("a"), a, api.OK)
	wantTake(t, a, 0, []byte("a"), 9, api.OK)
	b := bytes.Clone(a)
	b[4] = 0x62
	wantTake(t, b, 0, nil, 9, api.ErrCheck)
	wantTake(t, a[:8], 0, nil, 0, api.ErrMore)
	wantTake(t, []byte{0, 0, 0x20, 1}, 0, nil, 0, api.ErrLength)
}

// P7.1: bodies of any bytes, up to the greatest number of them.
func TestPut(t *testing.T) {
	r := rand.New(rand.NewPCG(7, 1))
	wantPut(t, []byte{}, laid(nil), api.OK)
	for _, n := range []int{0, 1, 2, 3, 4, 5, 8, 255, 256, 257, 4095, 4096, 4097, longest - 1, longest} {
		for _, body := range [][]byte{make([]byte, n), bytes.Repeat([]byte{0xFF}, n), someBytes(r, n)} {
			wantPut(t, body, laid(body), api.OK)
		}
	}
}

// P7.1: one past the greatest number of bytes, and far past it.
func TestPutTooLong(t *testing.T) {
	for _, n := range []int{longest + 1, longest + 2, 2 * longest, 1<<16 - 1, 1 << 16, 1<<16 + 1, 1 << 24} {
		wantPut(t, make([]byte, n), nil, api.ErrLength)
		wantJoin(t, [][]byte{make([]byte, n)}, nil, api.ErrLength)
	}
}

// P7.1: none, empty ones, one, many, the longest ones.
func TestJoin(t *testing.T) {
	wantJoin(t, nil, nil, api.OK)
	long := bytes.Repeat([]byte("l"), longest)
	for _, l := range [][][]byte{
		{}, {nil}, {{}}, {nil, {}, nil}, {{1}}, {{1, 2}, {3}}, {{3}, {1, 2}}, {nil, {0}, {}, {0, 0}, nil}, {long}, {{1}, long, long, nil},
	} {
		var want []byte
		for _, body := range l {
			want = append(want, laid(body)...)
		}
		wantJoin(t, l, want, api.OK)
	}
	body := []byte("twice")
	wantJoin(t, [][]byte{body, body}, slices.Concat(laid(body), laid(body)), api.OK)
}

// P7.1: one body that is too long, wherever it stands, leaves nothing.
func TestJoinTooLong(t *testing.T) {
	long := make([]byte, longest+1)
	for at := range 5 {
		l := [][]byte{[]byte("a"), nil, make([]byte, longest), []byte("b")}
		wantJoin(t, slices.Insert(l, at, long), nil, api.ErrLength)
	}
	wantJoin(t, [][]byte{long, long}, nil, api.ErrLength)
}

// P7.2: whatever stands ahead and behind.
func TestTakeBetween(t *testing.T) {
	r := rand.New(rand.NewPCG(7, 2))
	for _, n := range []int{0, 1, 3, 4, 255, 256, longest - 1, longest} {
		body := someBytes(r, n)
		for range 6 {
			before, after := someBytes(r, r.IntN(20)), someBytes(r, r.IntN(20))
			b := slices.Concat(before, laid(body), after)
			wantTake(t, b, len(before), body, len(b)-len(after), api.OK)
			b = slices.Concat(before, spoilt(r, body), after)
			wantTake(t, b, len(before), nil, len(b)-len(after), api.ErrCheck)
		}
	}
}

// P7.2: each cut of a frame is not enough; so it is ahead of others.
func TestTakeCut(t *testing.T) {
	r := rand.New(rand.NewPCG(7, 3))
	for _, n := range []int{0, 1, 2, 300, longest} {
		b := slices.Concat(laid([]byte("ahead")), laid(someBytes(r, n)))
		for end := 13; end < len(b); end++ {
			if end > 40 && end < len(b)-40 && end%97 != 0 {
				continue
			}
			wantTake(t, b[:end], 13, nil, 13, api.ErrMore)
			wantTake(t, b[13:end], 0, nil, 0, api.ErrMore)
		}
	}
}

// P7.2: what is no place of the bytes, and the place behind all of them.
func TestTakeNoPlace(t *testing.T) {
	whole := laid(nil)
	for _, b := range [][]byte{nil, {}, {0}, whole, whole[:3], head(longest + 1)} {
		for _, at := range []int{math.MinInt, math.MinInt + 1, -1 << 32, -9, -8, -4, -1, len(b), len(b) + 1, len(b) + 4, len(b) + 8, 1 << 32, math.MaxInt - 8, math.MaxInt - 4, math.MaxInt} {
			wantTake(t, b, at, nil, at, api.ErrMore)
		}
	}
	memory := slices.Concat(whole, whole) // the bytes behind the length are none of the list's
	wantTake(t, memory[:8], 8, nil, 8, api.ErrMore)
	wantTake(t, memory[:12], 8, nil, 8, api.ErrMore)
}

// P7.2: lengths past the greatest one are too long as soon as their four bytes are there, whatever stands behind.
func TestTakeTooLong(t *testing.T) {
	tail := make([]byte, 3*longest)
	for _, n := range []uint32{longest + 1, longest + 2, 2 * longest, 1<<16 - 1, 1 << 16, 1<<16 + 1, 1 << 24, 1<<31 - 1, 1 << 31, 1<<31 + 1, math.MaxUint32 - 8, math.MaxUint32 - 3, math.MaxUint32} {
		wantTake(t, head(n), 0, nil, 0, api.ErrLength)
		wantTake(t, append(head(n), 7), 0, nil, 0, api.ErrLength)
		wantTake(t, slices.Concat([]byte("abc"), head(n), tail), 3, nil, 3, api.ErrLength)
		wantTake(t, head(n)[:3], 0, nil, 0, api.ErrMore)
	}
	wantTake(t, laid(make([]byte, longest+1)), 0, nil, 0, api.ErrLength)
	wantTake(t, head(longest), 0, nil, 0, api.ErrMore)
}

// P7.2: at every place of any bytes.
func TestTakeAnywhere(t *testing.T) {
	r := rand.New(rand.NewPCG(7, 4))
	for range 300 {
		b := mixed(r)
		if r.IntN(3) == 0 {
			b = someBytes(r, r.IntN(40))
			for i := range b {
				b[i] &= byte(r.IntN(4)) // lengths that fit in what there is
			}
		}
		for at := -2; at < len(b)+2; at += 1 + r.IntN(1+len(b)/200) {
			body, next, e := stands(b, at)
			wantTake(t, b, at, body, next, e)
		}
	}
}

// P7.3: by hand: nothing, whole ones, and what ends them.
func TestAllByHand(t *testing.T) {
	a, none, odd, tooLong := laid([]byte("a")), laid(nil), laid([]byte("b")), head(longest+1)
	odd[4] = 'c'
	foundA, foundNone, foundOdd, foundLong := Found{Body: []byte("a")}, Found{}, Found{Err: api.ErrCheck}, Found{Err: api.ErrLength}
	for _, c := range []struct {
		b    []byte
		want []Found
		next int
	}{
		{nil, nil, 0}, {[]byte{}, nil, 0}, {a[:3], nil, 0}, {a[:8], nil, 0},
		{a, []Found{foundA}, 9}, {none, []Found{foundNone}, 8}, {odd, []Found{foundOdd}, 9}, {tooLong, []Found{foundLong}, 0},
		{slices.Concat(a, none, a), []Found{foundA, foundNone, foundA}, 26},
		{slices.Concat(odd, odd, a), []Found{foundOdd, foundOdd, foundA}, 27},
		{slices.Concat(a, odd, a[:8]), []Found{foundA, foundOdd}, 18},
		{slices.Concat(a, []byte{0}), []Found{foundA}, 9},
		{slices.Concat(a, odd, tooLong), []Found{foundA, foundOdd, foundLong}, 18},
		{slices.Concat(a, tooLong, a, a), []Found{foundA, foundLong}, 9},
		{slices.Concat(tooLong, tooLong, make([]byte, 9000)), []Found{foundLong}, 0},
		{slices.Concat(a, tooLong[:3]), []Found{foundA}, 9},
	} {
		wantAll(t, c.b, c.want, c.next)
	}
}

// P7.3: of any bytes.
func TestAll(t *testing.T) {
	r := rand.New(rand.NewPCG(7, 5))
	seen := map[api.Errno]int{}
	for range 4000 {
		b := mixed(r)
		want, next := allThatStands(b)
		wantAll(t, b, want, next)
		for _, found := range want {
			seen[found.Err]++
		}
		if _, _, e := stands(b, next); e == api.ErrMore && next < len(b) {
			seen[e]++
		}
	}
	for _, e := range []api.Errno{api.OK, api.ErrCheck, api.ErrLength, api.ErrMore} {
		if seen[e] < 100 {
			t.Errorf("error %d was seen too seldom: %v", e, seen)
		}
	}
}

// P7.4: a new stream, and one that is blank, was fed nothing; nothing may be fed to it.
func TestNewStream(t *testing.T) {
	for _, s := range []*Stream{NewStream(), {}} {
		wantState(t, s, 0, false)
		wantNext(t, s, Found{}, false)
		s.Feed()
		s.Feed(nil, []byte{}, nil)
		wantState(t, s, 0, false)
		wantNext(t, s, Found{}, false)
		s.Feed(nil, laid([]byte("a")), nil)
		wantState(t, s, 9, false)
		wantNext(t, s, Found{Body: []byte("a")}, true)
		wantState(t, s, 0, false)
	}
	one, other := NewStream(), NewStream()
	one.Feed(laid(nil))
	wantState(t, other, 0, false)
}

// P7.4: of a nil stream.
func TestNilStream(t *testing.T) {
	var s *Stream
	for range 2 {
		s.Feed()
		s.Feed(laid([]byte("a")), nil)
		wantState(t, s, 0, true)
		wantNext(t, s, Found{Err: api.ErrNil}, false)
	}
}

// P7.4: what is not enough is kept, byte by byte, till the frame is all there.
func TestStreamByteByByte(t *testing.T) {
	s := NewStream()
	for i, c := range laid([]byte("body")) {
		wantNext(t, s, Found{}, false)
		wantState(t, s, i, false)
		s.Feed([]byte{c})
	}
	wantState(t, s, 12, false)
	wantNext(t, s, Found{Body: []byte("body")}, true)
	wantNext(t, s, Found{}, false)
	wantState(t, s, 0, false)
}

// P7.4: pieces of one call stand one behind the other; what is told is kept no more, what is spoilt neither.
func TestStreamManyPieces(t *testing.T) {
	s := NewStream()
	a, odd := laid([]byte("abc")), laid([]byte("xy"))
	odd[9] ^= 0x80
	s.Feed(a[:2], nil, a[2:5], a[5:], odd, a, a[:4])
	wantState(t, s, 11+10+11+4, false)
	wantNext(t, s, Found{Body: []byte("abc")}, true)
	wantState(t, s, 10+11+4, false)
	wantNext(t, s, Found{Err: api.ErrCheck}, true)
	wantState(t, s, 11+4, false)
	s.Feed(a[4:])
	wantState(t, s, 11+11, false)
	wantNext(t, s, Found{Body: []byte("abc")}, true)
	wantNext(t, s, Found{Body: []byte("abc")}, true)
	wantNext(t, s, Found{}, false)
	wantState(t, s, 0, false)
}

// P7.4: what is too long is told once; the stream is dead behind that, not ahead of it, and throws away what it is fed.
func TestStreamDies(t *testing.T) {
	for _, n := range []uint32{longest + 1, 1 << 31, math.MaxUint32} {
		s := NewStream()
		s.Feed(laid([]byte("a")), head(n)[:3])
		wantNext(t, s, Found{Body: []byte("a")}, true)
		wantNext(t, s, Found{}, false)
		wantState(t, s, 3, false)
		s.Feed(head(n)[3:], laid(nil))
		wantState(t, s, 12, false)
		s.Feed(laid([]byte("b")))
		wantState(t, s, 21, false)
		wantNext(t, s, Found{Err: api.ErrLength}, true)
		for range 3 {
			wantState(t, s, 0, true)
			wantNext(t, s, Found{}, false)
			s.Feed(laid(nil), head(n), laid([]byte("c")))
		}
	}
}

// P7.4: the greatest length is none that is too long.
func TestStreamLongest(t *testing.T) {
	body := someBytes(rand.New(rand.NewPCG(7, 6)), longest)
	b := laid(body)
	s := NewStream()
	s.Feed(b[:len(b)-1])
	wantNext(t, s, Found{}, false)
	wantState(t, s, longest+7, false)
	s.Feed(b[len(b)-1:])
	wantNext(t, s, Found{Body: body}, true)
	wantState(t, s, 0, false)
}

// P7.5: what is handed in is only read, what lies behind its length included.
func TestOnlyRead(t *testing.T) {
	memory := slices.Concat([]byte("...."), laid([]byte("ab")), laid(nil), head(longest+1), []byte("...."))
	before := bytes.Clone(memory)
	for end := 4; end <= len(memory)-4; end++ {
		b := memory[4:end]
		Put(b)
		Join(b, b[:0], b)
		Take(b, 0)
		Take(b, 10)
		All(b)
		s := NewStream()
		for range 3 {
			s.Feed(b, b[:len(b)/2])
			rest(s)
		}
	}
	if !bytes.Equal(memory, before) {
		t.Errorf("the bytes became % X", memory)
	}
	bodies := [][]byte{[]byte("x"), []byte("y"), nil, []byte("z")}
	Join(bodies[:2]...)
	NewStream().Feed(bodies[:2]...)
	if !slices.EqualFunc(bodies, [][]byte{[]byte("x"), []byte("y"), nil, []byte("z")}, bytes.Equal) {
		t.Errorf("the bodies became %q", bodies)
	}
}

// P7.5: a stream keeps what it was fed as it was then.
func TestFedIsCopied(t *testing.T) {
	s := NewStream()
	piece := make([]byte, 4, 64)
	var all []byte
	for i := range 40 {
		all = append(all, laid([]byte{byte(i), byte(i + 1), byte(i + 2)})...)
	}
	var told []Found
	for b := all; len(b) > 0; {
		n := copy(piece, b)
		b = b[n:]
		s.Feed(piece[:n])
		spend(piece)
		if len(b)%5 == 0 {
			told = append(told, rest(s)...)
		}
	}
	told = append(told, rest(s)...)
	if want, _ := allThatStands(all); !sameAll(told, want) {
		t.Errorf("told % X, want % X", told, want)
	}
}

// spend changes all of an answer's memory, what lies behind its length included.
func spend(b []byte) {
	b = b[:cap(b)]
	for i := range b {
		b[i] = 0xEE
	}
}

// P7.5: an answer that is changed changes nothing else: no argument, no other answer, no stream.
func TestAnswersAreNew(t *testing.T) {
	bodies := [][]byte{[]byte("one"), []byte("2"), []byte("three")}
	want := slices.Concat(laid(bodies[0]), laid(bodies[1]), laid(bodies[2]))
	first, _ := Join(bodies...)
	single, _ := Put(bodies[0])
	spend(first)
	spend(single)
	wantJoin(t, bodies, want, api.OK)
	wantPut(t, bodies[0], want[:11], api.OK)

	b := bytes.Clone(want)
	body, _, _ := Take(b, 0)
	spend(body)
	wantTake(t, b, 0, bodies[0], 11, api.OK)
	l, _ := All(b)
	for i, found := range l {
		if !bytes.Equal(found.Body, bodies[i]) {
			t.Errorf("body %d became %q", i, found.Body)
		}
		spend(found.Body)
	}
	if !bytes.Equal(b, want) {
		t.Errorf("the bytes became % X", b)
	}

	s := NewStream()
	s.Feed(b)
	for range 100 {
		for _, body := range bodies {
			found, _ := s.Next()
			if !bytes.Equal(found.Body, body) {
				t.Fatalf("a stream tells %q, not %q", found.Body, body)
			}
			spend(found.Body)
			frame := laid(body)
			s.Feed(frame[:5], frame[5:])
		}
	}
}

// P7.5: what was told stays as it was when the bytes change.
func TestToldStays(t *testing.T) {
	b := slices.Concat(laid([]byte("ab")), laid([]byte("cd")))
	body, _, _ := Take(b, 0)
	l, _ := All(b)
	s := NewStream()
	s.Feed(b)
	found, _ := s.Next()
	spend(b)
	s.Feed(bytes.Repeat([]byte{0xEE}, 100))
	if string(body) != "ab" || string(l[0].Body) != "ab" || string(l[1].Body) != "cd" || string(found.Body) != "ab" {
		t.Errorf("%q, %q, %q", body, l, found.Body)
	}
	wantNext(t, s, Found{Body: []byte("cd")}, true)
}

// P7.6: what is put is taken as it was, alone and among others.
func TestPutIsTaken(t *testing.T) {
	r := rand.New(rand.NewPCG(7, 7))
	for range 500 {
		var bodies [][]byte
		var want []Found
		for range r.IntN(9) {
			body := someBody(r)
			b, _ := Put(body)
			wantTake(t, b, 0, body, len(b), api.OK)
			bodies, want = append(bodies, body), append(want, Found{Body: body})
		}
		b, _ := Join(bodies...)
		wantAll(t, b, want, len(b))
		s := NewStream()
		s.Feed(b)
		if told := rest(s); !sameAll(told, want) {
			t.Errorf("a stream tells % .40X, not % .40X", told, want)
		}
	}
}

// inPieces feeds b by pieces of up to most bytes, and asks now and then; Left and Dead are held against what was fed and told.
func inPieces(t *testing.T, r *rand.Rand, b []byte, most, seldom int) (told []Found) {
	t.Helper()
	s := NewStream()
	want, _ := allThatStands(b)
	fed, past, dead := 0, 0, false
	ask := func() bool {
		found, ok := s.Next()
		if !ok {
			if len(found.Body) > 0 || found.Err != api.OK {
				t.Fatalf("% .20X beside false", found)
			}
			return false
		}
		told = append(told, found)
		if len(told) > len(want) || !sameFound(found, want[len(told)-1]) {
			t.Fatalf("told % .20X as number %d", found, len(told))
		}
		dead = found.Err == api.ErrLength
		_, past, _ = stands(b, past)
		return true
	}
	for fed < len(b) {
		n := min(r.IntN(most+1), len(b)-fed)
		cut := r.IntN(n + 1)
		s.Feed(b[fed:fed+cut], b[fed+cut:fed+n])
		fed += n
		for r.IntN(seldom) == 0 && ask() {
		}
		if dead {
			wantState(t, s, 0, true)
		} else {
			wantState(t, s, fed-past, false)
		}
	}
	for ask() {
	}
	return told
}

// P7.6, P7.4: whatever the pieces, and whenever it is asked, the same is told.
func TestPieces(t *testing.T) {
	r := rand.New(rand.NewPCG(7, 8))
	for range 3000 {
		b := mixed(r)
		want, _ := allThatStands(b)
		if told := inPieces(t, r, b, 1+r.IntN(1+len(b)), 1+r.IntN(4)); !sameAll(told, want) {
			t.Errorf("% .40X: told % .40X, want % .40X", b, told, want)
		}
	}
}

// P7.6: many frames, of which the stream keeps many while it is asked.
func TestPiecesOfMany(t *testing.T) {
	r := rand.New(rand.NewPCG(7, 9))
	for _, c := range []struct{ most, seldom int }{{3, 1}, {3, 4}, {40, 2}, {40, 9}, {9000, 2}, {1 << 20, 3}} {
		var b []byte
		for range 1500 {
			if r.IntN(5) == 0 {
				b = append(b, spoilt(r, someBytes(r, r.IntN(9)))...)
			} else {
				b = append(b, laid(someBytes(r, r.IntN(50)))...)
			}
		}
		b = append(b, 0, 0)
		want, next := allThatStands(b)
		if told := inPieces(t, r, b, c.most, c.seldom); len(want) != 1500 || next != len(b)-2 || !sameAll(told, want) {
			t.Errorf("of %d, %d were told", len(want), len(told))
		}
	}
}

// P7.6: each digit behind the first four bytes of a frame, one by one: it is spoilt, the others are told as they are.
func TestOneDigitSpoils(t *testing.T) {
	r := rand.New(rand.NewPCG(7, 10))
	for _, n := range []int{0, 1, 2, 31, 300} {
		first, middle, last := someBytes(r, r.IntN(9)), someBytes(r, n), someBytes(r, r.IntN(9))
		b := slices.Concat(laid(first), laid(middle), laid(last))
		start := len(first) + 8
		for digit := 8 * (start + 4); digit < 8*(start+8+n); digit++ {
			b[digit/8] ^= 1 << (digit % 8)
			wantTake(t, b, start, nil, start+8+n, api.ErrCheck)
			want := []Found{{Body: first}, {Err: api.ErrCheck}, {Body: last}}
			wantAll(t, b, want, len(b))
			s := NewStream()
			s.Feed(b)
			if told := rest(s); !sameAll(told, want) {
				t.Errorf("digit %d: % X", digit, told)
			}
			b[digit/8] ^= 1 << (digit % 8)
		}
	}
}

// P7.6: so it is with the longest body.
func TestOneDigitSpoilsTheLongest(t *testing.T) {
	r := rand.New(rand.NewPCG(7, 11))
	body := someBytes(r, longest)
	for range 300 {
		b := append(spoilt(r, body), laid([]byte("next"))...)
		wantAll(t, b, []Found{{Err: api.ErrCheck}, {Body: []byte("next")}}, len(b))
	}
}
