package request

import (
	"bytes"
	"encoding/binary"
	"math"
	"math/rand/v2"
	"slices"
	"strings"
	"testing"

	"tidepool/api"
	"tidepool/frame"
)

const least, most = math.MinInt64, math.MaxInt64

// panes are the parts that tell which panes.
var panes = []string{"Sort", "Key", "To", "Least", "Most"}

// named are the parts of each kind, in order, written anew from the chapter's table.
var named = map[uint8][]string{
	1: append([]string{"At", "Page"}, panes...),
	2: {"At", "Dur"},
	3: {"Lease", "Dur"},
	4: {"Lease"},
	5: append([]string{"Dur"}, panes...),
	6: {"Lease", "Page", "Dur"},
	7: {"Lease"},
	8: {},
}

// namedOf are the parts that a Sort names.
var namedOf = map[uint8][]string{
	1: {"Key", "Least"},
	2: {"Key", "To"},
	3: {"Least", "Most"},
}

func number(n uint64) []byte { return binary.BigEndian.AppendUint64(nil, n) }

func text(s string) []byte { return append(binary.BigEndian.AppendUint16(nil, uint16(len(s))), s...) }

// laidParts are all parts as bytes, written by another package than the program's.
func laidParts(r Req) map[string][]byte {
	return map[string][]byte{
		"At": number(r.At), "Lease": number(r.Lease), "Page": {r.Page}, "Dur": binary.BigEndian.AppendUint16(nil, r.Dur),
		"Sort": {r.Sort}, "Key": text(r.Key), "To": text(r.To), "Least": number(uint64(r.Least)), "Most": number(uint64(r.Most)),
	}
}

// laid is a request as bytes, right or not.
func laid(r Req) []byte {
	b := binary.BigEndian.AppendUint32([]byte{r.Kind}, r.Id)
	all := laidParts(r)
	for _, part := range named[r.Kind] {
		b = append(b, all[part]...)
	}
	return b
}

// filledOf tells which parts are not blank.
func filledOf(r Req) map[string]bool {
	return map[string]bool{
		"At": r.At != 0, "Lease": r.Lease != 0, "Page": r.Page != 0, "Dur": r.Dur != 0,
		"Sort": r.Sort != 0, "Key": r.Key != "", "To": r.To != "", "Least": r.Least != 0, "Most": r.Most != 0,
	}
}

// told tells whether bytes can tell a request: one of a kind, with no parts but its kind's, and no text that is too long.
func told(r Req) bool {
	l, is := named[r.Kind]
	for part, filled := range filledOf(r) {
		is = is && (!filled || slices.Contains(l, part))
	}
	return is && len(r.Key) <= 65535 && len(r.To) <= 65535
}

// wanted tells whether a request is right, by the chapter's words.
func wanted(r Req) bool {
	l := named[r.Kind]
	if !told(r) || r.Page > 64 || slices.Contains(l, "Dur") && r.Kind != 6 && r.Dur == 0 {
		return false
	}
	if !slices.Contains(l, "Sort") {
		return true
	}
	parts, is := namedOf[r.Sort]
	filled := filledOf(r)
	for _, part := range panes[1:] {
		is = is && (!filled[part] || slices.Contains(parts, part))
	}
	return is && len(r.Key) <= 32 && len(r.To) <= 32 && (r.Sort != 1 || r.Key != "")
}

func wantRight(t *testing.T, r Req, want bool) {
	t.Helper()
	if Right(r) != want {
		t.Errorf("Right(%.200v): %v", r, !want)
	}
}

func wantPut(t *testing.T, r Req, want []byte, wantErrno api.Errno) {
	t.Helper()
	if b, e := Put(r); !bytes.Equal(b, want) || e != wantErrno {
		t.Errorf("Put(%.200v): % .110X, %d; want % .110X, %d", r, b, e, want, wantErrno)
	}
}

func wantParse(t *testing.T, b []byte, want Req, wantErrno api.Errno) {
	t.Helper()
	if r, e := Parse(b); r != want || e != wantErrno {
		t.Errorf("Parse(% .110X) of %d bytes: %.200v, %d; want %.200v, %d", b, len(b), r, e, want, wantErrno)
	}
}

func wantId(t *testing.T, b []byte, want uint32) {
	t.Helper()
	if id := Id(b); id != want {
		t.Errorf("Id(% .20X): %X, want %X", b, id, want)
	}
}

// wantAll holds all that is told of a request against what the chapter's words tell.
func wantAll(t *testing.T, r Req, right bool) {
	t.Helper()
	wantRight(t, r, right)
	if right {
		b := laid(r)
		wantPut(t, r, b, api.OK)
		wantParse(t, b, r, api.OK)
		wantId(t, b, r.Id)
		return
	}
	wantPut(t, r, nil, api.ErrField)
	if told(r) {
		wantParse(t, laid(r), Req{}, api.ErrField)
	}
}

// P9.1, P9.2: the chapter's examples, and its numbers.
func TestExamples(t *testing.T) {
	for _, c := range []struct {
		r Req
		b []byte
	}{
		{Req{Kind: Status, Id: 7}, []byte{8, 0, 0, 0, 7}},
		{Req{Kind: Release, Id: 1, Lease: 2}, []byte{4, 0, 0, 0, 1, 0, 0, 0, 0, 0, 0, 0, 2}},
		{Req{Kind: Ask, Id: 1, Sort: 1, Key: "a", Least: 10}, []byte{1, 0, 0, 0, 1, 0, 0, 0, 0, 0, 0, 0, 0, 0, 1, 0, 1, 0x61, 0, 0, 0, 0, 0, 0, 0, 0, 0, 0x0A, 0, 0, 0, 0, 0, 0, 0, 0}},
	} {
		wantPut(t, c.r, c.b, api.OK)
		wantParse(t, c.b, c.r, api.OK)
	}
	wantParse(t, []byte{9}, Req{}, api.ErrTag)
	wantParse(t, []byte{8, 0}, Req{}, api.ErrShort)
	if kinds := []uint8{Ask, Grant, Renew, Release, Open, Poll, Close, Status}; !slices.Equal(kinds, []uint8{1, 2, 3, 4, 5, 6, 7, 8}) {
		t.Errorf("the kinds: %v", kinds)
	}
}

// P9.1: the bytes of each kind, and each Sort, that has all its parts, written out.
func TestBytes(t *testing.T) {
	id := []byte{1, 2, 3, 4}
	lease, at := []byte{9, 8, 7, 6, 5, 4, 3, 2}, []byte{255, 0, 1, 0, 0, 2, 0, 3}
	minusTwo, long := append(bytes.Repeat([]byte{255}, 7), 254), []byte{0, 0, 1, 0, 0, 0, 2, 4}
	none, noText := make([]byte, 8), []byte{0, 0}
	ofPoint := slices.Concat([]byte{1, 0, 2, 'k', 0}, noText, minusTwo, none)
	ofRange := slices.Concat([]byte{2, 0, 1, 'k', 0, 3, 'x', 'y', 255}, none, none)
	ofEnds := slices.Concat([]byte{3}, noText, noText, minusTwo, long)
	const leaseN, atN, longN = 0x0908070605040302, 0xFF00010000020003, 0x0000010000000204
	for _, c := range []struct {
		r    Req
		want []byte
	}{
		{Req{Kind: Ask, At: atN, Page: 64, Sort: 1, Key: "k\x00", Least: -2}, slices.Concat(at, []byte{64}, ofPoint)},
		{Req{Kind: Ask, At: atN, Page: 1, Sort: 2, Key: "k", To: "xy\xFF"}, slices.Concat(at, []byte{1}, ofRange)},
		{Req{Kind: Ask, At: atN, Page: 32, Sort: 3, Least: -2, Most: longN}, slices.Concat(at, []byte{32}, ofEnds)},
		{Req{Kind: Grant, At: atN, Dur: 513}, slices.Concat(at, []byte{2, 1})},
		{Req{Kind: Renew, Lease: leaseN, Dur: 513}, slices.Concat(lease, []byte{2, 1})},
		{Req{Kind: Release, Lease: leaseN}, lease},
		{Req{Kind: Open, Dur: 65534, Sort: 1, Key: "k\x00", Least: -2}, slices.Concat([]byte{255, 254}, ofPoint)},
		{Req{Kind: Open, Dur: 65534, Sort: 2, Key: "k", To: "xy\xFF"}, slices.Concat([]byte{255, 254}, ofRange)},
		{Req{Kind: Open, Dur: 65534, Sort: 3, Least: -2, Most: longN}, slices.Concat([]byte{255, 254}, ofEnds)},
		{Req{Kind: Poll, Lease: leaseN, Page: 5, Dur: 513}, slices.Concat(lease, []byte{5, 2, 1})},
		{Req{Kind: Close, Lease: leaseN}, lease},
		{Req{Kind: Status}, nil},
	} {
		c.r.Id = 0x01020304
		want := slices.Concat([]byte{c.r.Kind}, id, c.want)
		wantPut(t, c.r, want, api.OK)
		wantParse(t, want, c.r, api.OK)
		wantId(t, want, c.r.Id)
		if b := laid(c.r); !bytes.Equal(b, want) || !wanted(c.r) {
			t.Errorf("the tests lay % X, want % X", b, want)
		}
	}
}

// P9.1: by hand: every edge that the chapter names, on both sides.
func TestRightByHand(t *testing.T) {
	k32, k33 := strings.Repeat("k", 32), strings.Repeat("k", 33)
	for _, c := range []struct {
		r     Req
		right bool
	}{
		{Req{Kind: Status}, true}, {Req{Kind: Status, Id: math.MaxUint32}, true}, {Req{}, false}, {Req{Kind: 9}, false}, {Req{Kind: 255}, false}, {Req{Id: 1}, false},
		{Req{Kind: Grant, Dur: 1}, true}, {Req{Kind: Grant, Dur: 65535, At: math.MaxUint64}, true}, {Req{Kind: Grant}, false}, {Req{Kind: Grant, At: 3}, false},
		{Req{Kind: Renew, Dur: 1}, true}, {Req{Kind: Renew, Lease: 1}, false}, {Req{Kind: Renew, Lease: math.MaxUint64, Dur: 65535}, true},
		{Req{Kind: Release}, true}, {Req{Kind: Close}, true}, {Req{Kind: Release, Dur: 1}, false}, {Req{Kind: Close, Page: 1}, false}, {Req{Kind: Close, Sort: 3}, false},
		{Req{Kind: Poll}, true}, {Req{Kind: Poll, Dur: 1}, true}, {Req{Kind: Poll, Page: 64}, true}, {Req{Kind: Poll, Page: 65}, false}, {Req{Kind: Poll, Page: 255}, false}, {Req{Kind: Poll, Sort: 2}, false}, {Req{Kind: Poll, At: 1}, false},
		{Req{Kind: Ask, Sort: 3, Page: 64}, true}, {Req{Kind: Ask, Sort: 3, Page: 65}, false}, {Req{Kind: Ask, Sort: 3, Dur: 1}, false}, {Req{Kind: Ask, Sort: 3, Lease: 1}, false},
		{Req{Kind: Open, Sort: 3, Dur: 1}, true}, {Req{Kind: Open, Sort: 3}, false}, {Req{Kind: Open, Sort: 3, Dur: 1, Page: 1}, false}, {Req{Kind: Open, Sort: 3, Dur: 1, At: 1}, false},
		{Req{Kind: Ask}, false}, {Req{Kind: Ask, Sort: 4}, false}, {Req{Kind: Ask, Sort: 255}, false}, {Req{Kind: Open, Dur: 1}, false},
		{Req{Kind: Ask, Sort: 1}, false}, {Req{Kind: Ask, Sort: 1, Key: "\x00"}, true}, {Req{Kind: Ask, Sort: 1, Key: k32, Least: least}, true}, {Req{Kind: Ask, Sort: 1, Key: k33}, false},
		{Req{Kind: Ask, Sort: 1, Key: strings.Repeat("水", 10)}, true}, {Req{Kind: Ask, Sort: 1, Key: strings.Repeat("水", 11)}, false},
		{Req{Kind: Ask, Sort: 1, Key: "k", To: "l"}, false}, {Req{Kind: Ask, Sort: 1, Key: "k", Most: 1}, false}, {Req{Kind: Ask, Sort: 1, Least: 5}, false},
		{Req{Kind: Ask, Sort: 2}, true}, {Req{Kind: Ask, Sort: 2, Key: k32, To: k32}, true}, {Req{Kind: Ask, Sort: 2, Key: k33}, false}, {Req{Kind: Ask, Sort: 2, To: k33}, false}, {Req{Kind: Ask, Sort: 2, Key: "b", To: "a"}, true},
		{Req{Kind: Ask, Sort: 2, Least: 1}, false}, {Req{Kind: Ask, Sort: 2, Most: -1}, false},
		{Req{Kind: Ask, Sort: 3, Least: most, Most: least}, true}, {Req{Kind: Ask, Sort: 3, Key: "k"}, false}, {Req{Kind: Ask, Sort: 3, To: "k"}, false},
	} {
		if wanted(c.r) != c.right {
			t.Errorf("the tests want %v of %v", !c.right, c.r)
		}
		wantAll(t, c.r, c.right)
	}
}

// eachPanes hands on requests of r with all that may tell which panes, each with each.
func eachPanes(r Req, f func(Req)) {
	k32, k33 := strings.Repeat("k", 32), strings.Repeat("k", 33)
	for _, r.Sort = range []uint8{0, 1, 2, 3, 4, 255} {
		for _, r.Key = range []string{"", "\x00", k32, k33} {
			for _, r.To = range []string{"", "\x00", k32, k33} {
				for _, r.Least = range []int64{0, -1, most} {
					for _, r.Most = range []int64{0, 1, least} {
						f(r)
					}
				}
			}
		}
	}
}

// P9.1, P9.2: all parts, each with each, of kinds that there are and others: what is right, and only that, is packed, as these bytes; the bytes of all else are refused.
func TestEachWithEach(t *testing.T) {
	seen := map[uint8]int{}
	for _, kind := range []uint8{0, 1, 2, 3, 4, 5, 6, 7, 8, 9, 128, 255} {
		for _, id := range []uint32{0, 0xFFFEFDFC} {
			for _, at := range []uint64{0, math.MaxUint64} {
				for _, lease := range []uint64{0, 1 << 32} {
					for _, page := range []uint8{0, 64, 65} {
						for _, dur := range []uint16{0, 1, 256} {
							eachPanes(Req{Kind: kind, Id: id, At: at, Lease: lease, Page: page, Dur: dur}, func(r Req) {
								right := wanted(r)
								wantAll(t, r, right)
								if t.Failed() { // a fault here is seen thousands of times
									t.FailNow()
								}
								if right {
									seen[kind]++
								}
							})
						}
					}
				}
			}
		}
	}
	for kind := range uint8(8) {
		if seen[kind+1] == 0 {
			t.Errorf("of the kind %d none was right: %v", kind+1, seen)
		}
	}
	if len(seen) != 8 {
		t.Errorf("right ones were seen of the kinds %v", seen)
	}
}

// P9.1, P9.2: each number about its edges, by all its digits.
func TestNumbers(t *testing.T) {
	for i := range 64 {
		for _, n := range []uint64{1 << i, 1<<i - 1, math.MaxUint64 - 1<<i} {
			for _, r := range []Req{
				{Kind: 1, At: n, Sort: 3}, {Kind: 2, At: n, Dur: 1}, {Kind: 3, Lease: n, Dur: 1}, {Kind: 4, Lease: n}, {Kind: 6, Lease: n}, {Kind: 7, Lease: n},
				{Kind: 1, Sort: 1, Key: "k", Least: int64(n)}, {Kind: 5, Dur: 9, Sort: 3, Least: int64(n)}, {Kind: 1, Sort: 3, Most: int64(n)}, {Kind: 8, Id: uint32(n)},
			} {
				wantAll(t, r, true)
			}
			for _, r := range []Req{{Kind: 8, At: n}, {Kind: 8, Lease: n}, {Kind: 4, At: n}, {Kind: 1, Sort: 3, Lease: n}, {Kind: 1, Sort: 1, Key: "k", Most: int64(n)}, {Kind: 1, Sort: 2, Least: int64(n)}, {Kind: 8, Least: int64(n)}, {Kind: 8, Most: int64(n)}} {
				wantAll(t, r, n == 0)
			}
		}
	}
	for n := range 65536 {
		wantAll(t, Req{Kind: 2, Dur: uint16(n)}, n > 0)
		wantAll(t, Req{Kind: 6, Dur: uint16(n)}, true)
	}
	for n := range 256 {
		wantAll(t, Req{Kind: 1, Sort: 2, Page: uint8(n)}, n <= 64)
		wantAll(t, Req{Kind: 6, Page: uint8(n)}, n <= 64)
		wantAll(t, Req{Kind: 5, Dur: 1, Sort: uint8(n), Key: "k"}, n == 1 || n == 2)
		wantAll(t, Req{Kind: uint8(n)}, n == 4 || n == 6 || n == 7 || n == 8)
		wantAll(t, Req{Kind: uint8(n), At: 1, Dur: 1}, n == 2)
	}
}

// P9.1, P9.2: texts of all lengths, those that no bytes tell included.
func TestLongTexts(t *testing.T) {
	for _, n := range []int{0, 1, 2, 31, 32, 33, 34, 64, 255, 256, 257, 288, 512, 65534, 65535, 65536, 65537, 65568, 1 << 20} {
		s := strings.Repeat("\xFF", n)
		wantAll(t, Req{Kind: 1, Sort: 1, Key: s}, n > 0 && n <= 32)
		wantAll(t, Req{Kind: 1, Sort: 2, Key: s}, n <= 32)
		wantAll(t, Req{Kind: 5, Dur: 1, Sort: 2, To: s}, n <= 32)
		wantAll(t, Req{Kind: 5, Dur: 1, Sort: 2, Key: s, To: s}, n <= 32)
		wantAll(t, Req{Kind: 5, Dur: 1, Sort: 3, Key: s}, n == 0)
		wantAll(t, Req{Kind: 8, Key: s}, n == 0)
	}
}

// P9.2: that bytes end too early, or too late, is told ahead of what may not be; at every place.
func TestParseShortAndRest(t *testing.T) {
	long := strings.Repeat("k", 300)
	l := []Req{{Kind: 2}, {Kind: 3}, {Kind: 6, Page: 65}, {Kind: 1}, {Kind: 1, Page: 255, Sort: 9}, {Kind: 5}, {Kind: 1, Sort: 1, Key: long}, {Kind: 5, Sort: 2, Key: "a", To: long, Least: 1}}
	for kind := range uint8(8) {
		r := Req{Kind: kind + 1, Id: 0x08010203}
		l = append(l, r)
		for _, part := range named[r.Kind] {
			switch part {
			case "At":
				r.At = 0x0102030405060708
			case "Lease":
				r.Lease = 0x0807060504030201
			case "Page":
				r.Page = 7
			case "Dur":
				r.Dur = 0x0304
			case "Sort":
				r.Sort, r.Key, r.To = 2, "abc", "abd"
			}
		}
		l = append(l, r)
	}
	for _, r := range l {
		b := laid(r)
		for n := range b {
			wantParse(t, b[:n], Req{}, api.ErrShort)
		}
		wantParse(t, append(bytes.Clone(b), 0), Req{}, api.ErrRest)
		wantParse(t, append(bytes.Clone(b), b...), Req{}, api.ErrRest)
		wantParse(t, append(bytes.Clone(b), make([]byte, 1000)...), Req{}, api.ErrRest)
	}
	wantParse(t, nil, Req{}, api.ErrShort)
	wantParse(t, []byte{}, Req{}, api.ErrShort)
}

// P9.2: a text that tells another length than it has: what follows it stands elsewhere then, and ends too early.
func TestParseLengths(t *testing.T) {
	const keyAt = 1 + 4 + 2 + 1
	right := Req{Kind: 5, Dur: 1, Sort: 1, Key: "abc", Least: 7}
	b := laid(right)
	for n := range 65536 {
		b[keyAt], b[keyAt+1] = byte(n>>8), byte(n)
		if n == len(right.Key) {
			wantParse(t, b, right, api.OK)
		} else {
			wantParse(t, b, Req{}, api.ErrShort)
		}
	}
}

// P9.2: a first byte that is no kind is told ahead of all else, whatever follows.
func TestParseTag(t *testing.T) {
	for k := range 256 {
		if k >= 1 && k <= 8 {
			continue
		}
		for _, n := range []int{0, 1, 3, 4, 5, 12, 13, 14, 15, 35, 66, 99, 400} {
			for _, c := range []byte{0, 1, 8, 0xFF} {
				b := append([]byte{byte(k)}, bytes.Repeat([]byte{c}, n)...)
				wantParse(t, b, Req{}, api.ErrTag)
			}
		}
	}
}

// P9.3: the second to fifth byte, whatever else stands there; a byte fewer tells none, even if more memory lies behind it.
func TestId(t *testing.T) {
	memory := []byte{0, 1, 2, 3, 4, 5, 6, 7, 8, 9}
	for n := range 5 {
		wantId(t, memory[3:3+n], 0)
	}
	wantId(t, nil, 0)
	for n := 5; n <= 7; n++ {
		wantId(t, memory[3:3+n], 0x04050607)
	}
	for k := range 256 {
		for _, n := range []int{0, 1, 8, 30, 500} {
			b := slices.Concat([]byte{byte(k), 0xFE, 0xDC, 0xBA, 0x98}, bytes.Repeat([]byte{byte(k)}, n))
			wantId(t, b, 0xFEDCBA98)
		}
	}
	for i := range 32 {
		wantId(t, binary.BigEndian.AppendUint32([]byte{77}, 1<<i), 1<<i)
	}
}

// P9.1: each kind's name, and none of what is no kind.
func TestWord(t *testing.T) {
	names := map[uint8]string{1: "ask", 2: "grant", 3: "renew", 4: "release", 5: "open", 6: "poll", 7: "close", 8: "status"}
	for n := range 256 {
		if w := Word(uint8(n)); w != names[uint8(n)] {
			t.Errorf("Word(%d): %q", n, w)
		}
	}
}

// P9.4: bytes are only read, what lies behind their length included.
func TestOnlyRead(t *testing.T) {
	whole := laid(Req{Kind: 1, Id: 3, At: 5, Page: 6, Sort: 2, Key: "abc", To: "abd"})
	memory := slices.Concat([]byte("...."), whole, []byte("...."))
	before := bytes.Clone(memory)
	for n := range len(whole) + 3 {
		Parse(memory[4 : 4+n])
		Id(memory[4 : 4+n])
	}
	if !bytes.Equal(memory, before) {
		t.Errorf("the bytes became % X", memory)
	}
}

// P9.4: what was parsed stays as it was when the bytes change; what was packed twice stands in two places.
func TestAnswersAreNew(t *testing.T) {
	want := Req{Kind: 5, Id: 3, Dur: 4, Sort: 2, Key: "abc", To: "abd"}
	b := laid(want)
	r, _ := Parse(b)
	for i := range b {
		b[i] = 0xEE
	}
	if r != want {
		t.Errorf("parsed, and then: %v", r)
	}
	for _, r := range []Req{want, {Kind: 8, Id: 9}} {
		first, _ := Put(r)
		second, _ := Put(r)
		clear(first)
		_ = append(first, 0xEE)
		if third, _ := Put(r); !bytes.Equal(second, laid(r)) || !bytes.Equal(third, laid(r)) {
			t.Errorf("a change of one answer is seen in another one: % X, % X", second, third)
		}
	}
}

func someText(r *rand.Rand, fewest int) string {
	b := make([]byte, max(fewest, r.IntN(33)>>r.IntN(6)))
	for i := range b {
		b[i] = []byte{0, 1, 2, 'a', 255, byte(r.Uint32())}[r.IntN(6)]
	}
	return string(b)
}

// rightReq is some request that is right; its bytes are few, so that two have much in common.
func rightReq(r *rand.Rand) Req {
	long := func() uint64 { return r.Uint64() >> r.IntN(64) }
	q := Req{Kind: 1 + uint8(r.IntN(8)), Id: r.Uint32() >> r.IntN(32)}
	for _, part := range named[q.Kind] {
		switch part {
		case "At":
			q.At = long()
		case "Lease":
			q.Lease = long()
		case "Page":
			q.Page = uint8(r.IntN(65))
		case "Dur":
			q.Dur = uint16(1 + r.IntN(65535))
			if q.Kind == 6 && r.IntN(2) == 0 {
				q.Dur = 0
			}
		case "Sort":
			q.Sort = 1 + uint8(r.IntN(3))
			switch q.Sort {
			case 1:
				q.Key, q.Least = someText(r, 1), int64(r.Uint64())>>r.IntN(64)
			case 2:
				q.Key, q.To = someText(r, 0), someText(r, 0)
			case 3:
				q.Least, q.Most = int64(r.Uint64())>>r.IntN(64), int64(r.Uint64())>>r.IntN(64)
			}
		}
	}
	return q
}

// P9.5: what is packed is parsed as it was, and Id tells its id.
func TestPackedIsParsed(t *testing.T) {
	r := rand.New(rand.NewPCG(9, 1))
	for range 50000 {
		q := rightReq(r)
		b, e := Put(q)
		if e != api.OK {
			t.Fatalf("Put(%v): %d", q, e)
		}
		wantParse(t, b, q, api.OK)
		wantId(t, b, q.Id)
		if len(b) > 99 {
			t.Errorf("%v has %d bytes", q, len(b))
		}
	}
}

// broken are the bytes of some request, of which some were changed, taken or added.
func broken(r *rand.Rand) []byte {
	b := laid(rightReq(r))
	for range 1 + r.IntN(2) {
		place := r.IntN(len(b) + 1)
		switch r.IntN(5) {
		case 0:
			b = slices.Insert(b, place, byte(r.IntN(4)))
		case 1:
			b = b[:place]
		case 2:
			b = slices.Delete(b, place, min(place+1, len(b)))
		default:
			if place < len(b) {
				b[place] = byte(r.IntN(10)) + byte(r.IntN(2))*0x40
			}
		}
	}
	return b
}

// P9.5: what is parsed is right, and packed as those bytes, whatever they were.
func TestParsedIsPackedSo(t *testing.T) {
	r := rand.New(rand.NewPCG(9, 2))
	seen := map[api.Errno]int{}
	for range 100000 {
		b := broken(r)
		q, e := Parse(b)
		seen[e]++
		if e == api.OK {
			wantRight(t, q, true)
			wantPut(t, q, b, api.OK)
		} else if q != (Req{}) {
			t.Errorf("% X: %v beside %d", b, q, e)
		}
	}
	if len(seen) != 5 || min(seen[api.OK], seen[api.ErrTag], seen[api.ErrShort], seen[api.ErrRest], seen[api.ErrField]) == 0 {
		t.Errorf("errors seen: %v", seen)
	}
}

// P9.5: no request is packed as the beginning of another one. (In order, what begins with a text stands behind it at once.)
func TestNoneBeginsAnother(t *testing.T) {
	r := rand.New(rand.NewPCG(9, 3))
	packed := map[string]Req{}
	for range 50000 {
		q := rightReq(r)
		q.Id >>= 8 * r.IntN(5)
		b, _ := Put(q)
		if other, ok := packed[string(b)]; ok && other != q {
			t.Errorf("%v and %v are packed the same", q, other)
		}
		packed[string(b)] = q
	}
	l := make([]string, 0, len(packed))
	for s := range packed {
		l = append(l, s)
	}
	slices.Sort(l)
	for i := range len(l) - 1 {
		if strings.HasPrefix(l[i+1], l[i]) {
			t.Errorf("%v is packed as the beginning of %v", packed[l[i]], packed[l[i+1]])
		}
	}
}

// P9.5: the greatest request has 99 bytes, and fits a frame.
func TestGreatest(t *testing.T) {
	longest := strings.Repeat("\xFF", 32)
	b, e := Put(Req{Kind: Ask, Id: math.MaxUint32, At: math.MaxUint64, Page: 64, Sort: 2, Key: longest, To: longest})
	if len(b) != 99 || e != api.OK {
		t.Errorf("the greatest one has %d bytes, %d", len(b), e)
	}
	if _, e := frame.Put(b); e != api.OK {
		t.Errorf("it fits no frame: %d", e)
	}
	for sort, size := range map[uint8]int{1: 67, 2: 99, 3: 35} {
		q := Req{Kind: Ask, Sort: sort}
		for _, part := range namedOf[sort] {
			switch part {
			case "Key":
				q.Key = longest
			case "To":
				q.To = longest
			}
		}
		if b, e := Put(q); len(b) != size || e != api.OK {
			t.Errorf("the greatest one of the sort %d has %d bytes, %d", sort, len(b), e)
		}
	}
}
