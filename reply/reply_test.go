package reply

import (
	"bytes"
	"encoding/binary"
	"math"
	"math/rand/v2"
	"slices"
	"strings"
	"testing"

	"tidepool/agg"
	"tidepool/api"
	"tidepool/frame"
	"tidepool/key"
)

const least, most = math.MinInt64, math.MaxInt64

// partNames are a reply's parts; named are those of each kind, in order, written anew from the chapter's table.
var partNames = []string{"Code", "Last", "Epoch", "Floor", "Until", "Lease", "Stored", "Tick", "Rows", "Gone"}

var named = map[uint8][]string{
	1: {"Epoch", "Last", "Rows"},
	2: {"Lease", "Epoch", "Until"},
	3: {"Lease", "Epoch", "Until"},
	4: {"Epoch", "Last", "Rows", "Gone"},
	5: {"Epoch", "Floor", "Stored", "Tick"},
	6: {},
	7: {"Code", "Floor"},
}

func somePane() key.Pane { return key.Pane{Key: "ab", Start: -3, End: 7} }

func someRow() agg.Row {
	return agg.Row{Pane: key.Pane{Key: "c", Start: 256, End: 513}, Agg: agg.Agg{Count: 2, Sum: -9, Min: -5, Max: -4}}
}

// filled sets a part to something that may be, and is not blank.
func filled(r Rep, part string) Rep {
	for i, name := range partNames {
		n := uint64(1)<<(8*i%64) + uint64(i) + 2
		if name != part {
			continue
		}
		switch part {
		case "Code":
			r.Code = 0x0203
		case "Last":
			r.Last = true
		case "Epoch":
			r.Epoch = n
		case "Floor":
			r.Floor = n
		case "Until":
			r.Until = n
		case "Lease":
			r.Lease = n
		case "Stored":
			r.Stored = n
		case "Tick":
			r.Tick = n
		case "Rows":
			r.Rows = []agg.Row{someRow()}
		case "Gone":
			r.Gone = []key.Pane{somePane()}
		}
	}
	return r
}

// full is a reply of a kind that has all its parts.
func full(kind uint8) Rep {
	r := Rep{Kind: kind, Id: 0x01020304}
	for _, part := range named[kind] {
		r = filled(r, part)
	}
	return r
}

// bare is a reply of a kind that has none of its parts, but an Error's Code.
func bare(kind uint8) Rep {
	if kind == 7 {
		return Rep{Kind: 7, Code: 1}
	}
	return Rep{Kind: kind}
}

func layPane(b []byte, p key.Pane) []byte {
	b = binary.BigEndian.AppendUint16(b, uint16(len(p.Key)))
	b = append(b, p.Key...)
	b = binary.BigEndian.AppendUint64(b, uint64(p.Start))
	return binary.BigEndian.AppendUint64(b, uint64(p.End))
}

func layRow(b []byte, r agg.Row) []byte {
	b = layPane(b, r.Pane)
	for _, n := range []int64{r.Agg.Count, r.Agg.Sum, r.Agg.Min, r.Agg.Max} {
		b = binary.BigEndian.AppendUint64(b, uint64(n))
	}
	return b
}

func layPart(b []byte, r Rep, part string) []byte {
	switch part {
	case "Code":
		return binary.BigEndian.AppendUint16(b, r.Code)
	case "Last":
		if r.Last {
			return append(b, 1)
		}
		return append(b, 0)
	case "Rows":
		b = append(b, byte(len(r.Rows)))
		for _, one := range r.Rows {
			b = layRow(b, one)
		}
		return b
	case "Gone":
		b = append(b, byte(len(r.Gone)))
		for _, one := range r.Gone {
			b = layPane(b, one)
		}
		return b
	}
	n := map[string]uint64{"Epoch": r.Epoch, "Floor": r.Floor, "Until": r.Until, "Lease": r.Lease, "Stored": r.Stored, "Tick": r.Tick}[part]
	return binary.BigEndian.AppendUint64(b, n)
}

// laid is a reply as bytes, right or not, written by another package than the program's.
func laid(r Rep) []byte {
	b := binary.BigEndian.AppendUint32([]byte{r.Kind}, r.Id)
	for _, part := range named[r.Kind] {
		b = layPart(b, r, part)
	}
	return b
}

// lastAt is the place of Last's byte in a Page, or a Delta.
const lastAt = 1 + 4 + 8

// alike holds replies against each other without the program.
func alike(a, b Rep) bool {
	lists := slices.Equal(a.Rows, b.Rows) && slices.Equal(a.Gone, b.Gone)
	return lists && a.Kind == b.Kind && a.Id == b.Id && a.Code == b.Code && a.Last == b.Last && a.Epoch == b.Epoch && a.Floor == b.Floor && a.Until == b.Until && a.Lease == b.Lease && a.Stored == b.Stored && a.Tick == b.Tick
}

func manyRows(n int) []agg.Row {
	l := make([]agg.Row, n)
	for i := range l {
		l[i] = agg.Row{Pane: key.Pane{Key: "k", Start: int64(i), End: int64(i + 1)}, Agg: agg.One(int64(i))}
	}
	return l
}

func manyPanes(n int) []key.Pane {
	l := make([]key.Pane, n)
	for i := range l {
		l[i] = key.Pane{Key: "g", Start: int64(-i), End: int64(i)}
	}
	return l
}

// aggregates are some, each with whether a row may have it.
func aggregates() map[agg.Agg]bool {
	return map[agg.Agg]bool{
		{}:                                 false,
		{Count: 1}:                         true,
		{Count: 1, Sum: 5, Min: 5, Max: 5}: true,
		{Count: 1, Sum: least, Min: least, Max: least}:   true,
		{Count: 2, Sum: 0, Min: 3, Max: 3}:               true,
		{Count: most, Sum: least, Min: least, Max: most}: true,
		{Sum: 1}:                               false,
		{Min: -1}:                              false,
		{Max: 1}:                               false,
		{Count: -1}:                            false,
		{Count: least}:                         false,
		{Count: -1, Sum: 5, Min: 5, Max: 5}:    false,
		{Count: 1, Sum: 4, Min: 5, Max: 5}:     false,
		{Count: 1, Sum: 5, Min: 4, Max: 5}:     false,
		{Count: 1, Sum: 5, Min: 5, Max: 6}:     false,
		{Count: 2, Sum: 9, Min: 5, Max: 4}:     false,
		{Count: most, Sum: 0, Min: 0, Max: -1}: false,
	}
}

// keysOf are some, each with whether a pane may have it.
func keysOf() map[string]bool {
	return map[string]bool{
		"": false, "\x00": true, "k": true, "\xFF\x00": true, "grün": true, strings.Repeat("k", 31): true, strings.Repeat("\x00", 32): true, strings.Repeat("k", 33): false,
		strings.Repeat("水", 10): true, strings.Repeat("水", 11): false, strings.Repeat("k", 64): false, strings.Repeat("k", 255): false, strings.Repeat("k", 256): false, strings.Repeat("k", 288): false, strings.Repeat("k", 65535): false,
	}
}

// judged is a reply that was made by hand, with whether it is right, and whether bytes can tell it.
type judged struct {
	name  string
	r     Rep
	right bool
	told  bool
}

// someReps are replies about all edges that the chapter names.
func someReps() []judged {
	var l []judged
	for k := range 256 {
		kind := uint8(k)
		_, is := named[kind]
		l = append(l, judged{"bare", bare(kind), is, is}, judged{"full", full(kind), is, is}, judged{"of the greatest id", Rep{Kind: kind, Id: math.MaxUint32}, is && kind != 7, is})
		for _, part := range partNames {
			has := slices.Contains(named[kind], part)
			if !has {
				l = append(l, judged{"full, and " + part, filled(full(kind), part), false, false})
			}
			l = append(l, judged{"bare, and " + part, filled(bare(kind), part), is && (has || kind == 7 && part == "Code"), has})
		}
	}
	for _, code := range []uint16{0, 1, 2, 255, 256, 260, 65534, 65535} {
		l = append(l, judged{"a Code", Rep{Kind: 7, Code: code}, code != 0, true}, judged{"a Code and a floor", Rep{Kind: 7, Id: 1, Code: code, Floor: math.MaxUint64}, code != 0, true})
	}
	for _, n := range []int{0, 1, 2, 32, 33, 63, 64, 65, 66, 127, 128, 129, 255, 256, 257, 320, 512} {
		l = append(l, judged{"rows of a Page", Rep{Kind: 1, Rows: manyRows(n)}, n <= 64, n <= 255})
		for _, m := range []int{0, 1, 2, 31, 32, 33, 62, 63, 64, 65, 66, 254, 255, 256, 257} {
			l = append(l, judged{"rows and panes of a Delta", Rep{Kind: 4, Rows: manyRows(n), Gone: manyPanes(m)}, n+m <= 64, n <= 255 && m <= 255})
		}
	}
	return append(l, withWrongOnes()...)
}

// withWrongOnes are replies of which one row, or one pane, at any place, may not be.
func withWrongOnes() []judged {
	var l []judged
	for _, kind := range []uint8{1, 4} {
		for _, n := range []int{1, 2, 5, 64} {
			for _, at := range []int{0, n / 2, n - 1} {
				for s, right := range keysOf() {
					rows := manyRows(n)
					rows[at].Pane.Key = s
					l = append(l, judged{"a row's key", Rep{Kind: kind, Rows: rows}, right, true})
				}
				for a, right := range aggregates() {
					rows := manyRows(n)
					rows[at].Agg = a
					l = append(l, judged{"an aggregate", Rep{Kind: kind, Rows: rows}, right, true})
				}
			}
		}
	}
	for s, right := range keysOf() {
		for _, n := range []int{1, 2, 5, 64} {
			for _, at := range []int{0, n / 2, n - 1} {
				gone := manyPanes(n)
				gone[at].Key = s
				l = append(l, judged{"a key that is gone", Rep{Kind: 4, Gone: gone}, right, true})
			}
		}
	}
	return append(l, judged{"a key that no bytes tell", Rep{Kind: 4, Gone: []key.Pane{{Key: strings.Repeat("k", 65537)}}}, false, false})
}

func wantPut(t *testing.T, name string, r Rep, want []byte, wantErrno api.Errno) {
	t.Helper()
	if b, e := Put(r); !bytes.Equal(b, want) || e != wantErrno {
		t.Errorf("Put of %s (%.200v): % .100X, %d; want % .100X, %d", name, r, b, e, want, wantErrno)
	}
}

func wantParse(t *testing.T, name string, b []byte, want Rep, wantErrno api.Errno) {
	t.Helper()
	if r, e := Parse(b); !alike(r, want) || e != wantErrno {
		t.Errorf("Parse of %s (% .60X, %d bytes): %.200v, %d; want %.200v, %d", name, b, len(b), r, e, want, wantErrno)
	}
}

// P8.1, P8.2: the chapter's examples, and its numbers.
func TestExamples(t *testing.T) {
	done := []byte{6, 0, 0, 0, 7}
	wantPut(t, "Done", Rep{Kind: Done, Id: 7}, done, api.OK)
	wantParse(t, "Done", done, Rep{Kind: 6, Id: 7}, api.OK)
	lost := []byte{7, 0, 0, 0, 1, 1, 4, 0, 0, 0, 0, 0, 0, 0, 3}
	wantPut(t, "an Error", Fails(1, api.ErrLost, 3), lost, api.OK)
	wantParse(t, "an Error", lost, Rep{Kind: 7, Id: 1, Code: 260, Floor: 3}, api.OK)
	if kinds := []uint8{Page, Lease, Cursor, Delta, Status, Done, Error}; !slices.Equal(kinds, []uint8{1, 2, 3, 4, 5, 6, 7}) {
		t.Errorf("the kinds: %v", kinds)
	}
	if MaxRows != 64 {
		t.Errorf("MaxRows: %d", MaxRows)
	}
}

// P8.1: the bytes of each kind that has all its parts, written out.
func TestBytes(t *testing.T) {
	id := []byte{1, 2, 3, 4}
	long := func(l ...byte) []byte { return append(make([]byte, 8-len(l)), l...) }
	epoch, floor, until, lease := long(1, 0, 4), long(1, 0, 0, 5), long(1, 0, 0, 0, 6), long(1, 0, 0, 0, 0, 7)
	stored, tick := long(1, 0, 0, 0, 0, 0, 8), long(1, 0, 0, 0, 0, 0, 0, 9)
	minus := func(n byte) []byte { return append(bytes.Repeat([]byte{255}, 7), -n) }
	row := slices.Concat([]byte{0, 1, 'c'}, long(1, 0), long(2, 1), long(2), minus(9), minus(5), minus(4))
	pane := slices.Concat([]byte{0, 2, 'a', 'b'}, minus(3), long(7))
	for kind, want := range map[uint8][]byte{
		Page:   slices.Concat([]byte{1}, id, epoch, []byte{1, 1}, row),
		Lease:  slices.Concat([]byte{2}, id, lease, epoch, until),
		Cursor: slices.Concat([]byte{3}, id, lease, epoch, until),
		Delta:  slices.Concat([]byte{4}, id, epoch, []byte{1, 1}, row, []byte{1}, pane),
		Status: slices.Concat([]byte{5}, id, epoch, floor, stored, tick),
		Done:   slices.Concat([]byte{6}, id),
		Error:  slices.Concat([]byte{7}, id, []byte{2, 3}, floor),
	} {
		r := full(kind)
		wantPut(t, "what has all", r, want, api.OK)
		wantParse(t, "what has all", want, r, api.OK)
		if b := laid(r); !bytes.Equal(b, want) {
			t.Errorf("the tests lay % X, want % X", b, want)
		}
	}
}

// P8.1, P8.2: what is right, and only that, is packed, as these bytes; of what is not right the bytes are refused, if there are any.
func TestRightPutAndParse(t *testing.T) {
	seen := map[bool]int{}
	for _, c := range someReps() {
		seen[c.right]++
		if Right(c.r) != c.right {
			t.Errorf("Right of %s (%.200v): %v", c.name, c.r, !c.right)
		}
		switch {
		case c.right:
			wantPut(t, c.name, c.r, laid(c.r), api.OK)
			wantParse(t, c.name, laid(c.r), c.r, api.OK)
		case c.told:
			wantPut(t, c.name, c.r, nil, api.ErrField)
			wantParse(t, c.name, laid(c.r), Rep{}, api.ErrField)
		default:
			wantPut(t, c.name, c.r, nil, api.ErrField)
		}
	}
	if seen[true] < 100 || seen[false] < 100 {
		t.Errorf("right and not: %v", seen)
	}
}

// P8.2: that bytes end too early, or too late, is told ahead of what may not be.
func TestParseShortAndRest(t *testing.T) {
	short := []Rep{{Kind: 7}, {Kind: 1, Rows: manyRows(66)}, {Kind: 1, Rows: []agg.Row{{}, {}}}, {Kind: 4, Rows: []agg.Row{{}}, Gone: []key.Pane{{}, somePane()}}, {Kind: 4, Gone: []key.Pane{{Key: strings.Repeat("k", 300)}}}}
	for kind := range named {
		short = append(short, bare(kind), full(kind))
	}
	for _, r := range short {
		b := laid(r)
		if r.Kind == 1 || r.Kind == 4 {
			two := bytes.Clone(b)
			two[lastAt] = 2
			for n := range two {
				wantParse(t, "a Last of 2, cut", two[:n], Rep{}, api.ErrShort)
			}
			wantParse(t, "a Last of 2, and more", append(two, 0), Rep{}, api.ErrRest)
		}
		for n := range b {
			wantParse(t, "what was cut", b[:n], Rep{}, api.ErrShort)
		}
		wantParse(t, "a byte more", append(bytes.Clone(b), 0), Rep{}, api.ErrRest)
		wantParse(t, "two of them", append(bytes.Clone(b), b...), Rep{}, api.ErrRest)
	}
	wantParse(t, "nil", nil, Rep{}, api.ErrShort)
	wantParse(t, "nothing", []byte{}, Rep{}, api.ErrShort)
	for _, n := range []byte{65, 128, 255} {
		b := laid(Rep{Kind: 1, Rows: manyRows(64)})
		b[lastAt+1] = n
		wantParse(t, "more rows told than there are", b, Rep{}, api.ErrShort)
	}
	for n := range byte(64) {
		b := laid(Rep{Kind: 1, Rows: manyRows(64)})
		b[lastAt+1] = n
		wantParse(t, "fewer rows told than there are", b, Rep{}, api.ErrRest)
	}
	long := laid(Rep{Kind: 1, Rows: manyRows(1)})
	long[lastAt+2], long[lastAt+3] = 255, 255
	wantParse(t, "a key longer than what is left", long, Rep{}, api.ErrShort)
}

// P8.2: a first byte that is no kind is told ahead of all else, whatever follows.
func TestParseTag(t *testing.T) {
	for k := range 256 {
		if k >= 1 && k <= 7 {
			continue
		}
		for _, n := range []int{0, 1, 3, 4, 5, 12, 14, 28, 40, 400} {
			for _, c := range []byte{0, 1, 7, 0xFF} {
				wantParse(t, "no kind", append([]byte{byte(k)}, bytes.Repeat([]byte{c}, n)...), Rep{}, api.ErrTag)
			}
		}
	}
}

// P8.2: Last's byte is 1 or 0.
func TestParseLast(t *testing.T) {
	for _, r := range []Rep{full(1), bare(1), full(4), bare(4), {Kind: 1, Rows: []agg.Row{{}}}} {
		for n := range 256 {
			b := laid(r)
			b[lastAt] = byte(n)
			if n > 1 || !Right(r) {
				wantParse(t, "such a Last", b, Rep{}, api.ErrField)
				continue
			}
			want := r
			want.Last = n == 1
			wantParse(t, "such a Last", b, want, api.OK)
		}
	}
}

// variants are replies of which each differs from all others in one part at least, however little.
func variants() []Rep {
	l := []Rep{{}}
	for kind := range uint8(9) {
		l = append(l, full(kind), Rep{Kind: kind, Id: 9})
	}
	for _, part := range partNames {
		l = append(l, filled(Rep{}, part), filled(full(4), part), filled(Rep{Kind: 255, Id: 3}, part))
	}
	row, pane := someRow(), somePane()
	for _, change := range []func(r *agg.Row){
		func(r *agg.Row) { r.Pane.Key += "x" }, func(r *agg.Row) { r.Pane.Start++ }, func(r *agg.Row) { r.Pane.End++ },
		func(r *agg.Row) { r.Agg.Count++ }, func(r *agg.Row) { r.Agg.Sum++ }, func(r *agg.Row) { r.Agg.Min++ }, func(r *agg.Row) { r.Agg.Max++ },
	} {
		other := row
		change(&other)
		l = append(l, Rep{Kind: 1, Rows: []agg.Row{other}}, Rep{Kind: 1, Rows: []agg.Row{row, other}}, Rep{Kind: 1, Rows: []agg.Row{other, row}})
	}
	for _, other := range []key.Pane{{Key: "abx", Start: -3, End: 7}, {Key: "ab", Start: -4, End: 7}, {Key: "ab", Start: -3, End: 8}} {
		l = append(l, Rep{Kind: 4, Gone: []key.Pane{other}}, Rep{Kind: 4, Gone: []key.Pane{pane, other}}, Rep{Kind: 4, Gone: []key.Pane{other, pane}})
	}
	for n := range 4 {
		l = append(l, Rep{Kind: 1, Rows: make([]agg.Row, n)}, Rep{Kind: 4, Gone: make([]key.Pane, n)}, Rep{Kind: 4, Rows: make([]agg.Row, n), Gone: make([]key.Pane, 1)})
	}
	return l
}

// P8.1: Same, of all variants, each with each, right or not; nil and empty mean the same.
func TestSame(t *testing.T) {
	l := variants()
	differ := 0
	for _, a := range l {
		for _, b := range l {
			if Same(a, b) != alike(a, b) {
				t.Errorf("Same(%v, %v): %v", a, b, !alike(a, b))
			}
			if !alike(a, b) {
				differ++
			}
		}
		copied := a
		copied.Rows, copied.Gone = append([]agg.Row{}, a.Rows...), append([]key.Pane{}, a.Gone...)
		if !Same(a, copied) || !Same(copied, a) {
			t.Errorf("%v is not the same as its copy", a)
		}
	}
	if differ < len(l)*(len(l)-20) {
		t.Errorf("of %d variants only %d pairs differ", len(l), differ)
	}
	for _, part := range partNames {
		if one := filled(Rep{}, part); Same(one, Rep{}) || Same(Rep{}, one) {
			t.Errorf("%s makes no difference", part)
		}
	}
}

// P8.1: Same holds what numbers tell apart by all their digits.
func TestSameOfNumbers(t *testing.T) {
	for i := range 64 {
		n := uint64(1) << i
		for _, r := range []Rep{{Epoch: n}, {Floor: n}, {Until: n}, {Lease: n}, {Stored: n}, {Tick: n}} {
			if Same(r, Rep{}) || Same(Rep{}, r) || !Same(r, r) {
				t.Errorf("%v", r)
			}
		}
		if small := (Rep{Id: uint32(n), Code: uint16(n), Kind: uint8(n)}); i < 32 && Same(small, Rep{}) {
			t.Errorf("%v", small)
		}
	}
}

// P8.1: an error's number as a Code, and 2 where it is none.
func TestFails(t *testing.T) {
	for e, want := range map[api.Errno]uint16{
		1: 1, 2: 2, 3: 3, 230: 230, 255: 255, 256: 256, 260: 260, 65534: 65534, 65535: 65535,
		0: 2, -1: 2, -65535: 2, -65276: 2, 65536: 2, 65537: 2, 65796: 2, 1 << 32: 2, 1<<32 + 260: 2, most: 2, least: 2, least + 1: 2,
	} {
		for _, id := range []uint32{0, 1, math.MaxUint32} {
			for _, floor := range []uint64{0, 3, math.MaxUint64} {
				r, made := Fails(id, e, floor), Rep{Kind: 7, Id: id, Code: want, Floor: floor}
				if !alike(r, made) || !Right(r) {
					t.Errorf("Fails(%d, %d, %d): %v", id, e, floor, r)
				}
			}
		}
	}
}

// P8.3: replies and bytes are only read, what lies behind their length included.
func TestOnlyRead(t *testing.T) {
	rows, panes := manyRows(9), manyPanes(9)
	rows[5] = agg.Row{}
	rowsBefore, panesBefore := slices.Clone(rows), slices.Clone(panes)
	for n := range 8 {
		for _, kind := range []uint8{0, 1, 4, 6} {
			r := Rep{Kind: kind, Id: 5, Epoch: 6, Rows: rows[:n], Gone: panes[n:8]}
			Right(r)
			Put(r)
			Same(r, Rep{Kind: kind, Rows: rows[n:8], Gone: panes[:n]})
		}
	}
	if !slices.Equal(rows, rowsBefore) || !slices.Equal(panes, panesBefore) {
		t.Errorf("the lists became %v, %v", rows, panes)
	}
	whole := laid(full(4))
	memory := slices.Concat([]byte("...."), whole, []byte("...."))
	before := bytes.Clone(memory)
	for n := range len(whole) + 3 {
		Parse(memory[4 : 4+n])
	}
	if !bytes.Equal(memory, before) {
		t.Errorf("the bytes became % X", memory)
	}
}

// P8.3: what was parsed stays as it was when the bytes change; what was answered twice stands in two places, and no two lists in one.
func TestAnswersAreNew(t *testing.T) {
	r := Rep{Kind: 4, Rows: manyRows(3), Gone: manyPanes(3)}
	b := laid(r)
	one, _ := Parse(b)
	other, _ := Parse(b)
	for i := range b {
		b[i] = 0xEE
	}
	if !alike(one, r) {
		t.Errorf("parsed, and then: %v", one)
	}
	_, _ = append(one.Rows, agg.Row{}), append(one.Gone, key.Pane{})
	clear(one.Rows)
	if !slices.Equal(one.Gone, r.Gone) {
		t.Errorf("what is gone became %v", one.Gone)
	}
	clear(one.Gone)
	if !alike(other, r) {
		t.Errorf("a change of one answer is seen in another one: %v", other)
	}
	first, _ := Put(r)
	second, _ := Put(r)
	clear(first)
	_ = append(first, 0xEE)
	if third, _ := Put(r); !bytes.Equal(second, laid(r)) || !bytes.Equal(third, laid(r)) {
		t.Errorf("a change of one answer is seen in another one: % X, % X", second, third)
	}
}

func someKey(r *rand.Rand) string {
	b := make([]byte, 1+r.IntN(32)>>r.IntN(6))
	for i := range b {
		b[i] = []byte{0, 1, 'a', 255, byte(r.Uint32())}[r.IntN(5)]
	}
	return string(b)
}

func pane(r *rand.Rand) key.Pane {
	return key.Pane{Key: someKey(r), Start: int64(r.Uint64()) >> r.IntN(64), End: int64(r.Uint64()) >> r.IntN(64)}
}

func row(r *rand.Rand) agg.Row {
	a := agg.One(int64(r.Uint64()) >> r.IntN(64))
	if r.IntN(2) == 0 {
		b := int64(r.Uint64()) >> r.IntN(64)
		a = agg.Agg{Count: 2 + r.Int64N(most-1), Sum: int64(r.Uint64()), Min: min(a.Min, b), Max: max(a.Max, b)}
	}
	return agg.Row{Pane: pane(r), Agg: a}
}

// rightRep is some reply that is right.
func rightRep(r *rand.Rand) Rep {
	number := func() uint64 { return r.Uint64() >> r.IntN(64) }
	rep := Rep{Kind: 1 + uint8(r.IntN(7)), Id: r.Uint32() >> r.IntN(32)}
	room := 1 + r.IntN(64)>>r.IntN(7)
	for _, part := range named[rep.Kind] {
		switch part {
		case "Code":
			rep.Code = 1 + uint16(r.IntN(65535))
		case "Last":
			rep.Last = r.IntN(2) == 0
		case "Epoch":
			rep.Epoch = number()
		case "Floor":
			rep.Floor = number()
		case "Until":
			rep.Until = number()
		case "Lease":
			rep.Lease = number()
		case "Stored":
			rep.Stored = number()
		case "Tick":
			rep.Tick = number()
		case "Rows":
			for range r.IntN(room + 1) {
				rep.Rows = append(rep.Rows, row(r))
			}
		case "Gone":
			for range r.IntN(room - len(rep.Rows) + 1) {
				rep.Gone = append(rep.Gone, pane(r))
			}
		}
	}
	return rep
}

// P8.4: what is packed is parsed as it was.
func TestPackedIsParsed(t *testing.T) {
	r := rand.New(rand.NewPCG(8, 1))
	for range 20000 {
		rep := rightRep(r)
		b, e := Put(rep)
		if e != api.OK || !bytes.Equal(b, laid(rep)) {
			t.Fatalf("Put(%v): % X, %d", rep, b, e)
		}
		wantParse(t, "what was packed", b, rep, api.OK)
	}
}

// broken are the bytes of some reply, of which some were changed, taken or added.
func broken(r *rand.Rand) []byte {
	b := laid(rightRep(r))
	for range 1 + r.IntN(2) {
		at := r.IntN(len(b)+1) >> (r.IntN(2) * r.IntN(6)) // the first bytes tell most
		switch r.IntN(4) {
		case 0:
			b = slices.Insert(b, at, byte(r.IntN(8)))
		case 1:
			b = b[:at]
		case 2:
			b = slices.Delete(b, at, min(at+1, len(b)))
		default:
			if at < len(b) {
				b[at] = byte(r.IntN(8)) + byte(r.IntN(2))*0xF8
			}
		}
	}
	return b
}

// P8.4: what is parsed is right, and packed as those bytes, whatever they were.
func TestParsedIsPackedSo(t *testing.T) {
	r := rand.New(rand.NewPCG(8, 2))
	seen := map[api.Errno]int{}
	for range 100000 {
		b := broken(r)
		rep, e := Parse(b)
		seen[e]++
		if e == api.OK {
			wantPut(t, "what was parsed", rep, b, api.OK)
		} else if !alike(rep, Rep{}) {
			t.Errorf("% X: %v beside %d", b, rep, e)
		}
	}
	if len(seen) != 5 || min(seen[api.OK], seen[api.ErrTag], seen[api.ErrShort], seen[api.ErrRest], seen[api.ErrField]) == 0 {
		t.Errorf("errors seen: %v", seen)
	}
}

// P8.4: the greatest replies have no more than 5300 bytes, and fit a frame.
func TestGreatest(t *testing.T) {
	longest := strings.Repeat("k", 32)
	rows, gone := manyRows(64), manyPanes(64)
	for i := range rows {
		rows[i].Pane.Key, gone[i].Key = longest, longest
	}
	for n := range 65 {
		for _, r := range []Rep{{Kind: 1, Rows: rows[:n]}, {Kind: 4, Rows: rows[:n], Gone: gone[n:]}} {
			b, e := Put(r)
			if e != api.OK || len(b) > 5300 || !bytes.Equal(b, laid(r)) {
				t.Errorf("kind %d, %d rows: %d bytes, %d", r.Kind, n, len(b), e)
			}
			if _, e := frame.Put(b); e != api.OK {
				t.Errorf("kind %d, %d rows: fits no frame, %d", r.Kind, n, e)
			}
			wantParse(t, "one of the greatest", b, r, api.OK)
		}
	}
	if b, _ := Put(Rep{Kind: 4, Rows: rows}); len(b) != 1+4+8+1+1+64*(2+32+16+32)+1 {
		t.Errorf("the greatest one has %d bytes", len(b))
	}
}
