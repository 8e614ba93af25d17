package record

import (
	"encoding/binary"
	"hash/crc32"
	"math"
	"slices"
	"strings"
	"testing"

	"revetment/api"
)

// chance tells numbers that are the same in each run.
type chance uint64

func (c *chance) below(n int) int {
	*c = *c*6364136223846793005 + 1442695040888963407
	return int(uint64(*c)>>33) % n
}

// checksum is the sum of a text, as it is told by others than this project.
func checksum(s string) uint32 {
	return crc32.Checksum([]byte(s), crc32.MakeTable(crc32.Castagnoli))
}

// sealed is a sector of these bytes, filled up, and their sum. What is more than 60 bytes is cut off.
func sealed(text string) string {
	body := make([]byte, 60)
	copy(body, text)
	return string(binary.LittleEndian.AppendUint32(body, checksum(string(body))))
}

// numbers are the bytes of a head's numbers, ahead of its places.
func numbers(seq uint64, row, count int, sum uint32) string {
	b := binary.LittleEndian.AppendUint64([]byte("RVTJ"), seq)
	b = binary.LittleEndian.AppendUint16(b, uint16(row))
	return string(binary.LittleEndian.AppendUint32(append(b, byte(count)), sum))
}

// texts are the Data of all parts, in order.
func texts(l []Part) []string {
	out := []string{}
	for _, p := range l {
		out = append(out, p.Data)
	}
	return out
}

// block is a record's head as the chapter says it, without asking any layer.
func block(r Record) string {
	text := numbers(r.Seq, r.Row, len(r.Parts), checksum(strings.Join(texts(r.Parts), "")))
	for _, p := range r.Parts {
		text += string([]byte{byte(4*p.Col + p.Off)})
	}
	return sealed(text)
}

// bare is the record, with each Data empty.
func bare(r Record) Record {
	r.Parts = slices.Clone(r.Parts)
	for i := range r.Parts {
		r.Parts[i].Data = ""
	}
	return r
}

// data is a sector's bytes, told by which; each is another one.
func data(which int) string {
	switch which {
	case 0:
		return strings.Repeat("\x00", 64)
	case 1:
		return strings.Repeat("\xff", 64)
	case 2:
		return strings.Repeat("\xc3\xa9", 32)
	case 3:
		return sealed("RVTJ")
	}
	c := chance(which)
	b := make([]byte, 64)
	for i := range b {
		b[i] = byte(c.below(256))
	}
	return string(b)
}

// seqs are numbers of records: near and far, those at the end of some bytes, and of all.
func seqs() []uint64 {
	return []uint64{0, 1, 2, 127, 128, 255, 256, 258, 65535, 65536, 1<<31 - 1, 1 << 31, 1<<32 - 1, 1 << 32, 1<<40 + 5, 1<<53 + 1, 1<<63 - 1, 1 << 63, 0x0102030405060708, math.MaxUint64 - 1, math.MaxUint64}
}

// some is a record with so many parts that may be, told by which: their places are mixed.
func some(which, count int) Record {
	c := chance(1000*which + count)
	r := Record{Seq: seqs()[which%len(seqs())], Row: which * 37 % 256}
	places := make([]int, 40)
	for i := range places {
		k := c.below(i + 1)
		places[i], places[k] = places[k], i
	}
	for _, n := range places[:count] {
		r.Parts = append(r.Parts, Part{n / 4, n % 4, data(c.below(60))})
	}
	return r
}

// good are records that may be: as many parts as may be, and all rows.
func good() []Record {
	out := []Record{}
	for count := 1; count <= 40; count++ {
		for which := range 12 {
			out = append(out, some(13*count+which, count))
		}
	}
	for row := range 256 {
		r := some(row, 1+row%40)
		r.Row = row
		out = append(out, r)
	}
	return out
}

// changed is a record after a change, that shares no parts with it.
func changed(r Record, by func(*Record)) Record {
	r.Parts = slices.Clone(r.Parts)
	by(&r)
	return r
}

// far are numbers that are neither rows nor columns nor places; some have a low byte, or two, that might be.
func far() []int {
	return []int{math.MinInt, math.MinInt + 1, -1 << 32, -65536, -256, -255, -40, -4, -2, -1, 256, 257, 258, 259, 512, 65535, 65536, 65537, 1<<32 + 1, 1 << 62, 1<<62 + 2, math.MaxInt - 1, math.MaxInt}
}

// wrong are records that may not be, each of them by one thing.
func wrong() []Record {
	out := []Record{{}, {Seq: 1}, {Seq: 1, Parts: []Part{{}}}, {Seq: 1, Parts: make([]Part, 41)}}
	for _, r := range []Record{some(1, 1), some(2, 2), some(3, 7), some(4, 40)} {
		for _, n := range far() {
			out = append(out, changed(r, func(r *Record) { r.Row = n }))
		}
		out = append(out, changed(r, func(r *Record) { r.Parts = nil }), changed(r, func(r *Record) { r.Parts = r.Parts[:0] }))
		for i := range r.Parts {
			for _, n := range append(far(), 10, 11, 13, 64, 100, 255) {
				out = append(out, changed(r, func(r *Record) { r.Parts[i].Col = n }))
			}
			for _, n := range append(far(), 4, 5, 7, 8, 64, 255) {
				out = append(out, changed(r, func(r *Record) { r.Parts[i].Off = n }))
			}
			for _, n := range []int{0, 1, 32, 63, 65, 128, 64 + 256, 4096} {
				out = append(out, changed(r, func(r *Record) { r.Parts[i].Data = strings.Repeat("a", n) }))
			}
			out = append(out, changed(r, func(r *Record) { r.Parts[i].Data = strings.Repeat("é", 64) }))
			if i > 0 {
				out = append(out, changed(r, func(r *Record) { r.Parts[i].Col, r.Parts[i].Off = r.Parts[0].Col, r.Parts[0].Off }))
			}
		}
	}
	for _, more := range []int{1, 2, 24, 216, 260} {
		out = append(out, changed(some(5, 40), func(r *Record) {
			for i := range more {
				r.Parts = append(r.Parts, Part{i % 10, i % 4, data(i)})
			}
		}))
	}
	return out
}

// mayBe tells what P12.1 says, word by word.
func mayBe(r Record) bool {
	if r.Row < 0 || r.Row > 255 || len(r.Parts) == 0 || len(r.Parts) > 40 {
		return false
	}
	for i, p := range r.Parts {
		if p.Col < 0 || p.Col > 9 || p.Off < 0 || p.Off > 3 || len(p.Data) != 64 {
			return false
		}
		for _, other := range r.Parts[:i] {
			if other.Col == p.Col && other.Off == p.Off {
				return false
			}
		}
	}
	return true
}

// may tells whether May answers just that.
func may(t *testing.T, r Record, want bool) {
	t.Helper()
	if May(r) != want {
		t.Fatalf("May(%v) is %v", r, !want)
	}
}

// refused tells whether a record may not be, and has neither head nor load.
func refused(t *testing.T, r Record) {
	t.Helper()
	may(t, r, false)
	if h, l, e := Encode(r); h != "" || len(l) != 0 || e != api.ErrArg {
		t.Fatalf("Encode(%v): %q %q %d", r, h, l, e)
	}
}

// encoded tells whether a record may be, and has the head and the load of the chapter.
func encoded(t *testing.T, r Record) {
	t.Helper()
	may(t, r, true)
	if h, l, e := Encode(r); h != block(r) || !slices.Equal(l, texts(r.Parts)) || e != api.OK {
		t.Fatalf("Encode(%v): %q %q %d, not %q", r, h, l, e, block(r))
	}
}

// same tells whether two records are the same.
func same(a, b Record) bool {
	return a.Seq == b.Seq && a.Row == b.Row && slices.Equal(a.Parts, b.Parts)
}

// P12.1: by hand.
func TestMayByHand(t *testing.T) {
	a := data(9)
	for i, c := range []struct {
		r  Record
		is bool
	}{
		{Record{}, false},
		{Record{Parts: []Part{{}}}, false},
		{Record{Parts: []Part{{Data: a}}}, true},
		{Record{Seq: math.MaxUint64, Row: 255, Parts: []Part{{9, 3, a}}}, true},
		{Record{Row: 256, Parts: []Part{{9, 3, a}}}, false},
		{Record{Row: -1, Parts: []Part{{9, 3, a}}}, false},
		{Record{Parts: []Part{}}, false},
		{Record{Parts: []Part{{10, 0, a}}}, false},
		{Record{Parts: []Part{{-1, 0, a}}}, false},
		{Record{Parts: []Part{{0, 4, a}}}, false},
		{Record{Parts: []Part{{0, -1, a}}}, false},
		{Record{Parts: []Part{{1, -1, a}}}, false},
		{Record{Parts: []Part{{0, 0, a[:63]}}}, false},
		{Record{Parts: []Part{{0, 0, a + "a"}}}, false},
		{Record{Parts: []Part{{0, 0, ""}}}, false},
		{Record{Parts: []Part{{1, 2, a}, {2, 1, a}}}, true},
		{Record{Parts: []Part{{1, 2, a}, {1, 1, a}}}, true},
		{Record{Parts: []Part{{1, 2, a}, {2, 2, a}}}, true},
		{Record{Parts: []Part{{1, 2, a}, {1, 2, a}}}, false},
		{Record{Parts: []Part{{1, 2, a}, {1, 2, data(8)}}}, false},
		{Record{Parts: []Part{{1, 2, a}, {3, 3, a}, {1, 2, a}}}, false},
		{Record{Parts: []Part{{1, 2, a}, {3, 3, ""}}}, false},
		{Record{Parts: []Part{{0, 0, ""}, {3, 3, a + a}}}, false},
	} {
		if May(c.r) != c.is {
			t.Errorf("%d: May is %v", i, !c.is)
		}
	}
}

// P12.1: any Seq, and each row; from none to more parts than there are places.
func TestMayOfRowsAndCounts(t *testing.T) {
	for _, seq := range seqs() {
		may(t, changed(some(1, 3), func(r *Record) { r.Seq = seq }), true)
		may(t, changed(some(1, 3), func(r *Record) { r.Seq, r.Row = seq, 256 }), false)
	}
	for row := -300; row < 600; row++ {
		may(t, changed(some(2, 3), func(r *Record) { r.Row = row }), row >= 0 && row < 256)
	}
	for count := range 41 {
		may(t, some(3, count), count > 0)
	}
}

// P12.1: columns and places, each with each other, around their bounds and far off.
func TestMayOfPlaces(t *testing.T) {
	l := far()
	for n := range 14 {
		l = append(l, n)
	}
	for _, col := range l {
		for _, off := range l {
			is := col >= 0 && col < 10 && off >= 0 && off < 4
			may(t, Record{Parts: []Part{{col, off, data(4)}}}, is)
			r := Record{Parts: []Part{{5, 2, data(4)}, {col, off, data(5)}, {2, 3, data(6)}}}
			may(t, r, is && [2]int{col, off} != [2]int{5, 2} && [2]int{col, off} != [2]int{2, 3})
		}
	}
}

// P12.1: two parts of the same place, wherever they stand among forty, or alone; that their Data are the same does not matter.
func TestMayOfTwice(t *testing.T) {
	whole := some(6, 40)
	for i := range whole.Parts {
		for k := range whole.Parts {
			twice := changed(whole, func(r *Record) { r.Parts[i].Col, r.Parts[i].Off = r.Parts[k].Col, r.Parts[k].Off })
			may(t, twice, i == k)
			may(t, Record{Parts: []Part{twice.Parts[i], twice.Parts[k]}}, false)
			alike := changed(whole, func(r *Record) { r.Parts[i].Data = r.Parts[k].Data })
			may(t, alike, true)
			may(t, Record{Parts: []Part{alike.Parts[i], alike.Parts[k]}}, i != k)
		}
	}
	may(t, changed(whole, func(r *Record) { r.Parts[39] = r.Parts[38] }), false)
	may(t, changed(some(6, 39), func(r *Record) { r.Parts = append(r.Parts, r.Parts[38]) }), false)
}

// P12.1: each length of each part's Data.
func TestMayOfLengths(t *testing.T) {
	for n := range 200 {
		for i := range 3 {
			may(t, changed(some(7, 3), func(r *Record) { r.Parts[i].Data = strings.Repeat("a", n) }), n == 64)
		}
	}
}

// P12.1: records by chance, that may be now and then.
func TestMayByChance(t *testing.T) {
	c, is := chance(5), 0
	for range 30000 {
		r := Record{Row: c.below(260) - 2}
		for range c.below(7) {
			r.Parts = append(r.Parts, Part{c.below(12) - 1, c.below(5), data(4)[:64-c.below(50)/49]})
		}
		may(t, r, mayBe(r))
		if mayBe(r) {
			is++
			encoded(t, r)
		}
	}
	if is < 3000 || is > 27000 {
		t.Errorf("%d may be", is)
	}
}

// P12.1, P12.2: what may not be is refused, whatever it is.
func TestWrong(t *testing.T) {
	for _, r := range wrong() {
		if mayBe(r) {
			t.Fatalf("%v may be", r)
		}
		refused(t, r)
	}
}

// P12.1, P12.2: lists of some hundreds, and texts of some thousand bytes.
func TestLong(t *testing.T) {
	refused(t, Record{Parts: make([]Part, 700)})
	refused(t, Record{Parts: slices.Repeat(some(1, 40).Parts, 16)})
	refused(t, Record{Parts: slices.Repeat([]Part{{0, 0, data(7)}}, 256+1)})
	refused(t, Record{Parts: []Part{{0, 0, strings.Repeat("a", 9000)}}})
}

// P12.2: by hand, as bytes; the sums were told by another program.
func TestEncodeByHand(t *testing.T) {
	zeros, up, forty, places := strings.Repeat("\x00", 64), "", []Part{}, ""
	for i := range 64 {
		up += string([]byte{byte(i)})
	}
	for i := range 40 {
		forty = append(forty, Part{i / 4, i % 4, zeros})
		places += string([]byte{byte(i)})
	}
	for _, c := range []struct {
		r    Record
		want string
	}{
		{Record{258, 255, []Part{{3, 1, strings.Repeat("a", 64)}, {9, 3, up}}}, "RVTJ" + "\x02\x01\x00\x00\x00\x00\x00\x00" + "\xff\x00" + "\x02" + "\xf7\x64\x4f\xf4" + "\x0d\x27" + strings.Repeat("\x00", 39) + "\xcf\x17\x93\xf7"},
		{Record{0x0102030405060708, 1, []Part{{0, 0, zeros}}}, "RVTJ" + "\x08\x07\x06\x05\x04\x03\x02\x01" + "\x01\x00" + "\x01" + "\x67\xeb\xc8\x03" + "\x00" + strings.Repeat("\x00", 40) + "\x15\x3e\x3e\x25"},
		{Record{math.MaxUint64, 0, []Part{{4, 2, up}, {0, 1, zeros}, {0, 0, strings.Repeat("a", 64)}}}, "RVTJ" + "\xff\xff\xff\xff\xff\xff\xff\xff" + "\x00\x00" + "\x03" + "\x00\xf1\x14\x2c" + "\x12\x01\x00" + strings.Repeat("\x00", 38) + "\x2b\x28\xf0\x14"},
		{Record{0, 200, forty}, "RVTJ" + "\x00\x00\x00\x00\x00\x00\x00\x00" + "\xc8\x00" + "\x28" + "\x7e\xf5\x0f\xb2" + places + "\x00" + "\x68\x9b\x8d\x27"},
	} {
		h, l, e := Encode(c.r)
		if h != c.want || !slices.Equal(l, texts(c.r.Parts)) || e != api.OK {
			t.Errorf("%v: %q %q %d", c.r, h, l, e)
		}
		if r, e := Decode(c.want, texts(c.r.Parts)); !same(r, c.r) || e != api.OK {
			t.Errorf("%v: %v %d", c.r, r, e)
		}
	}
}

// P12.2: of all counts and rows, against what is told without any layer.
func TestEncode(t *testing.T) {
	for _, r := range good() {
		encoded(t, r)
	}
	for _, seq := range seqs() {
		encoded(t, changed(some(8, 5), func(r *Record) { r.Seq = seq }))
	}
	for bit := range 64 {
		encoded(t, changed(some(9, 2), func(r *Record) { r.Seq = 1 << bit }))
	}
}

// P12.2: each place has its byte; the order of the parts is kept in both, also where it is not rising.
func TestEncodeKeepsOrder(t *testing.T) {
	for n := range 40 {
		for other := range 40 {
			if n != other {
				encoded(t, Record{Seq: 3, Row: 4, Parts: []Part{{n / 4, n % 4, data(n)}, {other / 4, other % 4, data(other)}}})
			}
		}
	}
	r := some(10, 40)
	for range 40 {
		r.Parts = append(slices.Clone(r.Parts[1:]), r.Parts[0])
		encoded(t, r)
	}
}

// P12.1, P12.2: what is handed in is as it was, and what lies behind a list's length is no part of it; what is answered is new each time.
func TestEncodeLeavesAndKeepsNothing(t *testing.T) {
	whole := some(11, 40)
	was := slices.Clone(whole.Parts)
	r := Record{Seq: 6, Row: 7, Parts: whole.Parts[:3]}
	encoded(t, r)
	h, l, e := Encode(r)
	if !slices.Equal(whole.Parts, was) || len(l) != 3 {
		t.Fatalf("the parts are %v, the load %q", whole.Parts, l)
	}
	for i := range l {
		l[i] = "other"
	}
	_ = append(l, "more")
	encoded(t, r)
	again, _, f := Encode(r)
	if again != h || e != api.OK || f != api.OK {
		t.Errorf("%q %d, %q %d", h, e, again, f)
	}
	_, l, _ = Encode(r)
	r.Parts[0] = Part{}
	if l[0] != was[0].Data {
		t.Errorf("%q", l[0])
	}
	refused(t, r)
}
