package record

import (
	"encoding/binary"
	"math"
	"slices"
	"strings"
	"testing"

	"revetment/api"
	"revetment/crc"
	"revetment/pages"
	"revetment/super"
)

// read is what P12.3 says of Head, told by the bytes' places.
func read(b string) (Record, uint32, api.Errno) {
	switch {
	case len(b) != 64:
		return Record{}, 0, api.ErrShort
	case b != sealed(b[:60]):
		return Record{}, 0, api.ErrSum
	case b[:4] != "RVTJ":
		return Record{}, 0, api.ErrMagic
	}
	l := []byte(b)
	r := Record{Seq: binary.LittleEndian.Uint64(l[4:]), Row: int(binary.LittleEndian.Uint16(l[12:]))}
	count, sum := int(l[14]), binary.LittleEndian.Uint32(l[15:])
	if count == 0 || count > 40 || r.Row > 255 || strings.Trim(b[19+count:60], "\x00") != "" {
		return Record{}, 0, api.ErrArg
	}
	for i, n := range l[19 : 19+count] {
		if n > 39 || slices.Contains(l[19:19+i], n) {
			return Record{}, 0, api.ErrArg
		}
		r.Parts = append(r.Parts, Part{Col: int(n) / 4, Off: int(n) % 4})
	}
	return r, sum, api.OK
}

// heads tells whether Head answers just that.
func heads(t *testing.T, b string, want Record, sum uint32, e api.Errno) {
	t.Helper()
	if r, n, f := Head(b); !same(r, want) || n != sum || f != e {
		t.Fatalf("Head(%q): %v %#x %d, not %v %#x %d", b, r, n, f, want, sum, e)
	}
}

// fails tells whether a sector is no head, with that error, whatever its load.
func fails(t *testing.T, b string, e api.Errno) {
	t.Helper()
	heads(t, b, Record{}, 0, e)
	for _, load := range [][]string{nil, {}, {data(4)}, {"a"}, {data(4), data(5)}, slices.Repeat([]string{data(6)}, 40)} {
		decodes(t, b, load, Record{}, e)
	}
}

// decodes tells whether Decode answers just that.
func decodes(t *testing.T, b string, load []string, want Record, e api.Errno) {
	t.Helper()
	if r, f := Decode(b, load); !same(r, want) || f != e {
		t.Fatalf("Decode(%q, %q): %v %d, not %v %d", b, load, r, f, want, e)
	}
}

// codes is a text of these bytes.
func codes(l ...int) string {
	out := []byte{}
	for _, n := range l {
		out = append(out, byte(n))
	}
	return string(out)
}

// rising are so many bytes, from 0 on.
func rising(count int) string {
	out := ""
	for n := range count {
		out += codes(n)
	}
	return out
}

// P12.3: of all that may be, the record without its Data, and the load's sum.
func TestHead(t *testing.T) {
	for _, r := range good() {
		heads(t, block(r), bare(r), checksum(strings.Join(texts(r.Parts), "")), api.OK)
	}
	for _, seq := range seqs() {
		for _, sum := range []uint32{0, 1, 255, 256, 1 << 31, 0x01020304, math.MaxUint32 - 1, math.MaxUint32} {
			want := Record{seq, 9, []Part{{Col: 2, Off: 3}, {Col: 0, Off: 1}}}
			heads(t, sealed(numbers(seq, 9, 2, sum)+codes(11, 1)), want, sum, api.OK)
		}
	}
}

// P12.3: too few bytes, or too many, whatever their sum.
func TestHeadOtherLengths(t *testing.T) {
	b := block(some(4, 3))
	for n := range 300 {
		if n == 64 {
			continue
		}
		fails(t, (b + b + b + b + b)[:n], api.ErrShort)
		if other, is := crc.Seal(b[:22], n); is {
			fails(t, other, api.ErrShort)
		}
	}
	fails(t, b+"\x00", api.ErrShort)
	fails(t, b[1:], api.ErrShort)
	fails(t, strings.Repeat(b, 64), api.ErrShort)
}

// P12.3: of another sum: each bit of a head turned, and sectors that were none.
func TestHeadOtherSum(t *testing.T) {
	for which := range 4 {
		b := block(some(which, 1+13*which))
		for bit := range 8 * len(b) {
			l := []byte(b)
			l[bit/8] ^= 1 << (bit % 8)
			fails(t, string(l), api.ErrSum)
		}
		fails(t, b[:60]+codes(int(b[63]), int(b[62]), int(b[61]), int(b[60])), api.ErrSum)
		fails(t, b[:60]+"\x00\x00\x00\x00", api.ErrSum)
	}
	for _, b := range []string{data(0), data(1), data(2), data(9), "RVTJ" + data(9)[4:], "RVTX" + data(0)[4:], "RVTJ" + data(0)[4:]} {
		fails(t, b, api.ErrSum)
	}
}

// P12.3: bytes that begin by something else, with their own sum; also where what is behind may not be.
func TestHeadOtherMagic(t *testing.T) {
	good, bad := block(some(5, 4))[4:60], numbers(1, 300, 41, 5)[4:]+strings.Repeat("\xff", 41)
	for _, rest := range []string{good, bad} {
		for i := range 4 {
			for to := range 256 {
				l := []byte("RVTJ" + rest)
				if l[i] != byte(to) {
					l[i] = byte(to)
					fails(t, sealed(string(l)), api.ErrMagic)
				}
			}
		}
		for _, s := range []string{"JTVR", "RVTB", "RVTM", "RVT1", "rvtj", " RVTJ", "\x00RVTJ", "RVT", "VTJR", "RVTRVTJ", ""} {
			if s+rest != "RVTJ"+rest {
				fails(t, sealed(s+rest), api.ErrMagic)
			}
		}
	}
	s, _ := super.Encode(super.Super{UUID: 7, Geo: api.Geometry{Cols: 4, Chunk: 1, Rows: 8}})
	p, _ := pages.Encode(pages.Page{Events: 1, Bits: "abcdefgh"})
	for _, b := range []string{s, p, sealed(""), sealed("a")} {
		fails(t, b, api.ErrMagic)
	}
}

// P12.3: numbers of rows in two bytes: all of them.
func TestHeadOfEachRow(t *testing.T) {
	for row := range 65536 {
		b := sealed(numbers(3, row, 1, 7) + codes(5))
		if row < 256 {
			heads(t, b, Record{3, row, []Part{{Col: 1, Off: 1}}}, 7, api.OK)
		} else if _, _, e := Head(b); e != api.ErrArg {
			t.Fatalf("row %d: %d", row, e)
		}
	}
	fails(t, sealed(numbers(3, 256, 1, 7)+codes(5)), api.ErrArg)
	fails(t, sealed(numbers(3, 65535, 1, 7)+codes(5)), api.ErrArg)
}

// P12.3: how many parts are told, and how many places stand there: what is behind the parts has to be bytes 0, and the byte 0 is a place, too.
func TestHeadOfEachCount(t *testing.T) {
	for count := range 256 {
		for places := range 42 {
			b := sealed(numbers(4, 5, count, 6) + rising(places))
			want, sum, e := read(b)
			if is := count == places && count > 0 && count < 41 || count == 1 && places == 0; is != (e == api.OK) {
				t.Fatalf("%d of %d: %d", count, places, e)
			}
			heads(t, b, want, sum, e)
			if e != api.OK && places%7 == 0 {
				fails(t, b, api.ErrArg)
			}
		}
		filled := sealed(numbers(4, 5, count, 6) + strings.Repeat("\xff", 41))
		fails(t, filled, api.ErrArg)
		if count != 1 {
			fails(t, sealed(numbers(4, 5, count, 6)), api.ErrArg)
		}
	}
}

// P12.3: each byte, as each place of some parts; forty is none of them.
func TestHeadOfEachPlace(t *testing.T) {
	for n := range 256 {
		for i, rest := range []string{"", "\x27", "\x27\x00", rising(20), rising(40)[1:]} {
			places := rest + codes(n)
			b := sealed(numbers(8, 9, len(places), 1) + places)
			want, sum, e := read(b)
			if is := n < 40 && !strings.Contains(rest, codes(n)); is != (e == api.OK) {
				t.Fatalf("%d, %d: %d", n, i, e)
			}
			heads(t, b, want, sum, e)
			places = codes(n) + rest
			b = sealed(numbers(8, 9, len(places), 1) + places)
			want, sum, e = read(b)
			heads(t, b, want, sum, e)
		}
	}
	heads(t, sealed(numbers(8, 9, 1, 1)+codes(39)), Record{8, 9, []Part{{Col: 9, Off: 3}}}, 1, api.OK)
	fails(t, sealed(numbers(8, 9, 1, 1)+codes(40)), api.ErrArg)
}

// P12.3: two parts of the same place, wherever they stand.
func TestHeadOfTwice(t *testing.T) {
	for i := range 40 {
		for k := range i {
			l := []byte(rising(40))
			l[i] = byte(k)
			fails(t, sealed(numbers(1, 2, 40, 3)+string(l)), api.ErrArg)
			fails(t, sealed(numbers(1, 2, 2, 3)+codes(i, i)), api.ErrArg)
			heads(t, sealed(numbers(1, 2, 2, 3)+codes(i, k)), Record{1, 2, []Part{{Col: i / 4, Off: i % 4}, {Col: k / 4, Off: k % 4}}}, 3, api.OK)
		}
	}
}

// P12.3: a bit that is 1 somewhere behind the parts, with the sum that is then theirs; also behind forty of them.
func TestHeadBehindParts(t *testing.T) {
	for _, count := range []int{1, 2, 3, 17, 39, 40} {
		b := block(some(6, count))
		for bit := 8 * (19 + count); bit < 8*60; bit++ {
			l := []byte(b[:60])
			l[bit/8] ^= 1 << (bit % 8)
			fails(t, sealed(string(l)), api.ErrArg)
		}
		for _, behind := range []string{"\xff", " ", "0", "\x27"} {
			fails(t, sealed(b[:19+count]+behind), api.ErrArg)
			fails(t, sealed(b[:59]+behind), api.ErrArg)
		}
	}
}

// P12.3: heads with some of their bytes changed, and sealed anew, against what the chapter says byte by byte.
func TestHeadByChance(t *testing.T) {
	c, is := chance(9), 0
	for run := range 30000 {
		l := []byte(block(some(run%300, 1+run%40))[:60])
		for range c.below(4) {
			l[c.below(60)] = byte(c.below(256) >> c.below(8))
		}
		b := sealed(string(l))
		want, sum, e := read(b)
		heads(t, b, want, sum, e)
		if e == api.OK {
			is++
		}
	}
	if is < 3000 || is > 27000 {
		t.Errorf("%d are heads", is)
	}
}

// P12.3: the Data of a load come to their parts, in order.
func TestDecode(t *testing.T) {
	for _, r := range good() {
		decodes(t, block(r), texts(r.Parts), r, api.OK)
	}
}

// P12.3: of other many texts than parts, whatever they are.
func TestDecodeOtherCounts(t *testing.T) {
	for _, count := range []int{1, 2, 3, 20, 39, 40} {
		r := some(7, count)
		l := texts(r.Parts)
		more := append(append(slices.Clone(l), l...), data(5), "", "a")
		for n := range len(more) + 1 {
			if n != count {
				decodes(t, block(r), more[:n], Record{}, api.ErrShort)
			}
		}
		decodes(t, block(r), nil, Record{}, api.ErrShort)
		decodes(t, block(r), make([]string, count), Record{}, api.ErrShort)
		decodes(t, block(r), []string{strings.Join(l, "") + "a"}, Record{}, api.ErrShort)
		decodes(t, block(r), append(slices.Clone(l), ""), Record{}, api.ErrShort)
		decodes(t, block(r), append([]string{""}, l...), Record{}, api.ErrShort)
		decodes(t, block(r), slices.Repeat([]string{data(5)}, 700), Record{}, api.ErrShort)
		if count > 1 {
			decodes(t, block(r), []string{strings.Join(l, "")}, Record{}, api.ErrShort)
		}
	}
}

// P12.3: a text that is no sector's, wherever it stands, even if all of them behind one another are what was written.
func TestDecodeOtherLengths(t *testing.T) {
	for _, count := range []int{1, 2, 3, 40} {
		r := some(8, count)
		for i := range count {
			for n := range 200 {
				if n != 64 {
					l := texts(r.Parts)
					l[i] = strings.Repeat("a", n)
					decodes(t, block(r), l, Record{}, api.ErrShort)
				}
			}
			l := texts(r.Parts)
			l[i] += "\x00"
			decodes(t, block(r), l, Record{}, api.ErrShort)
			if i > 0 {
				l = texts(r.Parts)
				l[i-1], l[i] = l[i-1]+l[i][:1], l[i][1:]
				decodes(t, block(r), l, Record{}, api.ErrShort)
			}
		}
	}
}

// P12.3: a load of another sum: each bit turned, texts that were swapped, and those of other records.
func TestDecodeOtherSum(t *testing.T) {
	r := some(9, 3)
	for bit := range 8 * 64 * 3 {
		load := texts(r.Parts)
		l := []byte(load[bit/512])
		l[bit/8%64] ^= 1 << (bit % 8)
		load[bit/512] = string(l)
		decodes(t, block(r), load, Record{}, api.ErrSum)
	}
	for _, r := range []Record{some(1, 2), some(2, 7), some(3, 40)} {
		for i := range r.Parts {
			for k := range i {
				l := texts(r.Parts)
				l[i], l[k] = l[k], l[i]
				if l[i] != l[k] {
					decodes(t, block(r), l, Record{}, api.ErrSum)
				}
			}
		}
		decodes(t, block(r), make([]string, len(r.Parts)), Record{}, api.ErrShort)
		decodes(t, block(r), slices.Repeat([]string{data(0)}, len(r.Parts)), Record{}, api.ErrSum)
	}
}

// P12.3: what is named first is answered: the head's own error, then how many texts and how long they are, then their sum.
func TestDecodeAnswersWhatIsNamedFirst(t *testing.T) {
	r := some(10, 3)
	b := block(r)
	for _, l := range [][]string{nil, {"a"}, texts(r.Parts), {data(4), data(5), data(6)}, {data(4), "a", data(6)}} {
		decodes(t, b[:63], l, Record{}, api.ErrShort)
		decodes(t, b[:63]+"?", l, Record{}, api.ErrSum)
		decodes(t, sealed("RVTB"+b[4:60]), l, Record{}, api.ErrMagic)
		decodes(t, sealed(b[:59]+"?"), l, Record{}, api.ErrArg)
	}
	decodes(t, b, []string{data(4), data(5)}, Record{}, api.ErrShort)
	decodes(t, b, []string{data(4), data(5), "a"}, Record{}, api.ErrShort)
	decodes(t, b, []string{data(4), data(5), data(6)}, Record{}, api.ErrSum)
	for _, b := range []string{b, data(9), sealed(b[:4] + data(1)), sealed("RVTB" + b[4:60])} {
		fails(t, b+"x", api.ErrShort)
	}
}

// P12.3: the load is as it was, what lies behind its length is none of it, and the record is new each time.
func TestDecodeLeavesAndKeepsNothing(t *testing.T) {
	r := some(11, 3)
	whole := append(texts(r.Parts), data(4), "a")
	was := slices.Clone(whole)
	got, e := Decode(block(r), whole[:3])
	if !same(got, r) || e != api.OK || !slices.Equal(whole, was) {
		t.Fatalf("%v %d, %q", got, e, whole)
	}
	whole[0] = "other"
	if !same(got, r) {
		t.Errorf("%v", got)
	}
	got.Parts[1] = Part{}
	decodes(t, block(r), was[:3], r, api.OK)
	head, _, _ := Head(block(r))
	head.Parts[0] = Part{}
	heads(t, block(r), bare(r), checksum(strings.Join(was[:3], "")), api.OK)
}

// P12.4: what may be comes back, of its own answers alone.
func TestWhatMayBeComesBack(t *testing.T) {
	for _, r := range good() {
		h, l, e := Encode(r)
		if e != api.OK {
			t.Fatalf("%v: %d", r, e)
		}
		heads(t, h, bare(r), checksum(strings.Join(l, "")), api.OK)
		decodes(t, h, l, r, api.OK)
	}
}

// P12.4: each place and each row, with one part.
func TestEachPlaceComesBack(t *testing.T) {
	for row := range 256 {
		for n := range 40 {
			r := Record{Seq: uint64(row) << n, Row: row, Parts: []Part{{n / 4, n % 4, data(n)}}}
			h, l, e := Encode(r)
			if got, f := Decode(h, l); !same(got, r) || e != api.OK || f != api.OK {
				t.Fatalf("%v: %v %d %d", r, got, e, f)
			}
		}
	}
}

// P12.4: what is read is what was written: two records have the same head and load only if they are the same, and a head has no load but its own.
func TestOthersAreOthers(t *testing.T) {
	l := []Record{some(1, 3), some(1, 3), some(2, 3), some(2, 40)}
	r := some(1, 3)
	l = append(l, changed(r, func(r *Record) { r.Seq++ }), changed(r, func(r *Record) { r.Row++ }), changed(r, func(r *Record) { r.Parts = r.Parts[:2] }))
	l = append(l, changed(r, func(r *Record) { slices.Reverse(r.Parts) }), changed(r, func(r *Record) { r.Parts[1].Data = data(61) }))
	l = append(l, changed(r, func(r *Record) { r.Parts[0].Data, r.Parts[1].Data = r.Parts[1].Data, r.Parts[0].Data }))
	for i, a := range l {
		for k, b := range l {
			h, load, _ := Encode(a)
			other, more, _ := Encode(b)
			if is := same(a, b); is != (h == other && slices.Equal(load, more)) {
				t.Errorf("%d, %d: the same is %v", i, k, !is)
			}
			if _, e := Decode(h, more); (e == api.OK) != slices.Equal(load, more) {
				t.Errorf("%d with the load of %d: %d", i, k, e)
			}
		}
	}
}

// ending are the last four bytes of a text that begins by s, so that its sum is so great.
func ending(s string, sum uint32) string {
	n := ^sum
	for range 32 {
		if n>>31 == 1 {
			n = (n^0x82f63b78)<<1 | 1
		} else {
			n <<= 1
		}
	}
	return string(binary.LittleEndian.AppendUint32(nil, n^^checksum(s)))
}

// P12.3, P12.4: each number is some load's sum, so a head may tell any.
func TestEachSumIsSomeLoads(t *testing.T) {
	c := chance(3)
	for i := range 300 {
		sum := []uint32{0, 1, 1 << 31, math.MaxUint32, uint32(c.below(1<<31))<<1 | uint32(c.below(2))}[min(i, 4)]
		r := some(i, 1+i%40)
		last := len(r.Parts) - 1
		ahead := strings.Join(texts(r.Parts), "")
		ahead = ahead[:len(ahead)-4]
		r.Parts[last].Data = r.Parts[last].Data[:60] + ending(ahead, sum)
		h, l, e := Encode(r)
		if e != api.OK || h != block(r) || checksum(strings.Join(l, "")) != sum {
			t.Fatalf("%v: %d, not of %#x", r, e, sum)
		}
		heads(t, h, bare(r), sum, api.OK)
		decodes(t, h, l, r, api.OK)
	}
}
