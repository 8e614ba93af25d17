package super

import (
	"encoding/binary"
	"hash/crc32"
	"math"
	"slices"
	"strings"
	"testing"

	"revetment/api"
)

// plain is a superblock that may be, that does not grow, and that is whole.
func plain() Super {
	return Super{UUID: 7, Events: 1, Role: 3, Geo: api.Geometry{Cols: 5, Chunk: 2, Rows: 100}, Clean: true, Built: 100}
}

// growing is a superblock that may be, of an array that grows.
func growing() Super {
	s := plain()
	s.New, s.Grown = 7, 40
	return s
}

// changed is s after a change.
func changed(s Super, by func(*Super)) Super {
	by(&s)
	return s
}

// mayBe tells what P8.1 says, word by word.
func mayBe(s Super) bool {
	switch {
	case s.UUID == 0:
		return false
	case s.Geo.Cols < 4, s.Geo.Cols > 10, s.Geo.Chunk < 1, s.Geo.Chunk > 4, s.Geo.Rows < 1, s.Geo.Rows > 256:
		return false
	case s.New != 0 && s.New <= s.Geo.Cols, s.New > 10:
		return false
	case s.New == 0 && s.Grown != 0:
		return false
	case s.Built < 0, s.Built > s.Geo.Rows, s.Grown < 0, s.Grown > s.Geo.Rows:
		return false
	case s.Role == 254, s.Role == 255:
		return true
	}
	columns := s.Geo.Cols
	if s.New > columns {
		columns = s.New
	}
	return s.Role >= 0 && s.Role < columns
}

// summed is a text of 60 bytes or fewer as a sector: bytes 0 behind it, and its sum as the last four.
func summed(text string) string {
	b := make([]byte, 60, 64)
	copy(b, text)
	return string(binary.LittleEndian.AppendUint32(b, crc32.Checksum(b, crc32.MakeTable(crc32.Castagnoli))))
}

// written is a superblock's numbers, one behind the other, as P8.2 says it. What does not fit is cut off.
func written(s Super) string {
	b := binary.LittleEndian.AppendUint32(nil, 0x31545652)
	b = binary.LittleEndian.AppendUint64(b, s.UUID)
	b = binary.LittleEndian.AppendUint64(b, s.Events)
	b = append(b, byte(s.Role), byte(s.Geo.Cols), byte(s.Geo.Chunk))
	b = binary.LittleEndian.AppendUint16(b, uint16(s.Geo.Rows))
	clean := byte(0)
	if s.Clean {
		clean = 1
	}
	b = append(b, clean)
	b = binary.LittleEndian.AppendUint16(b, uint16(s.Built))
	b = append(b, byte(s.New))
	return string(binary.LittleEndian.AppendUint16(b, uint16(s.Grown)))
}

// read is what P8.3 says of Decode, told by the bytes' places.
func read(b string) (Super, api.Errno) {
	if len(b) != 64 {
		return Super{}, api.ErrShort
	}
	if b != summed(b[:60]) {
		return Super{}, api.ErrSum
	}
	if b[:4] != "RVT1" {
		return Super{}, api.ErrMagic
	}
	l := []byte(b)
	s := Super{
		UUID: binary.LittleEndian.Uint64(l[4:]), Events: binary.LittleEndian.Uint64(l[12:]), Role: int(l[20]),
		Geo:   api.Geometry{Cols: int(l[21]), Chunk: int(l[22]), Rows: int(binary.LittleEndian.Uint16(l[23:]))},
		Clean: l[25] == 1, Built: int(binary.LittleEndian.Uint16(l[26:])), New: int(l[28]), Grown: int(binary.LittleEndian.Uint16(l[29:])),
	}
	if l[25] > 1 || strings.Trim(b[31:60], "\x00") != "" || !mayBe(s) {
		return Super{}, api.ErrArg
	}
	return s, api.OK
}

// ints tells numbers at the bounds that the chapter names, beside them, and far off; some have a low byte, or two, that might be.
func ints() []int {
	out := []int{math.MinInt, math.MinInt + 1, -1 << 32, -256, -255, -2, -1, 253, 254, 255, 256, 257, 258, 260, 511, 512, 65535, 65536, 65540, 1 << 32, 1<<32 + 4, math.MaxInt - 1, math.MaxInt}
	for n := range 13 {
		out = append(out, n)
	}
	return out
}

// good tells superblocks that may be: all columns, to all greater numbers of them, each with roles, rows and numbers at their bounds.
func good() []Super {
	out := []Super{}
	for cols := 4; cols <= 10; cols++ {
		for target := cols; target <= 10; target++ {
			for i, rows := range []int{1, 2, 100, 255, 256} {
				s := Super{UUID: 1 << (9 * i), Events: uint64(cols * target), Geo: api.Geometry{Cols: cols, Chunk: 1 + (cols+i)%4, Rows: rows}, Clean: i%2 == 0}
				grown := []int{0}
				if target > cols {
					s.New = target
					grown = []int{0, 1, rows - 1, rows}
				}
				for _, s.Role = range []int{0, 1, cols - 1, target - 1, Spare, Journal} {
					for _, s.Built = range []int{0, 1, rows - 1, rows} {
						for _, s.Grown = range grown {
							out = append(out, s)
						}
					}
				}
			}
		}
	}
	return out
}

// wrong tells superblocks that may not be, each by one number (or one beside another).
func wrong() []Super {
	out := []Super{{}, {UUID: 1}}
	for _, s := range []Super{plain(), growing()} {
		add := func(by func(*Super)) {
			out = append(out, changed(s, by))
		}
		add(func(s *Super) { s.UUID = 0 })
		for _, n := range []int{math.MinInt, -1, 0, 3, 11, 255, 256 + 5, 1<<32 + 5, math.MaxInt} {
			add(func(s *Super) { s.Geo.Cols = n })
		}
		for _, n := range []int{math.MinInt, -1, 0, 5, 256 + 2, 1<<32 + 2, math.MaxInt} {
			add(func(s *Super) { s.Geo.Chunk = n })
		}
		for _, n := range []int{math.MinInt, -1, 0, 99, 257, 65536 + 100, 1<<32 + 100, math.MaxInt} {
			add(func(s *Super) { s.Geo.Rows = n })
		}
		for _, n := range []int{math.MinInt, -256, -1, max(s.Geo.Cols, s.New), 10, 11, 253, 256, 256 + 3, 1<<32 + 3, math.MaxInt} {
			add(func(s *Super) { s.Role = n })
		}
		for _, n := range []int{math.MinInt, -1, 101, 256, 65536 + 100, 1<<32 + 100, math.MaxInt} {
			add(func(s *Super) { s.Built = n })
			add(func(s *Super) { s.Grown = n })
		}
		for _, n := range []int{math.MinInt, -1, 1, 4, 5, 11, 256, 256 + 7, 1<<32 + 7, math.MaxInt} {
			add(func(s *Super) { s.New = n })
		}
	}
	for _, n := range []int{1, 40, 100} {
		out = append(out, changed(plain(), func(s *Super) { s.Grown = n }))
	}
	return append(out, changed(growing(), func(s *Super) { s.New = 0 }), changed(plain(), func(s *Super) { s.Built = 101; s.UUID = 0 }))
}

// P8.1: by hand.
func TestMayByHand(t *testing.T) {
	for i, c := range []struct {
		s  Super
		is bool
	}{
		{plain(), true},
		{growing(), true},
		{Super{}, false},
		{Super{UUID: 1, Geo: api.Geometry{Cols: 4, Chunk: 1, Rows: 1}}, true},
		{Super{UUID: math.MaxUint64, Events: math.MaxUint64, Role: 255, Geo: api.Geometry{Cols: 9, Chunk: 4, Rows: 256}, Clean: true, Built: 256, New: 10, Grown: 256}, true},
		{Super{UUID: math.MaxUint64, Events: math.MaxUint64, Role: 254, Geo: api.Geometry{Cols: 10, Chunk: 4, Rows: 256}, Clean: true, Built: 256}, true},
		{changed(plain(), func(s *Super) { s.UUID = 0 }), false},
		{changed(plain(), func(s *Super) { s.UUID = 1 << 63 }), true},
		{changed(plain(), func(s *Super) { s.Events = 0 }), true},
		{changed(plain(), func(s *Super) { s.Clean = false }), true},
		{changed(plain(), func(s *Super) { s.Role = 0 }), true},
		{changed(plain(), func(s *Super) { s.Role = 4 }), true},
		{changed(plain(), func(s *Super) { s.Role = 5 }), false},
		{changed(plain(), func(s *Super) { s.Role = -1 }), false},
		{changed(plain(), func(s *Super) { s.Role = Spare }), true},
		{changed(plain(), func(s *Super) { s.Role = Journal }), true},
		{changed(plain(), func(s *Super) { s.Role = 253 }), false},
		{changed(plain(), func(s *Super) { s.Role = 256 }), false},
		{changed(growing(), func(s *Super) { s.Role = 6 }), true},
		{changed(growing(), func(s *Super) { s.Role = 7 }), false},
		{changed(growing(), func(s *Super) { s.Role = Spare }), true},
		{changed(plain(), func(s *Super) { s.Geo.Cols = 3 }), false},
		{changed(plain(), func(s *Super) { s.Geo.Cols = 4 }), true},
		{changed(plain(), func(s *Super) { s.Geo.Cols = 11 }), false},
		{changed(plain(), func(s *Super) { s.Geo.Chunk = 0 }), false},
		{changed(plain(), func(s *Super) { s.Geo.Chunk = 5 }), false},
		{changed(plain(), func(s *Super) { s.Geo.Rows = 257 }), false},
		{changed(plain(), func(s *Super) { s.Geo.Rows, s.Built = 0, 0 }), false},
		{changed(plain(), func(s *Super) { s.Built = 0 }), true},
		{changed(plain(), func(s *Super) { s.Built = 101 }), false},
		{changed(plain(), func(s *Super) { s.Built = -1 }), false},
		{changed(plain(), func(s *Super) { s.New = 5 }), false},
		{changed(plain(), func(s *Super) { s.New = 4 }), false},
		{changed(plain(), func(s *Super) { s.New = 6 }), true},
		{changed(plain(), func(s *Super) { s.New = 10 }), true},
		{changed(plain(), func(s *Super) { s.New = 11 }), false},
		{changed(plain(), func(s *Super) { s.New = -1 }), false},
		{changed(plain(), func(s *Super) { s.Grown = 1 }), false},
		{changed(plain(), func(s *Super) { s.Grown = -1 }), false},
		{changed(growing(), func(s *Super) { s.Grown = 0 }), true},
		{changed(growing(), func(s *Super) { s.Grown = 100 }), true},
		{changed(growing(), func(s *Super) { s.Grown = 101 }), false},
		{changed(growing(), func(s *Super) { s.Grown = -1 }), false},
		{changed(growing(), func(s *Super) { s.New, s.Grown = 0, 0 }), true},
		{changed(growing(), func(s *Super) { s.New = 0 }), false},
		{changed(growing(), func(s *Super) { s.Geo.Cols = 7 }), false},
		{changed(growing(), func(s *Super) { s.Geo.Cols = 6 }), true},
	} {
		if May(c.s) != c.is {
			t.Errorf("%d: May(%v) = %v", i, c.s, !c.is)
		}
	}
}

// P8.1: columns, roles and how many there are to be, each with each other, around their bounds and far off.
func TestMayOfRoles(t *testing.T) {
	for _, cols := range ints() {
		for _, target := range ints() {
			for _, role := range ints() {
				for grown := range 2 {
					s := Super{UUID: 1, Role: role, Geo: api.Geometry{Cols: cols, Chunk: 1, Rows: 1}, New: target, Grown: grown}
					if May(s) != mayBe(s) {
						t.Fatalf("May(%v) = %v", s, !mayBe(s))
					}
				}
			}
		}
	}
}

// P8.1: rows, and how many are built and grown, each with each other, around their bounds and far off.
func TestMayOfRows(t *testing.T) {
	for _, rows := range ints() {
		for _, built := range ints() {
			for _, grown := range ints() {
				for _, target := range []int{0, 6} {
					s := Super{UUID: 1, Geo: api.Geometry{Cols: 5, Chunk: 4, Rows: rows}, Built: built, New: target, Grown: grown}
					if May(s) != mayBe(s) {
						t.Fatalf("May(%v) = %v", s, !mayBe(s))
					}
				}
			}
		}
	}
}

// P8.1: each number by itself, of all that may be.
func TestMayOfWhatMayBe(t *testing.T) {
	for _, s := range good() {
		if !May(s) {
			t.Fatalf("May(%v) = false", s)
		}
		for _, n := range ints() {
			for _, x := range []Super{
				changed(s, func(s *Super) { s.UUID = uint64(n) }), changed(s, func(s *Super) { s.Events = uint64(n) }), changed(s, func(s *Super) { s.Role = n }),
				changed(s, func(s *Super) { s.Geo.Cols = n }), changed(s, func(s *Super) { s.Geo.Chunk = n }), changed(s, func(s *Super) { s.Geo.Rows = n }),
				changed(s, func(s *Super) { s.Clean = n%2 == 0 }), changed(s, func(s *Super) { s.Built = n }),
				changed(s, func(s *Super) { s.New = n }), changed(s, func(s *Super) { s.Grown = n }),
			} {
				if May(x) != mayBe(x) {
					t.Fatalf("May(%v) = %v", x, !mayBe(x))
				}
			}
		}
	}
}

// P8.1: what may not be.
func TestMayNot(t *testing.T) {
	for _, s := range wrong() {
		if May(s) {
			t.Errorf("May(%v)", s)
		}
	}
}

// P8.2: by hand, each number's bytes and the sum's.
func TestEncodeByHand(t *testing.T) {
	for i, c := range []struct {
		s    Super
		want string
	}{
		{
			Super{UUID: 1, Geo: api.Geometry{Cols: 4, Chunk: 1, Rows: 1}},
			"RVT1" + "\x01\x00\x00\x00\x00\x00\x00\x00" + "\x00\x00\x00\x00\x00\x00\x00\x00" + "\x00" + "\x04\x01\x01\x00" + "\x00" + "\x00\x00" + "\x00" + "\x00\x00",
		},
		{
			Super{UUID: 0x0123456789abcdef, Events: 0xfedcba9876543210, Role: 9, Geo: api.Geometry{Cols: 8, Chunk: 3, Rows: 0x00fe}, Clean: true, Built: 0x00fd, New: 10, Grown: 0x00fc},
			"RVT1" + "\xef\xcd\xab\x89\x67\x45\x23\x01" + "\x10\x32\x54\x76\x98\xba\xdc\xfe" + "\x09" + "\x08\x03\xfe\x00" + "\x01" + "\xfd\x00" + "\x0a" + "\xfc\x00",
		},
		{
			Super{UUID: math.MaxUint64, Events: math.MaxUint64, Role: Journal, Geo: api.Geometry{Cols: 9, Chunk: 4, Rows: 256}, Built: 256, New: 10, Grown: 256},
			"RVT1" + "\xff\xff\xff\xff\xff\xff\xff\xff" + "\xff\xff\xff\xff\xff\xff\xff\xff" + "\xff" + "\x09\x04\x00\x01" + "\x00" + "\x00\x01" + "\x0a" + "\x00\x01",
		},
		{
			Super{UUID: 1 << 63, Events: 1 << 63, Role: Spare, Geo: api.Geometry{Cols: 10, Chunk: 2, Rows: 255}, Clean: true, Built: 1},
			"RVT1" + "\x00\x00\x00\x00\x00\x00\x00\x80" + "\x00\x00\x00\x00\x00\x00\x00\x80" + "\xfe" + "\x0a\x02\xff\x00" + "\x01" + "\x01\x00" + "\x00" + "\x00\x00",
		},
	} {
		if b, e := Encode(c.s); b != summed(c.want) || e != api.OK {
			t.Errorf("%d: %q %d", i, b, e)
		}
	}
}

// P8.2: a whole sector, its sum written out.
func TestEncodeWithItsSum(t *testing.T) {
	want := "RVT1" + "\x07\x00\x00\x00\x00\x00\x00\x00" + "\x01\x00\x00\x00\x00\x00\x00\x00" + "\x03\x05\x02\x64\x00\x01\x64\x00\x00\x00\x00" + strings.Repeat("\x00", 29) + "\xf8\xc6\x9a\xa3"
	if b, e := Encode(plain()); b != want || e != api.OK {
		t.Errorf("%q %d", b, e)
	}
}

// P8.2: of all that may be, as it is written word by word.
func TestEncodeOfWhatMayBe(t *testing.T) {
	for _, s := range good() {
		if b, e := Encode(s); b != summed(written(s)) || e != api.OK {
			t.Fatalf("Encode(%v) = %q %d", s, b, e)
		}
	}
}

// P8.2: what may not be is ErrArg, and no text.
func TestEncodeOfWhatMayNotBe(t *testing.T) {
	for _, s := range wrong() {
		if b, e := Encode(s); b != "" || e != api.ErrArg {
			t.Errorf("Encode(%v) = %q %d", s, b, e)
		}
	}
	for _, a := range ints() {
		for _, b := range ints() {
			s := Super{UUID: uint64(a), Events: uint64(b), Role: a, Geo: api.Geometry{Cols: b, Chunk: a, Rows: b}, Built: a, New: b, Grown: a}
			if b, e := Encode(s); (e == api.OK) != mayBe(s) || e != api.OK && (b != "" || e != api.ErrArg) {
				t.Errorf("Encode(%v) = %q %d", s, b, e)
			}
		}
	}
}

// P8.2 (R5): what is encoded or decoded between two calls changes nothing.
func TestEncodeOnceMore(t *testing.T) {
	first, _ := Encode(plain())
	for _, s := range append(good()[:50], wrong()...) {
		b, _ := Encode(s)
		Decode(b)
		if again, e := Encode(plain()); again != first || again != summed(written(plain())) || e != api.OK {
			t.Fatalf("behind %v: %q %d", s, again, e)
		}
	}
}

// decodes tells whether Decode answers just that; beside an error it must be a superblock of nothing.
func decodes(t *testing.T, b string, want Super, e api.Errno) {
	t.Helper()
	if s, f := Decode(b); s != want || f != e {
		t.Fatalf("Decode(%q) = %v %d, not %v %d", b, s, f, want, e)
	}
}

// P8.3: by hand.
func TestDecodeByHand(t *testing.T) {
	head := "RVT1" + "\x07\x00\x00\x00\x00\x00\x00\x00" + "\x01\x00\x00\x00\x00\x00\x00\x00"
	decodes(t, summed(head+"\x03\x05\x02\x64\x00\x01\x64\x00\x00\x00\x00"), plain(), api.OK)
	decodes(t, summed(head+"\x03\x05\x02\x64\x00\x01\x64\x00\x07\x28\x00"), growing(), api.OK)
	decodes(t, strings.Repeat("\x00", 64), Super{}, api.ErrSum)
	decodes(t, strings.Repeat("\xff", 64), Super{}, api.ErrSum)
	decodes(t, summed(""), Super{}, api.ErrMagic)
	decodes(t, summed("RVT1"), Super{}, api.ErrArg)
	decodes(t, summed(head), Super{}, api.ErrArg)
	decodes(t, "", Super{}, api.ErrShort)
	for i, c := range []struct {
		tail string
		want func(*Super)
	}{
		{"\x03\x05\x02\x00\x01\x00\x00\x01\x00\x00\x00", func(s *Super) { s.Geo.Rows, s.Clean, s.Built = 256, false, 256 }},
		{"\xfe\x0a\x04\x01\x00\x01\x00\x00\x00\x00\x00", func(s *Super) { s.Role, s.Geo, s.Built = Spare, api.Geometry{Cols: 10, Chunk: 4, Rows: 1}, 0 }},
		{"\xff\x04\x01\x00\x01\x01\xff\x00\x05\x00\x01", func(s *Super) {
			s.Role, s.Geo, s.Built, s.New, s.Grown = Journal, api.Geometry{Cols: 4, Chunk: 1, Rows: 256}, 255, 5, 256
		}},
	} {
		if s, e := Decode(summed(head + c.tail)); s != changed(plain(), c.want) || e != api.OK {
			t.Errorf("%d: %v %d", i, s, e)
		}
	}
}

// P8.3: 64 bytes it must be, whatever they are, and that is asked ahead of their sum.
func TestDecodeOfOtherLengths(t *testing.T) {
	b := summed(written(plain()))
	long := strings.Repeat(b, 40)
	for n := range len(long) {
		if n != 64 {
			decodes(t, long[:n], Super{}, api.ErrShort)
			decodes(t, strings.Repeat("\x00", n), Super{}, api.ErrShort)
			decodes(t, strings.Repeat("\xff", n), Super{}, api.ErrShort)
		}
	}
	sum := crc32.MakeTable(crc32.Castagnoli)
	for n := range 200 {
		text := []byte((long)[:n])
		if n != 60 {
			decodes(t, string(binary.LittleEndian.AppendUint32(text, crc32.Checksum(text, sum))), Super{}, api.ErrShort)
		}
	}
}

// P8.3: the sum is asked ahead of all that the bytes say; no bit may be another one.
func TestDecodeOfOtherSums(t *testing.T) {
	for _, good := range []string{summed(written(plain())), summed(written(growing())), summed(""), summed("RVT1")} {
		for i := range 64 {
			for n := 1; n < 256; n++ {
				b := []byte(good)
				b[i] ^= byte(n)
				decodes(t, string(b), Super{}, api.ErrSum)
			}
		}
		b := []byte(good)
		slices.Reverse(b[60:])
		decodes(t, string(b), Super{}, api.ErrSum)
	}
}

// P8.3: the first number is asked ahead of the others.
func TestDecodeOfOtherMagic(t *testing.T) {
	for _, s := range append(wrong(), plain(), growing()) {
		text := written(s)
		for _, first := range []string{"SVT1", "RWT1", "RVU1", "RVT2", "1TVR", "\x00\x00\x00\x00", "\xff\xff\xff\xff", "rvt1"} {
			decodes(t, summed(first+text[4:]), Super{}, api.ErrMagic)
		}
	}
	for bit := range 32 {
		b := []byte(written(plain()))
		b[bit/8] ^= 1 << (bit % 8)
		decodes(t, summed(string(b)), Super{}, api.ErrMagic)
		decodes(t, summed(string(b)+"x"), Super{}, api.ErrMagic)
	}
}

// P8.3: each byte of a superblock that may be is each other one.
func TestDecodeOfOtherBytes(t *testing.T) {
	for _, s := range append(good()[:20], plain(), growing(), changed(growing(), func(s *Super) { s.Role = Spare })) {
		text := summed(written(s))
		for i := range 60 {
			for n := 1; n < 256; n++ {
				b := []byte(text)
				b[i] ^= byte(n)
				sector := summed(string(b[:60]))
				want, e := read(sector)
				decodes(t, sector, want, e)
			}
		}
	}
}

// P8.3: each number that may not be, as its bytes have it.
func TestDecodeOfWhatMayNotBe(t *testing.T) {
	for _, s := range wrong() {
		sector := summed(written(s))
		want, e := read(sector)
		decodes(t, sector, want, e)
	}
	for n := 2; n < 256; n++ {
		text := []byte(written(plain()))
		text[25] = byte(n)
		decodes(t, summed(string(text)), Super{}, api.ErrArg)
	}
}

// P8.3: what stands behind the numbers must be bytes 0.
func TestDecodeOfMoreBytes(t *testing.T) {
	text := written(growing())
	for n := range 29 {
		for _, more := range []string{"\x01", "\x80", "\xff"} {
			decodes(t, summed(text+strings.Repeat("\x00", n)+more), Super{}, api.ErrArg)
		}
	}
	decodes(t, summed(text+strings.Repeat("\x00", 29)), growing(), api.OK)
}

// P8.3: of all that may be.
func TestDecodeOfWhatMayBe(t *testing.T) {
	for _, s := range good() {
		decodes(t, summed(written(s)), s, api.OK)
	}
}

// P8.3 (R5): what is decoded or encoded between two calls changes nothing.
func TestDecodeOnceMore(t *testing.T) {
	sector := summed(written(growing()))
	for _, b := range []string{"", summed(""), summed("RVT1"), summed(written(plain())), strings.Repeat("\x00", 64)} {
		Decode(b)
		Encode(plain())
		decodes(t, sector, growing(), api.OK)
	}
}

// P8.3: by hand.
func TestWholeByHand(t *testing.T) {
	for i, c := range []struct {
		s  Super
		is bool
	}{
		{plain(), true},
		{growing(), true},
		{Super{}, false},
		{changed(plain(), func(s *Super) { s.Role = 0 }), true},
		{changed(plain(), func(s *Super) { s.Role = 4 }), true},
		{changed(growing(), func(s *Super) { s.Role = 4 }), true},
		{changed(growing(), func(s *Super) { s.Role = 5 }), false},
		{changed(growing(), func(s *Super) { s.Role = 6 }), false},
		{changed(growing(), func(s *Super) { s.Grown = 100 }), true},
		{changed(plain(), func(s *Super) { s.Role = Spare }), false},
		{changed(plain(), func(s *Super) { s.Role = Journal }), false},
		{changed(plain(), func(s *Super) { s.Role = -1 }), false},
		{changed(plain(), func(s *Super) { s.Built = 99 }), false},
		{changed(plain(), func(s *Super) { s.Built = 0 }), false},
		{changed(plain(), func(s *Super) { s.Built = 101 }), false},
		{changed(plain(), func(s *Super) { s.Clean = false }), true},
		{changed(plain(), func(s *Super) { s.Events = math.MaxUint64 }), true},
		{changed(plain(), func(s *Super) { s.UUID = 0 }), false},
		{changed(plain(), func(s *Super) { s.Grown = 1 }), false},
		{changed(plain(), func(s *Super) { s.New = 5 }), false},
		{changed(plain(), func(s *Super) { s.Geo.Cols = 11 }), false},
		{changed(plain(), func(s *Super) { s.Geo.Chunk = 5 }), false},
		{changed(plain(), func(s *Super) { s.Geo.Rows, s.Built = 257, 257 }), false},
		{changed(plain(), func(s *Super) { s.Geo.Rows, s.Built = 0, 0 }), false},
	} {
		if Whole(c.s) != c.is {
			t.Errorf("%d: Whole(%v) = %v", i, c.s, !c.is)
		}
	}
}

// P8.3: of all that may be, and of all that may not.
func TestWholeOfAll(t *testing.T) {
	for _, s := range append(good(), wrong()...) {
		if want := mayBe(s) && s.Role < s.Geo.Cols && s.Built == s.Geo.Rows; Whole(s) != want {
			t.Fatalf("Whole(%v) = %v", s, !want)
		}
	}
	for _, a := range ints() {
		for _, b := range ints() {
			for _, c := range ints() {
				s := Super{UUID: 1, Role: a, Geo: api.Geometry{Cols: b, Chunk: 1, Rows: c}, Built: c}
				if want := mayBe(s) && a < b; Whole(s) != want {
					t.Fatalf("Whole(%v) = %v", s, !want)
				}
			}
		}
	}
}

// P8.4: what may be comes back.
func TestComesBack(t *testing.T) {
	for _, s := range good() {
		b, e := Encode(s)
		if back, f := Decode(b); len(b) != 64 || back != s || e != api.OK || f != api.OK {
			t.Fatalf("%v: %d, then %v %d", s, e, back, f)
		}
	}
}

// P8.4: no two that are not the same have one sector.
func TestNoTwoHaveOneSector(t *testing.T) {
	seen := map[string]Super{}
	for _, s := range good() {
		b, e := Encode(s)
		if other, is := seen[b]; is && other != s || b == "" || e != api.OK {
			t.Fatalf("%v and %v: %q %d", s, other, b, e)
		}
		seen[b] = s
	}
}

// P8.4: each number by itself makes another sector, and comes back, whatever it is.
func TestEachNumberMakesAnother(t *testing.T) {
	base := changed(growing(), func(s *Super) { s.Geo.Rows = 256 })
	add := map[string][]Super{}
	for bit := range 64 {
		add["UUID"] = append(add["UUID"], changed(base, func(s *Super) { s.UUID = 1 << bit }))
		add["Events"] = append(add["Events"], changed(base, func(s *Super) { s.Events = 1 << bit }))
	}
	for n := range 257 {
		add["Role"] = append(add["Role"], changed(base, func(s *Super) { s.Role = n }))
		add["Cols"] = append(add["Cols"], changed(base, func(s *Super) { s.Geo.Cols = n }))
		add["Chunk"] = append(add["Chunk"], changed(base, func(s *Super) { s.Geo.Chunk = n }))
		add["Rows"] = append(add["Rows"], changed(base, func(s *Super) { s.Geo.Rows, s.Built, s.Grown = n, 0, 0 }))
		add["Built"] = append(add["Built"], changed(base, func(s *Super) { s.Built = n }))
		add["New"] = append(add["New"], changed(base, func(s *Super) { s.New, s.Grown = n, 0 }))
		add["Grown"] = append(add["Grown"], changed(base, func(s *Super) { s.Grown = n }))
	}
	add["Clean"] = []Super{changed(base, func(s *Super) { s.Clean = false }), changed(base, func(s *Super) { s.Clean = true })}
	count := map[string]int{"UUID": 64, "Events": 64, "Role": 9, "Cols": 3, "Chunk": 4, "Rows": 256, "Built": 257, "New": 6, "Grown": 257, "Clean": 2}
	for name, l := range add {
		sectors := map[string]bool{}
		for _, s := range l {
			b, e := Encode(s)
			if back, f := Decode(b); e == api.OK && (sectors[b] || back != s || f != api.OK) {
				t.Errorf("%s: %v and then %v %d", name, s, back, f)
			}
			if e == api.OK {
				sectors[b] = true
			}
		}
		if len(sectors) != count[name] {
			t.Errorf("%s: %d sectors, not %d", name, len(sectors), count[name])
		}
	}
}

// P8.4: a sector that is decoded is the one that is encoded.
func TestGoesBack(t *testing.T) {
	for _, s := range good() {
		sector := summed(written(s))
		found, e := Decode(sector)
		if b, f := Encode(found); b != sector || e != api.OK || f != api.OK {
			t.Fatalf("%q: %v %d, then %q %d", sector, found, e, b, f)
		}
	}
}
