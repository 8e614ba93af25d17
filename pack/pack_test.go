package pack

import (
	"math"
	"slices"
	"strings"
	"testing"

	"revetment/api"
)

// same is so many widths, each of them the same.
func same(count, width int) []int {
	return slices.Repeat([]int{width}, count)
}

// greatest is the greatest number below 256 to the width, told by multiplying.
func greatest(width int) uint64 {
	n := uint64(0)
	for range width {
		n = n*256 + 255
	}
	return n
}

// byteByByte encodes as P3.2 says it, by dividing; it asks for nothing.
func byteByByte(l []uint64, widths []int) string {
	out := ""
	for i, n := range l {
		for range widths[i] {
			out += string([]byte{byte(n % 256)})
			n /= 256
		}
	}
	return out
}

// lists tells lists of widths of all kinds: none, each width by itself, each two of them, as many as may be, and widths that change.
func lists() [][]int {
	out := [][]int{nil, {}, same(64, 1), same(64, 8), same(64, 5)}
	mixed := []int{}
	for i := range 64 {
		mixed = append(mixed, i*5%8+1)
		out = append(out, slices.Clone(mixed))
	}
	for a := 1; a <= 8; a++ {
		out = append(out, []int{a})
		for b := 1; b <= 8; b++ {
			out = append(out, []int{a, b})
		}
	}
	return out
}

// numbers has a number for each width: some that fit it, told by no more than the widths and a seed.
func numbers(widths []int, seed uint64) []uint64 {
	out := make([]uint64, len(widths))
	for i, width := range widths {
		n := (uint64(i) + 1) * (seed*0x9e3779b97f4a7c15 + 0x0123456789abcdef)
		if width < 8 {
			n %= greatest(width) + 1
		}
		out[i] = n
	}
	return out
}

// limits has for each width the greatest number that it holds.
func limits(widths []int) []uint64 {
	out := make([]uint64, len(widths))
	for i, width := range widths {
		out[i] = greatest(width)
	}
	return out
}

// wrong has lists of widths that may not be.
func wrong() map[string][]int {
	return map[string][]int{
		"0": {0}, "9": {9}, "-1": {-1}, "the least": {math.MinInt}, "the greatest": {math.MaxInt}, "257, a byte of which is 1": {257},
		"0 at the end": {1, 2, 0}, "9 at the end": {1, 2, 9}, "0 ahead": {0, 1}, "-1 and 2, of which the sum is 1": {-1, 2}, "-1 amid": {3, -1, 3}, "two that wrap round": {math.MaxInt, math.MaxInt, 4},
		"65": same(65, 1), "65 of 8": same(65, 8), "65 of 0": same(65, 0), "300": same(300, 4), "64, the last one 9": append(same(63, 1), 9), "64, the last one 0": append(same(63, 1), 0),
	}
}

// P3.1
func TestSizeIsTheSum(t *testing.T) {
	for _, widths := range lists() {
		want := 0
		for _, width := range widths {
			want += width
		}
		if got, e := Size(widths); got != want || e != api.OK {
			t.Errorf("Size(%v) = %d, %d, not %d", widths, got, e, want)
		}
	}
}

// P3.1: by hand, and as many as may be.
func TestSizeByHand(t *testing.T) {
	for _, c := range []struct {
		widths []int
		want   int
	}{
		{nil, 0}, {[]int{1}, 1}, {[]int{8}, 8}, {[]int{1, 2}, 3}, {[]int{1, 8, 3}, 12}, {[]int{4, 8, 8, 1, 1, 1, 2, 1, 2, 1, 2}, 31}, {same(64, 1), 64}, {same(64, 8), 512},
	} {
		if got, e := Size(c.widths); got != c.want || e != api.OK {
			t.Errorf("Size(%v) = %d, %d, not %d", c.widths, got, e, c.want)
		}
	}
}

// P3.1 to P3.3: widths that may not be, whatever comes with them.
func TestWidthsThatMayNotBe(t *testing.T) {
	for name, widths := range wrong() {
		if got, e := Size(widths); got != 0 || e != api.ErrArg {
			t.Errorf("%s: Size %d, %d", name, got, e)
		}
		for _, l := range [][]uint64{nil, make([]uint64, 1), make([]uint64, len(widths)), slices.Repeat([]uint64{math.MaxUint64}, len(widths))} {
			if got, e := Encode(l, widths); got != "" || e != api.ErrArg {
				t.Errorf("%s: Encode of %d numbers %q, %d", name, len(l), got, e)
			}
		}
		for _, length := range []int{0, 1, 3, 64, 65, 512, 520} {
			if got, e := Decode(strings.Repeat("a", length), widths); len(got) != 0 || e != api.ErrArg {
				t.Errorf("%s: Decode of %d bytes %v, %d", name, length, got, e)
			}
		}
	}
}

// P3.1: the greatest number that a width holds, and the next one.
func TestFitsAtItsEdges(t *testing.T) {
	for width := 1; width <= 8; width++ {
		top := greatest(width)
		for _, n := range []uint64{0, 1, 255, top / 2, top - 1, top} {
			if !Fits(n, width) {
				t.Errorf("Fits(%#x, %d) is false", n, width)
			}
		}
		if width == 8 {
			continue
		}
		for _, n := range []uint64{top + 1, top + 2, (top + 1) * 2, 1 << 63, math.MaxUint64} {
			if Fits(n, width) {
				t.Errorf("Fits(%#x, %d) is true", n, width)
			}
		}
	}
}

// P3.1: each bit of a number needs its width.
func TestFitsOfEachBit(t *testing.T) {
	for bit := range 64 {
		for width := -2; width <= 12; width++ {
			want := width >= bit/8+1 && width <= 8
			if got := Fits(1<<bit, width); got != want {
				t.Errorf("Fits(bit %d, %d) = %v", bit, width, got)
			}
		}
	}
}

// P3.1: no number fits what is no width, not even 0.
func TestFitsOfNoWidth(t *testing.T) {
	for _, width := range []int{0, -1, -8, 9, 10, 16, 64, 257, math.MaxInt, math.MinInt, math.MinInt + 1} {
		for _, n := range []uint64{0, 1, 255, math.MaxUint64} {
			if Fits(n, width) {
				t.Errorf("Fits(%#x, %d) is true", n, width)
			}
		}
	}
}

// P3.2
func TestEncodeByHand(t *testing.T) {
	for _, c := range []struct {
		l      []uint64
		widths []int
		want   string
	}{
		{[]uint64{1, 515}, []int{1, 2}, "\x01\x03\x02"},
		{nil, nil, ""},
		{[]uint64{}, []int{}, ""},
		{[]uint64{0}, []int{1}, "\x00"},
		{[]uint64{0}, []int{8}, "\x00\x00\x00\x00\x00\x00\x00\x00"},
		{[]uint64{255}, []int{1}, "\xff"},
		{[]uint64{0x010203}, []int{3}, "\x03\x02\x01"},
		{[]uint64{0x31545652}, []int{4}, "RVT1"},
		{[]uint64{0x0102030405060708}, []int{8}, "\x08\x07\x06\x05\x04\x03\x02\x01"},
		{[]uint64{math.MaxUint64, 1 << 63}, []int{8, 8}, "\xff\xff\xff\xff\xff\xff\xff\xff\x00\x00\x00\x00\x00\x00\x00\x80"},
		{[]uint64{7, 7, 7}, []int{3, 1, 2}, "\x07\x00\x00\x07\x07\x00"},
		{[]uint64{0x80, 0xd800}, []int{1, 2}, "\x80\x00\xd8"},
	} {
		if got, e := Encode(c.l, c.widths); got != c.want || e != api.OK {
			t.Errorf("Encode(%#x, %v) = %q, %d, not %q", c.l, c.widths, got, e, c.want)
		}
	}
}

// P3.2: widths of all kinds, with numbers of all kinds.
func TestEncodeGoesNumberByNumber(t *testing.T) {
	for _, widths := range lists() {
		for _, l := range [][]uint64{make([]uint64, len(widths)), limits(widths), numbers(widths, 1), numbers(widths, 2)} {
			if got, e := Encode(l, widths); got != byteByByte(l, widths) || e != api.OK {
				t.Errorf("Encode(%#x, %v) = %x, %d", l, widths, got, e)
			}
		}
	}
}

// P3.2: one number for each width.
func TestEncodeOfOtherNumbersThanWidths(t *testing.T) {
	for _, widths := range lists() {
		for _, count := range []int{0, len(widths) - 1, len(widths) + 1, 2*len(widths) + 1, 65, 300} {
			if count < 0 || count == len(widths) {
				continue
			}
			if got, e := Encode(make([]uint64, count), widths); got != "" || e != api.ErrArg {
				t.Errorf("%d numbers, %d widths: %q, %d", count, len(widths), got, e)
			}
		}
	}
}

// P3.2: whichever number it is that does not fit, and however little it is too great.
func TestEncodeOfANumberThatDoesNotFit(t *testing.T) {
	for _, widths := range lists() {
		for i, width := range widths {
			if width == 8 {
				continue
			}
			for _, n := range []uint64{greatest(width) + 1, greatest(width) + 2, 1 << 63, math.MaxUint64} {
				l := numbers(widths, 3)
				l[i] = n
				if got, e := Encode(l, widths); got != "" || e != api.ErrWidth {
					t.Errorf("number %d is %#x, of %v: %q, %d", i, n, widths, got, e)
				}
			}
		}
	}
}

// P3.2: what is named first is answered: the widths, then how many numbers there are, then whether they fit.
func TestEncodeAnswersWhatIsNamedFirst(t *testing.T) {
	for _, c := range []struct {
		l      []uint64
		widths []int
		want   api.Errno
	}{
		{[]uint64{1 << 24, 999}, []int{3, 0}, api.ErrArg},
		{[]uint64{256}, []int{1, 1}, api.ErrArg},
		{[]uint64{256, 256, 256}, []int{1, 1}, api.ErrArg},
		{[]uint64{256}, nil, api.ErrArg},
		{slices.Repeat([]uint64{256}, 65), same(65, 1), api.ErrArg},
		{slices.Repeat([]uint64{256}, 64), same(64, 1), api.ErrWidth},
	} {
		if got, e := Encode(c.l, c.widths); got != "" || e != c.want {
			t.Errorf("%d numbers, %v: %q, %d, not %d", len(c.l), c.widths, got, e, c.want)
		}
	}
}

// P3.3
func TestDecodeByHand(t *testing.T) {
	for _, c := range []struct {
		s      string
		widths []int
		want   []uint64
	}{
		{"\x01\x03\x02", []int{1, 2}, []uint64{1, 515}},
		{"", nil, nil},
		{"", []int{}, nil},
		{"\x00", []int{1}, []uint64{0}},
		{"\xff", []int{1}, []uint64{255}},
		{"abc", []int{1, 2}, []uint64{'a', 'c'*256 + 'b'}},
		{"\x03\x02\x01", []int{3}, []uint64{0x010203}},
		{"\x08\x07\x06\x05\x04\x03\x02\x01", []int{8}, []uint64{0x0102030405060708}},
		{"\x08\x07\x06\x05\x04\x03\x02\x01", same(8, 1), []uint64{8, 7, 6, 5, 4, 3, 2, 1}},
		{"\xff\xff\xff\xff\xff\xff\xff\xff\x00\x00\x00\x00\x00\x00\x00\x80", []int{8, 8}, []uint64{math.MaxUint64, 1 << 63}},
		{"\x07\x00\x00\x07\x07\x00", []int{3, 1, 2}, []uint64{7, 7, 7}},
		{"\xc3\xa9", []int{2}, []uint64{0xa9c3}},
	} {
		if got, e := Decode(c.s, c.widths); !slices.Equal(got, c.want) || e != api.OK {
			t.Errorf("Decode(%q, %v) = %#x, %d, not %#x", c.s, c.widths, got, e, c.want)
		}
	}
}

// P3.3: neither fewer bytes than the widths ask for, nor more, even if they are 0.
func TestDecodeOfOtherLengths(t *testing.T) {
	for _, widths := range lists() {
		size, _ := Size(widths)
		for _, length := range []int{0, size - 1, size + 1, size + 2, 2*size + 1, 4096} {
			if length < 0 || length == size {
				continue
			}
			for _, s := range []string{strings.Repeat("a", length), strings.Repeat("\x00", length)} {
				if got, e := Decode(s, widths); len(got) != 0 || e != api.ErrShort {
					t.Errorf("%d bytes, %v: %v, %d", length, widths, got, e)
				}
			}
		}
	}
}

// P3.4: what was encoded is decoded.
func TestWhatWasEncodedIsDecoded(t *testing.T) {
	for _, widths := range lists() {
		for _, l := range [][]uint64{make([]uint64, len(widths)), limits(widths), numbers(widths, 4), numbers(widths, 5)} {
			s, e := Encode(l, widths)
			if e != api.OK {
				t.Errorf("Encode(%#x, %v): %d", l, widths, e)
			}
			if got, e := Decode(s, widths); !slices.Equal(got, l) || e != api.OK {
				t.Errorf("of %v: %#x, %d, not %#x", widths, got, e, l)
			}
		}
	}
}

// P3.4: what was decoded is encoded to the same bytes, whichever they are.
func TestWhatWasDecodedIsEncoded(t *testing.T) {
	for _, widths := range lists() {
		size, _ := Size(widths)
		for seed := range 8 {
			s := make([]byte, size)
			for i := range s {
				s[i] = byte(i*i*7 + i*131 + seed*89)
			}
			l, e := Decode(string(s), widths)
			if e != api.OK {
				t.Errorf("Decode of %d bytes, %v: %d", size, widths, e)
			}
			if got, e := Encode(l, widths); got != string(s) || e != api.OK {
				t.Errorf("of %v: %x, %d, not %x", widths, got, e, s)
			}
		}
	}
}

// P3.4: each byte, at each place of each width.
func TestEachByteComesBack(t *testing.T) {
	for width := 1; width <= 8; width++ {
		for at := range width {
			for b := range 256 {
				n := uint64(b) << (8 * at)
				want := strings.Repeat("\x00", at) + string([]byte{byte(b)}) + strings.Repeat("\x00", width-at-1)
				if got, e := Encode([]uint64{n}, []int{width}); got != want || e != api.OK {
					t.Errorf("Encode(%#x, %d) = %x, %d", n, width, got, e)
				}
				if got, e := Decode(want, []int{width}); !slices.Equal(got, []uint64{n}) || e != api.OK {
					t.Errorf("Decode(%x, %d) = %#x, %d", want, width, got, e)
				}
			}
		}
	}
}

// What is handed in is not changed, nor what lies behind it; and no two answers share their memory.
func TestArgumentsStayAsTheyAre(t *testing.T) {
	l, widths := []uint64{1, 515, 99, 99}, []int{1, 2, 77, 77}
	s, e := Encode(l[:2], widths[:2])
	first, f := Decode(s, widths[:2])
	second, g := Decode(s, widths[:2])
	if e != api.OK || f != api.OK || g != api.OK {
		t.Fatal(e, f, g)
	}
	first[0] = 88
	_ = append(first, 88)
	if !slices.Equal(second, []uint64{1, 515}) || !slices.Equal(l, []uint64{1, 515, 99, 99}) || !slices.Equal(widths, []int{1, 2, 77, 77}) || s != "\x01\x03\x02" {
		t.Error(second, l, widths, s)
	}
}

// An iterator goes no further than it is asked to.
func TestPlacesEndWhereTheyAreLeft(t *testing.T) {
	type place struct{ number, below int }
	all := []place{{0, 0}, {0, 8}, {1, 0}, {2, 0}, {2, 8}, {2, 16}}
	for count := range len(all) + 1 {
		var got []place
		for i, below := range places([]int{2, 1, 3}) {
			if len(got) == count {
				break
			}
			got = append(got, place{i, below})
		}
		if !slices.Equal(got, all[:count]) {
			t.Errorf("left behind %d: %v", count, got)
		}
	}
}
