package crc

import (
	"math"
	"math/bits"
	"strings"
	"testing"
)

// bitByBit is More, just as P2.1 says it.
func bitByBit(n uint32, s string) uint32 {
	x := ^n
	for _, b := range []byte(s) {
		x ^= uint32(b)
		for range 8 {
			low := x&1 == 1
			x >>= 1
			if low {
				x ^= 0x82f63b78
			}
		}
	}
	return ^x
}

// text has so many bytes, of all kinds, told by no more than their number and a seed.
func text(size, seed int) string {
	out := make([]byte, size)
	for i := range out {
		out[i] = byte((i*i*7 + i*131 + seed*89) >> 1)
	}
	return string(out)
}

// flipped is s with other bits: bit i of the pattern is bit at+i of s, the lowest one of a byte first. Bits behind the end are none.
func flipped(s string, at int, pattern uint32) string {
	out := []byte(s)
	for i := range 32 {
		if bit := at + i; pattern>>i&1 == 1 && bit < 8*len(out) {
			out[bit/8] ^= 1 << (bit % 8)
		}
	}
	return string(out)
}

var starts = []uint32{0, 1, 7, 0x80000000, 0x82f63b78, 0xe3069283, 0xfffffffe, math.MaxUint32}

// P2.1: sums that are known of CRC-32C.
func TestSumsThatAreKnown(t *testing.T) {
	for s, want := range map[string]uint32{
		"":                         0,
		"123456789":                0xe3069283,
		"a":                        0xc1d04330,
		strings.Repeat("\x00", 32): 0x8a9136aa,
		strings.Repeat("\xff", 32): 0x62a8ab43,
		"\x00":                     0x527d5351,
	} {
		if got := Sum(s); got != want {
			t.Errorf("Sum(%q) = %#x, not %#x", s, got, want)
		}
	}
}

// P2.1: of no bytes a sum stays as it is, turned twice.
func TestMoreOfNothing(t *testing.T) {
	for _, n := range starts {
		if got := More(n, ""); got != n {
			t.Errorf("More(%#x) of nothing = %#x", n, got)
		}
	}
}

// P2.1: each byte, from several starts.
func TestMoreOfEachByte(t *testing.T) {
	for _, n := range starts {
		for b := range 256 {
			s := string([]byte{byte(b)})
			if got, want := More(n, s), bitByBit(n, s); got != want {
				t.Errorf("More(%#x, %x) = %#x, not %#x", n, s, got, want)
			}
		}
	}
}

// P2.1: texts of all lengths, from several starts; bytes are bytes, also where they make no runes.
func TestMoreGoesByteByByte(t *testing.T) {
	for size := range 300 {
		for _, n := range starts {
			s := text(size, size)
			if got, want := More(n, s), bitByBit(n, s); got != want {
				t.Fatalf("More(%#x) of %d bytes = %#x, not %#x", n, size, got, want)
			}
		}
	}
	for _, s := range []string{"\xff\xfe\x80", "\xc3\xa4\xe2\x82\xac", "a\x00b", strings.Repeat("\xf0\x9f\xa6\xab", 1000)} {
		if got, want := Sum(s), bitByBit(0, s); got != want {
			t.Errorf("Sum(%x) = %#x, not %#x", s, got, want)
		}
	}
}

// P2.1
func TestSumIsMoreOfNought(t *testing.T) {
	for size := range 100 {
		s := text(size, 3)
		if got, want := Sum(s), More(0, s); got != want {
			t.Errorf("Sum of %d bytes = %#x, not %#x", size, got, want)
		}
	}
}

// P2.2: by hand, without a padding and with one.
func TestSealByHand(t *testing.T) {
	for _, c := range []struct {
		s    string
		size int
		want string
	}{
		{"123456789", 13, "123456789\x83\x92\x06\xe3"},
		{"", 4, "\x00\x00\x00\x00"},
		{"a", 5, "a\x30\x43\xd0\xc1"},
		{"", 5, "\x00\x51\x53\x7d\x52"},
		{"", 36, strings.Repeat("\x00", 32) + "\xaa\x36\x91\x8a"},
		{"\x00\x00", 36, strings.Repeat("\x00", 32) + "\xaa\x36\x91\x8a"},
	} {
		if got, is := Seal(c.s, c.size); got != c.want || !is {
			t.Errorf("Seal(%q, %d) = %q, %v, not %q", c.s, c.size, got, is, c.want)
		}
	}
}

// P2.2: what is sealed has its size, its bytes, bytes 0, and the Sum of these all.
func TestSealFillsUp(t *testing.T) {
	for size := 4; size <= 80; size++ {
		for length := 0; length <= size-4; length++ {
			s := text(length, size)
			body := s + strings.Repeat("\x00", size-4-length)
			n := bitByBit(0, body)
			want := body + string([]byte{byte(n), byte(n >> 8), byte(n >> 16), byte(n >> 24)})
			if got, is := Seal(s, size); got != want || !is {
				t.Fatalf("Seal of %d bytes, %d: %x, %v, not %x", length, size, got, is, want)
			}
		}
	}
}

// P2.2: the sizes at the edges, and texts of just size less 4 and of one more.
func TestSealAtItsEdges(t *testing.T) {
	for _, c := range []struct {
		length, size int
		want         bool
	}{
		{0, 3, false}, {0, 4, true}, {1, 4, false}, {1, 5, true}, {2, 5, false},
		{60, 64, true}, {61, 64, false}, {64, 64, false},
		{0, 4095, true}, {4091, 4095, true}, {4092, 4095, false},
		{0, 4096, true}, {4091, 4096, true}, {4092, 4096, true}, {4093, 4096, false}, {4096, 4096, false},
		{0, 4097, false}, {4093, 4097, false}, {4094, 4097, false},
		{0, 0, false}, {1, 0, false}, {0, 1, false}, {0, -1, false}, {5, -1, false}, {0, -4, false}, {0, -4096, false},
		{0, math.MaxInt, false}, {9, math.MaxInt, false}, {0, math.MinInt, false}, {9, math.MinInt, false}, {9, math.MinInt + 3, false},
	} {
		got, is := Seal(text(c.length, 1), c.size)
		if is != c.want || is && len(got) != c.size || !is && got != "" {
			t.Errorf("Seal of %d bytes, %d: %d bytes, %v", c.length, c.size, len(got), is)
		}
	}
}

// P2.2: what was sealed is opened, with its padding.
func TestOpenOfWhatWasSealed(t *testing.T) {
	for _, size := range []int{4, 5, 6, 7, 8, 13, 64, 100, 4095, 4096} {
		for _, length := range []int{0, 1, 3, size - 5, size - 4} {
			if length < 0 || length > size-4 {
				continue
			}
			s := text(length, 5)
			sealed, _ := Seal(s, size)
			if got, is := Open(sealed); got != s+strings.Repeat("\x00", size-4-length) || !is {
				t.Errorf("of %d bytes, %d: %x, %v", length, size, got, is)
			}
		}
	}
}

// P2.2: fewer than 4 bytes have no sum.
func TestOpenOfTooFew(t *testing.T) {
	for _, s := range []string{"", "a", "\x00", "\x00\x00", "ab", "\x00\x00\x00", "abc"} {
		if got, is := Open(s); got != "" || is {
			t.Errorf("Open(%q) = %q, %v", s, got, is)
		}
	}
	if got, is := Open("\x00\x00\x00\x00"); got != "" || !is {
		t.Errorf("Open of four bytes 0: %q, %v", got, is)
	}
	if got, is := Open("\x01\x00\x00\x00"); got != "" || is {
		t.Errorf("Open of the sum of something else: %q, %v", got, is)
	}
}

// P2.2: Open has no greatest size, other than Seal.
func TestOpenOfMoreThanIsSealed(t *testing.T) {
	s := text(5000, 2)
	n := bitByBit(0, s)
	if got, is := Open(s + string([]byte{byte(n), byte(n >> 8), byte(n >> 16), byte(n >> 24)})); got != s || !is {
		t.Errorf("%d bytes, %v", len(got), is)
	}
}

// P2.2: neither bytes that are others, nor a sum that is another, nor one the other way round.
func TestOpenOfWhatIsWrong(t *testing.T) {
	sealed, _ := Seal("revetment", 20)
	for i := range sealed {
		for by := 1; by < 256; by++ {
			wrong := []byte(sealed)
			wrong[i] ^= byte(by)
			if got, is := Open(string(wrong)); got != "" || is {
				t.Fatalf("byte %d changed by %#x: %q, %v", i, by, got, is)
			}
		}
	}
	for _, s := range []string{"123456789\xe3\x06\x92\x83", "123456789\x83\x92\x06", "23456789\x83\x92\x06\xe3", "123456789\x83\x92\x06\xe3\x00", "123456789"} {
		if got, is := Open(s); got != "" || is {
			t.Errorf("Open(%q) = %q, %v", s, got, is)
		}
	}
}

// P2.3: what is summed piece by piece is summed at once.
func TestPiecesAreSummedAtOnce(t *testing.T) {
	s := text(200, 4)
	for _, n := range starts {
		whole := More(n, s)
		for i := range len(s) + 1 {
			if got := More(More(n, s[:i]), s[i:]); got != whole {
				t.Errorf("cut at %d, from %#x: %#x, not %#x", i, n, got, whole)
			}
		}
		x := n
		for i := range len(s) {
			x = More(x, s[i:i+1])
		}
		if x != whole {
			t.Errorf("byte by byte, from %#x: %#x, not %#x", n, x, whole)
		}
	}
}

// P2.3: how a sum changes when bits do hangs on these bits alone, and each bit adds its own; so the next test tells of all patterns.
func TestChangesAddUp(t *testing.T) {
	s, zero := text(40, 6), strings.Repeat("\x00", 40)
	for at := range 8 * len(s) {
		for _, pattern := range []uint32{1, 3, 0x80000001, 0xffffffff, 0x82f63b78, 0x12345678} {
			want := uint32(0)
			for rest := pattern; rest != 0; rest &= rest - 1 {
				want ^= Sum(flipped(zero, at, rest&-rest)) ^ Sum(zero)
			}
			if got := Sum(flipped(s, at, pattern)) ^ Sum(s); got != want {
				t.Fatalf("pattern %#x at %d: %#x, not %#x", pattern, at, got, want)
			}
		}
	}
}

// P2.3: in whichever 32 bits that are near one another some are others, the sum is another one: what each bit changes can't be told by the others there.
func TestBitsNearOneAnotherChangeTheSum(t *testing.T) {
	s := text(64, 7)
	for at := range 8*len(s) - 31 {
		var byHighest [32]uint32
		for i := range 32 {
			change := Sum(flipped(s, at, 1<<i)) ^ Sum(s)
			for change != 0 && byHighest[bits.Len32(change)-1] != 0 {
				change ^= byHighest[bits.Len32(change)-1]
			}
			if change == 0 {
				t.Fatalf("bit %d behind %d: some pattern leaves the sum as it is", i, at)
			}
			byHighest[bits.Len32(change)-1] = change
		}
	}
}

// P2.3: patterns as they are, also at the text's end, and from other starts.
func TestPatternsChangeTheSum(t *testing.T) {
	for _, size := range []int{1, 2, 3, 4, 5, 9, 64} {
		s := text(size, 8)
		for at := range 8 * size {
			for pattern := uint32(1); pattern < 1<<9; pattern += 2 {
				spread := pattern | pattern<<17 // as near one another as 29 bits
				for _, n := range []uint32{0, 7} {
					if More(n, flipped(s, at, spread)) == More(n, s) {
						t.Fatalf("%d bytes: pattern %#x at %d leaves the sum as it is", size, spread, at)
					}
				}
			}
		}
	}
}
