package syndrome

import (
	"math"
	"slices"
	"strings"
	"testing"
	"unsafe"
)

// doubled is b times x, n times; of n below 0 it is divided by x so. It asks gf for nothing.
func doubled(b byte, n int) byte {
	p := int(b)
	for ; n > 0; n-- {
		p <<= 1
		if p > 0xff {
			p ^= 0x11d
		}
	}
	for ; n < 0; n++ {
		if p&1 == 1 {
			p ^= 0x11d
		}
		p >>= 1
	}
	return byte(p)
}

// scaled is each byte of s, doubled n times.
func scaled(s string, n int) string {
	out := make([]byte, len(s))
	for i := range out {
		out[i] = doubled(s[i], n)
	}
	return string(out)
}

// byByte adds columns as P5.1 says it, byte by byte; the i-th one is doubled i*step times.
func byByte(cols []string, step int) string {
	out := []byte{}
	for i, col := range cols {
		for k := range len(col) {
			if k == len(out) {
				out = append(out, 0)
			}
			out[k] ^= doubled(col[k], i*step)
		}
	}
	return string(out)
}

// text has so many bytes, of all kinds, told by no more than their number and a seed.
func text(size, seed int) string {
	out := make([]byte, size)
	for i := range out {
		out[i] = byte((i*i*7 + i*131 + seed*89 + seed*seed*5) >> 1)
	}
	return string(out)
}

// alike is so many columns, of one length.
func alike(count, size int) []string {
	out := make([]string, count)
	for i := range out {
		out[i] = text(size, i+1)
	}
	return out
}

// uneven is so many columns, of all lengths up to a greatest one, 0 among them.
func uneven(count, most int) []string {
	out := make([]string, count)
	for i := range out {
		out[i] = text(i*37%(most+1), i+1)
	}
	return out
}

// lists tells lists of columns of all kinds: also more than there are powers of 2.
func lists() [][]string {
	out := [][]string{nil, {}, {""}, {"", ""}, {"", "a", ""}, {"a"}, {"a", "a"}, {"\x00"}, {"\x00", "\x00\x00"}, alike(1, 4096), alike(8, 64), alike(8, 4096)}
	for count := range 13 {
		out = append(out, alike(count, 64), alike(count, 1), uneven(count, 20), uneven(count, 1))
	}
	for _, count := range []int{254, 255, 256, 257, 300, 600} {
		out = append(out, alike(count, 3), uneven(count, 9))
	}
	return out
}

// row is data columns with the P and Q that the reference tells of them.
func row(data []string) []string {
	return append(slices.Clone(data), byByte(data, 0), byByte(data, 1))
}

// with is cols with another byte: the k-th one of the i-th column is exclusive or by.
func with(cols []string, i, k int, by byte) []string {
	out := slices.Clone(cols)
	col := []byte(out[i])
	col[k] ^= by
	out[i] = string(col)
	return out
}

// zeros is so many bytes 0.
func zeros(size int) string {
	return strings.Repeat("\x00", size)
}

// P5.1: by hand, so that they stand without the reference above.
func TestPAndQByHand(t *testing.T) {
	for _, c := range []struct {
		data []string
		p, q string
	}{
		{[]string{"\x01", "\x01"}, "\x00", "\x03"},
		{[]string{"\x01", "\x00"}, "\x01", "\x01"},
		{[]string{"\x00", "\x01"}, "\x01", "\x02"},
		{[]string{"\x00", "\x00", "\x01"}, "\x01", "\x04"},
		{[]string{"\x00", "\x80"}, "\x80", "\x1d"},
		{[]string{"\x00", "\x00", "\x80"}, "\x80", "\x3a"},
		{[]string{"\x80", "\x80"}, "\x00", "\x9d"},
		{[]string{"\x01\x02", "\x01", "\x80\x01\x05"}, "\x80\x03\x05", "\x39\x06\x14"},
		{[]string{"", "\x01\x01"}, "\x01\x01", "\x02\x02"},
		{[]string{"\x01\x01", ""}, "\x01\x01", "\x01\x01"},
		{[]string{"\x05\x00\x00"}, "\x05\x00\x00", "\x05\x00\x00"},
		{[]string{"\xff", "\xff", "\xff"}, "\xff", "\xc7"},
	} {
		if p, q := P(c.data), Q(c.data); p != c.p || q != c.q {
			t.Errorf("of %q: P %q, not %q; Q %q, not %q", c.data, p, c.p, q, c.q)
		}
	}
}

// P5.1: of no columns, and of columns without bytes, there is nothing to tell.
func TestPAndQOfNothing(t *testing.T) {
	for _, data := range [][]string{nil, {}, {""}, {"", "", ""}} {
		if p, q := P(data), Q(data); p != "" || q != "" {
			t.Errorf("of %q: P %q, Q %q", data, p, q)
		}
	}
}

// P5.1
func TestPAndQGoByteByByte(t *testing.T) {
	for n, data := range lists() {
		if got, want := P(data), byByte(data, 0); got != want {
			t.Errorf("list %d: P %x, not %x", n, got, want)
		}
		if got, want := Q(data), byByte(data, 1); got != want {
			t.Errorf("list %d: Q %x, not %x", n, got, want)
		}
	}
}

// P5.1: the i-th column has the factor Exp(i), which comes round behind 255 columns.
func TestQOfEachColumnAlone(t *testing.T) {
	for i := range 520 {
		data := append(make([]string, i), "\x01\x80\xff\x00")
		if got, want := Q(data), scaled("\x01\x80\xff\x00", i); got != want {
			t.Errorf("column %d: Q %x, not %x", i, got, want)
		}
		if got := P(data); got != "\x01\x80\xff\x00" {
			t.Errorf("column %d: P %x", i, got)
		}
	}
	if q := Q(append(make([]string, 255), "\x07")); q != "\x07" {
		t.Errorf("column 255: Q %x", q)
	}
}

// P5.2: by hand; also a column that is none of a row has its power.
func TestDeltaByHand(t *testing.T) {
	for _, c := range []struct {
		old, new string
		i        int
		p, q     string
	}{
		{"\x01", "\x03\x01", 1, "\x02\x01", "\x04\x02"},
		{"\x03\x01", "\x01", 1, "\x02\x01", "\x04\x02"},
		{"\x01", "\x00", 0, "\x01", "\x01"},
		{"\x00", "\x80", 1, "\x80", "\x1d"},
		{"\x00", "\x01", 8, "\x01", "\x1d"},
		{"\x00", "\x01", 255, "\x01", "\x01"},
		{"\x00", "\x01", -1, "\x01", "\x8e"},
		{"\x00", "\x01", -255, "\x01", "\x01"},
		{"", "", 3, "", ""},
		{"", "\x01\x02", 2, "\x01\x02", "\x04\x08"},
		{"\x01\x02", "", 2, "\x01\x02", "\x04\x08"},
		{"abc", "abc", 5, "\x00\x00\x00", "\x00\x00\x00"},
		{"abc", "ab", 0, "\x00\x00c", "\x00\x00c"},
	} {
		if p, q := Delta(c.old, c.new, c.i); p != c.p || q != c.q {
			t.Errorf("Delta(%q, %q, %d) = %q, %q, not %q, %q", c.old, c.new, c.i, p, q, c.p, c.q)
		}
	}
}

// P5.2: of whatever place, and whatever lengths.
func TestDeltaGoesByteByByte(t *testing.T) {
	for i := -300; i <= 300; i++ {
		for _, sizes := range [][2]int{{0, 0}, {64, 64}, {5, 9}, {9, 5}, {0, 7}, {7, 0}} {
			old, fresh := text(sizes[0], i+400), text(sizes[1], i+900)
			want := byByte([]string{old, fresh}, 0)
			if p, q := Delta(old, fresh, i); p != want || q != scaled(want, i) {
				t.Errorf("place %d, lengths %v: %x, %x", i, sizes, p, q)
			}
		}
	}
}

// P5.2: the greatest and the least place. Both are 127 modulo 255, since 2^63 is 128 there.
func TestDeltaOfTheFarthestPlaces(t *testing.T) {
	if math.MaxInt != 1<<63-1 {
		t.Skip("the places below are those of 64 bits")
	}
	for _, i := range []int{math.MaxInt, math.MinInt} {
		if p, q := Delta("\x00\xff", "\x01\xff\x80", i); p != "\x01\x00\x80" || q != scaled("\x01\x00\x80", 127) {
			t.Errorf("place %d: %x, %x", i, p, q)
		}
	}
}

// P5.3: by hand. Each sum is as long as the longest column that is in it.
func TestSumByHand(t *testing.T) {
	for _, c := range []struct {
		cols []string
		p, q string
	}{
		{[]string{"\x01", "\x01", "\x00", "\x03"}, "\x00", "\x00"},
		{[]string{"\x01", "\x01", "\x07", "\x03"}, "\x07", "\x00"},
		{[]string{"\x01", "\x01", "\x00", "\x0b"}, "\x00", "\x08"},
		{[]string{"\x01", "\x00", "\x00", "\x03"}, "\x01", "\x02"},
		{[]string{"\x00", "\x01", "\x00", "\x03"}, "\x01", "\x01"},
		{[]string{"", ""}, "", ""},
		{[]string{"a", ""}, "a", ""},
		{[]string{"", "a"}, "", "a"},
		{[]string{"a", "b"}, "a", "b"},
		{[]string{"a", "a", "a"}, "\x00", "\x00"},
		{[]string{"ab", "a", "abc"}, "\x00b", "\x00\x00c"},
		{[]string{"a", "abc", "ab"}, "\x00bc", "\x00b"},
		{[]string{"\x00\x00", "", ""}, "\x00\x00", "\x00\x00"},
	} {
		if p, q := Sum(c.cols); p != c.p || q != c.q {
			t.Errorf("Sum(%q) = %q, %q, not %q, %q", c.cols, p, q, c.p, c.q)
		}
	}
}

// P5.3
func TestSumIsWhatPAndQAreOff(t *testing.T) {
	for n, data := range lists() {
		for _, sizes := range [][2]int{{0, 0}, {3, 3}, {64, 64}, {70, 2}, {2, 70}} {
			p, q := text(sizes[0], n+1), text(sizes[1], n+2)
			cols := append(slices.Clone(data), p, q)
			wantP, wantQ := byByte([]string{byByte(data, 0), p}, 0), byByte([]string{byByte(data, 1), q}, 0)
			if gotP, gotQ := Sum(cols); gotP != wantP || gotQ != wantQ {
				t.Errorf("list %d, lengths %v: %x, %x, not %x, %x", n, sizes, gotP, gotQ, wantP, wantQ)
			}
		}
	}
}

// P5.3: fewer than two columns are no row, whatever stands in them.
func TestFewerThanTwoColumns(t *testing.T) {
	for _, cols := range [][]string{nil, {}, {""}, {"\x00"}, {"a"}, {text(64, 1)}} {
		if p, q := Sum(cols); p != "" || q != "" {
			t.Errorf("Sum(%q) = %q, %q", cols, p, q)
		}
		if Good(cols) {
			t.Errorf("%q is good", cols)
		}
	}
}

// P5.3: by hand.
func TestGoodByHand(t *testing.T) {
	for _, c := range []struct {
		cols []string
		want bool
	}{
		{[]string{"", ""}, true},
		{[]string{"\x00", ""}, true},
		{[]string{"", "\x00\x00"}, true},
		{[]string{zeros(64), zeros(64)}, true},
		{[]string{"", "", "", ""}, true},
		{[]string{"", "", zeros(5)}, true},
		{[]string{"\x01", "\x01", "\x00", "\x03"}, true},
		{[]string{"\x01", "\x01", "", "\x03"}, true},
		{[]string{"\x01", "\x01", "\x00\x00", "\x03\x00\x00"}, true},
		{[]string{"\x01", "\x01\x00", "", "\x03"}, true},
		{[]string{"a", "a", "a"}, true},
		{[]string{"\x01", ""}, false},
		{[]string{"", "\x01"}, false},
		{[]string{"a", "a"}, false},
		{[]string{"\x01", "\x01", "\x00", "\x02"}, false},
		{[]string{"\x01", "\x01", "\x01", "\x03"}, false},
		{[]string{"\x01", "\x01", "\x00", ""}, false},
		{[]string{"\x01", "\x01", "\x03", "\x00"}, false},
		{[]string{"a", "a", ""}, false},
		{[]string{"a", "", "a"}, false},
		{[]string{"a", "a", "a\x00\x01"}, false},
		{[]string{"a", "a\x00\x01", "a"}, false},
		{[]string{"\x00\x01", "", ""}, false},
		{[]string{"\x80", "\x80", "\x00", "\x9d"}, true},
		{[]string{"0", "0", "0", "0"}, false},
	} {
		if got := Good(c.cols); got != c.want {
			t.Errorf("Good(%q) = %v", c.cols, got)
		}
	}
}

// P5.3: a row is good with the P and Q of its data columns, and only if both are right.
func TestGoodIsBothOfThem(t *testing.T) {
	for n, data := range lists() {
		cols := row(data)
		p, q := len(cols)-2, len(cols)-1
		if !Good(cols) || !Good(append(slices.Clone(data), P(data), Q(data))) {
			t.Errorf("list %d is not good", n)
		}
		if sumP, sumQ := Sum(cols); sumP != zeros(len(cols[p])) || sumQ != zeros(len(cols[q])) {
			t.Errorf("list %d: Sum %x, %x", n, sumP, sumQ)
		}
		for _, i := range []int{p, q} {
			if size := len(cols[i]); size > 0 && (Good(with(cols, i, 0, 1)) || Good(with(cols, i, size-1, 0x80))) {
				t.Errorf("list %d is good with a column %d that is wrong", n, i)
			}
		}
	}
}

// orders tells each order of so many places.
func orders(count int) [][]int {
	if count == 0 {
		return [][]int{{}}
	}
	out := [][]int{}
	for _, order := range orders(count - 1) {
		for at := range count {
			out = append(out, slices.Insert(slices.Clone(order), at, count-1))
		}
	}
	return out
}

// changed is cols with the i-th data column new, and P and Q by its Delta.
func changed(cols []string, i int, fresh string) []string {
	out := slices.Clone(cols)
	p, q := Delta(cols[i], fresh, i)
	end := len(out) - 2
	out[i], out[end], out[end+1] = fresh, byByte([]string{out[end], p}, 0), byByte([]string{out[end+1], q}, 0)
	return out
}

// P5.4: one by one, in whatever order, each time the row is good.
func TestDeltasInWhateverOrder(t *testing.T) {
	fresh := []string{text(64, 51), text(64, 52), text(64, 53), text(64, 54), text(64, 55)}
	want := row(fresh)
	for _, order := range orders(len(fresh)) {
		cols := row(alike(len(fresh), 64))
		for _, i := range order {
			if cols = changed(cols, i, fresh[i]); !Good(cols) {
				t.Fatalf("order %v: not good behind column %d", order, i)
			}
		}
		if !slices.Equal(cols, want) {
			t.Errorf("order %v: %x", order, cols)
		}
	}
}

// P5.4: deltas that are added up ahead do the same; also two of one column.
func TestDeltasAddUp(t *testing.T) {
	cols := row(alike(8, 64))
	sumP, sumQ := "", ""
	for n, i := range []int{3, 0, 7, 3, 5, 0, 3} {
		fresh := text(64, 100+n)
		p, q := Delta(cols[i], fresh, i)
		sumP, sumQ = byByte([]string{sumP, p}, 0), byByte([]string{sumQ, q}, 0)
		cols[i] = fresh
	}
	if Good(cols) {
		t.Error("good without its deltas")
	}
	p, q := byByte([]string{cols[8], sumP}, 0), byByte([]string{cols[9], sumQ}, 0)
	if p != P(cols[:8]) || q != Q(cols[:8]) {
		t.Errorf("P %x, Q %x", p, q)
	}
}

// P5.4: columns that grow longer, or shorter, or have a place behind all powers; what their deltas add is right but for bytes 0 at its end.
func TestDeltasOfOtherLengths(t *testing.T) {
	for _, count := range []int{1, 2, 8, 300} {
		cols := row(uneven(count, 20))
		for n := range 40 {
			i, size := n*7%count, n*13%30
			if cols = changed(cols, i, text(size, n)); !Good(cols) {
				t.Fatalf("%d columns: not good behind change %d", count, n)
			}
		}
	}
}

// P5.4: each byte of each column, and each other byte in its place.
func TestOneOtherByteIsNotGood(t *testing.T) {
	for _, cols := range [][]string{{"a", "a", "a"}, {"\x00", "\x00"}, row(alike(2, 5)), row(alike(8, 5)), row(uneven(8, 9)), row([]string{"", "", ""}), row(alike(260, 1))} {
		for i := range cols {
			for k := range len(cols[i]) {
				for by := 1; by < 256; by++ {
					if Good(with(cols, i, k, byte(by))) {
						t.Fatalf("%d columns: good with byte %d of column %d exclusive or %#x", len(cols), k, i, by)
					}
				}
			}
		}
	}
}

// P5.4: each bit of rows that are as long as any.
func TestOneOtherBitOfALongRowIsNotGood(t *testing.T) {
	cols := row(alike(8, 256))
	for i := range cols {
		for k := range len(cols[i]) {
			for bit := range 8 {
				if Good(with(cols, i, k, 1<<bit)) {
					t.Fatalf("good with bit %d of byte %d of column %d turned", bit, k, i)
				}
			}
		}
	}
}

// R3: neither what is handed in is changed, nor what lies behind its length.
func TestArgumentsStayAsTheyAre(t *testing.T) {
	for _, count := range []int{0, 1, 2, 3, 8} {
		cols := append(alike(count, 8), "behind", "the", "end")
		before := slices.Clone(cols)
		P(cols[:count])
		Q(cols[:count])
		Sum(cols[:count])
		Good(cols[:count])
		if !slices.Equal(cols, before) {
			t.Errorf("of %d columns: %q", count, cols)
		}
	}
}

// R3: an answer is new memory, also where it is what was handed in.
func TestAnswersAreNewMemory(t *testing.T) {
	col := text(64, 3)
	same := func(answers ...string) bool {
		return slices.ContainsFunc(answers, func(s string) bool { return unsafe.StringData(s) == unsafe.StringData(col) })
	}
	p, q := Delta(col, "", 0)
	sumP, sumQ := Sum([]string{col, col})
	if same(P([]string{col}), Q([]string{col}), p, q, sumP, sumQ) {
		t.Error("an answer is the column itself")
	}
	if p != col || q != col || sumP != col || sumQ != col {
		t.Errorf("%x, %x, %x, %x", p, q, sumP, sumQ)
	}
}

// Factors that nobody wants any more are not told.
func TestPowersEndWhereTheyAreLeft(t *testing.T) {
	for count := range 9 {
		seen := []byte{}
		for i, power := range powers(8) {
			if i == count {
				break
			}
			seen = append(seen, power)
		}
		if want := "\x01\x02\x04\x08\x10\x20\x40\x80"[:count]; string(seen) != want {
			t.Errorf("%x, not %x", seen, want)
		}
	}
}
