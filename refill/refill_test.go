package refill

import (
	"math"
	"slices"
	"strings"
	"testing"
	"unsafe"

	"revetment/api"
)

// doubled is b times x, n times. It asks gf for nothing.
func doubled(b byte, n int) byte {
	p := int(b)
	for range n {
		p <<= 1
		if p > 0xff {
			p ^= 0x11d
		}
	}
	return byte(p)
}

// parity adds columns of one length, byte by byte; the i-th one is doubled i*step times. So it is P's of step 0, Q's of step 1.
func parity(cols []string, step int) string {
	if len(cols) == 0 {
		return ""
	}
	out := make([]byte, len(cols[0]))
	for i, col := range cols {
		for k := range out {
			out[k] ^= doubled(col[k], i*step)
		}
	}
	return string(out)
}

// text has so many bytes, of all kinds, told by no more than their number and a seed.
func text(size, seed int) string {
	out := make([]byte, size)
	for i := range out {
		out[i] = byte((i*i*7 + i*131 + seed*89 + seed*seed*5) >> 1)
	}
	return string(out)
}

// alike is so many columns, of one length.
func alike(count, size, seed int) []string {
	out := make([]string, count)
	for i := range out {
		out[i] = text(size, seed+i)
	}
	return out
}

// row is data columns with the P and Q that the reference tells of them.
func row(data []string) []string {
	return append(slices.Clone(data), parity(data, 0), parity(data, 1))
}

// good tells whether the reference has the row's own P and Q.
func good(cols []string) bool {
	p, q := len(cols)-2, len(cols)-1
	return cols[p] == parity(cols[:p], 0) && cols[q] == parity(cols[:p], 1)
}

// with is cols with other columns at some places.
func with(cols []string, places []int, col string) []string {
	out := slices.Clone(cols)
	for _, at := range places {
		out[at] = col
	}
	return out
}

// choices tells all lists of at most so many of count places, each list in the order of the row.
func choices(count, most int) [][]int {
	out := [][]int{}
	for bits := range 1 << count {
		places := []int{}
		for at := range count {
			if bits>>at&1 == 1 {
				places = append(places, at)
			}
		}
		if len(places) <= most {
			out = append(out, places)
		}
	}
	return out
}

// strange tells what may stand in a lost column: nothing, too little, too much, far too much.
func strange() []string {
	return []string{"", "\x00", "xyz", text(64, 7), text(4097, 9), text(20000, 3)}
}

// P6.1, and P6.2's errors: by hand, with each edge.
func TestMayByHand(t *testing.T) {
	four, ten := alike(4, 3, 1), alike(10, 3, 1)
	for _, c := range []struct {
		cols []string
		lost []int
		want api.Errno
	}{
		{nil, nil, api.ErrArg},
		{nil, []int{0}, api.ErrArg},
		{[]string{}, []int{}, api.ErrArg},
		{alike(3, 3, 1), nil, api.ErrArg},
		{alike(3, 3, 1), []int{0, 1, 2}, api.ErrArg},
		{four, nil, api.OK},
		{four, []int{}, api.OK},
		{ten, nil, api.OK},
		{alike(11, 3, 1), nil, api.ErrArg},
		{alike(11, 3, 1), []int{10}, api.ErrArg},
		{alike(11, 3, 1), []int{0, 1, 2}, api.ErrArg},
		{make([]string, 4), nil, api.OK},
		{make([]string, 10), []int{9, 8}, api.OK},
		{make([]string, 500), nil, api.ErrArg},
		{four, []int{0}, api.OK},
		{four, []int{3}, api.OK},
		{four, []int{0, 3}, api.OK},
		{four, []int{3, 0}, api.OK},
		{four, []int{4}, api.ErrArg},
		{four, []int{-1}, api.ErrArg},
		{four, []int{0, 4}, api.ErrArg},
		{four, []int{-1, 0}, api.ErrArg},
		{four, []int{math.MinInt}, api.ErrArg},
		{four, []int{math.MaxInt}, api.ErrArg},
		{four, []int{math.MaxInt, math.MinInt}, api.ErrArg},
		{ten, []int{9}, api.OK},
		{ten, []int{10}, api.ErrArg},
		{four, []int{0, 0}, api.ErrArg},
		{four, []int{3, 3}, api.ErrArg},
		{four, []int{1, 2, 1}, api.ErrArg},
		{four, []int{1, 2, 2}, api.ErrArg},
		{four, []int{0, 1, 2}, api.ErrLost},
		{four, []int{2, 0, 1}, api.ErrLost},
		{four, []int{0, 1, 2, 3}, api.ErrLost},
		{ten, []int{7, 8, 9}, api.ErrLost},
		{ten, []int{9, 8, 7, 6, 5, 4, 3, 2, 1, 0}, api.ErrLost},
		{four, []int{0, 1, 2, 4}, api.ErrArg},
		{four, []int{0, 1, 2, -1}, api.ErrArg},
		{four, []int{0, 1, 2, 3, 0}, api.ErrArg},
		{four, make([]int, 400), api.ErrArg},
	} {
		if got := May(c.cols, c.lost); got != c.want {
			t.Errorf("May of %d columns, lost %v: %d, not %d", len(c.cols), c.lost, got, c.want)
		}
	}
}

// P6.1: one length is asked of the columns that are not lost alone.
func TestMayAsksForOneLength(t *testing.T) {
	for _, c := range []struct {
		cols []string
		lost []int
		want api.Errno
	}{
		{[]string{"a", "b", "c", "dd"}, nil, api.ErrArg},
		{[]string{"aa", "b", "c", "d"}, nil, api.ErrArg},
		{[]string{"a", "b", "", "d"}, nil, api.ErrArg},
		{[]string{"", "", "", "d"}, nil, api.ErrArg},
		{[]string{"a", "b", "c", "dd"}, []int{3}, api.OK},
		{[]string{"aa", "b", "c", "d"}, []int{0}, api.OK},
		{[]string{"aa", "b", "c", "d"}, []int{1}, api.ErrArg},
		{[]string{"aa", "b", "", "d"}, []int{0}, api.ErrArg},
		{[]string{"aa", "b", "", "d"}, []int{2, 0}, api.OK},
		{[]string{"aa", "b", "", "d"}, []int{0, 1, 3}, api.ErrLost},
		{[]string{"aa", "b", "", "d"}, []int{0, 1, 2}, api.ErrLost},
		{[]string{"aa", "b", "", "d", "e"}, []int{0, 1, 3}, api.ErrArg},
		{[]string{"aa", "b", "", "ddd"}, []int{0, 1, 2, 3}, api.ErrLost},
	} {
		if got := May(c.cols, c.lost); got != c.want {
			t.Errorf("May(%q, %v) = %d, not %d", c.cols, c.lost, got, c.want)
		}
	}
}

// P6.1: a column has 4096 bytes at most, if it is not lost.
func TestMayAsksForAGreatestLength(t *testing.T) {
	for _, count := range []int{4, 7, 10} {
		for _, c := range []struct {
			size int
			want api.Errno
		}{{0, api.OK}, {1, api.OK}, {4095, api.OK}, {4096, api.OK}, {4097, api.ErrArg}, {9000, api.ErrArg}} {
			cols := alike(count, c.size, 1)
			for _, lost := range choices(count, 2) {
				if got := May(cols, lost); got != c.want {
					t.Fatalf("%d columns of %d bytes, lost %v: %d", count, c.size, lost, got)
				}
			}
		}
	}
	if got := May(alike(5, 4097, 1), []int{0, 1, 2}); got != api.ErrArg {
		t.Errorf("too long, and three are lost: %d", got)
	}
	if got := May(alike(5, 4097, 1), []int{0, 1, 2, 3, 4}); got != api.ErrLost {
		t.Errorf("too long, and all are lost: %d", got)
	}
}

// P6.1: whichever columns are lost, and whatever stands in them.
func TestMayOfWhicheverIsLost(t *testing.T) {
	for count := api.MinCols; count <= api.MaxCols; count++ {
		for _, lost := range choices(count, count) {
			want := api.OK
			if len(lost) > 2 {
				want = api.ErrLost
			}
			for _, col := range strange() {
				if got := May(with(alike(count, 5, 1), lost, col), lost); got != want {
					t.Fatalf("%d columns, lost %v: %d, not %d", count, lost, got, want)
				}
			}
		}
	}
}

// P6.2: what May says, and no list.
func TestFillHasMaysError(t *testing.T) {
	lists := [][]int{nil, {0}, {-1}, {3}, {4}, {9}, {10}, {0, 0}, {3, 1}, {0, 1, 2}, {2, 1, 2}, {0, 1, 2, 3}, {0, 1, 9, 8}, {math.MinInt, math.MaxInt}}
	for count := range 13 {
		for _, size := range []int{0, 4, 4096, 4097} {
			for _, lost := range lists {
				for _, uneven := range [][]int{nil, {0}, {3}, {0, 3}} {
					cols := alike(count, size, 1)
					if count > 3 {
						cols = with(cols, uneven, "other")
					}
					got, e := Fill(cols, lost)
					if want := May(cols, lost); e != want || (e == api.OK) != (len(got) == count && got != nil) || e != api.OK && got != nil {
						t.Fatalf("%d columns of %d bytes, lost %v, uneven %v: %d columns, %d, not %d", count, size, lost, uneven, len(got), e, want)
					}
				}
			}
		}
	}
}

// P6.2: by hand, also of rows that are not good.
func TestFillByHand(t *testing.T) {
	bad := []string{"\x01", "\x01", "\x05", "\x07"}
	for _, c := range []struct {
		cols []string
		lost []int
		want []string
	}{
		{[]string{"", "", "\x00", "\x03"}, []int{0, 1}, []string{"\x01", "\x01", "\x00", "\x03"}},
		{[]string{"", "\x01", "", "\x03"}, []int{0, 2}, []string{"\x01", "\x01", "\x00", "\x03"}},
		{[]string{"", "\x01", "\x00", ""}, []int{3, 0}, []string{"\x01", "\x01", "\x00", "\x03"}},
		{[]string{"\x01", "", "", "\x03"}, []int{1, 2}, []string{"\x01", "\x01", "\x00", "\x03"}},
		{[]string{"\x01", "", "\x00", ""}, []int{1, 3}, []string{"\x01", "\x01", "\x00", "\x03"}},
		{[]string{"\x01", "\x01", "", ""}, []int{2, 3}, []string{"\x01", "\x01", "\x00", "\x03"}},
		{[]string{"\x00", "\x80", "", ""}, []int{2, 3}, []string{"\x00", "\x80", "\x80", "\x1d"}},
		{[]string{"\x00", "", "", "\x1d"}, []int{1, 2}, []string{"\x00", "\x80", "\x80", "\x1d"}},
		{bad, nil, bad},
		{bad, []int{}, bad},
		{bad, []int{0}, []string{"\x04", "\x01", "\x05", "\x07"}},
		{bad, []int{1}, []string{"\x01", "\x04", "\x05", "\x07"}},
		{bad, []int{2}, []string{"\x01", "\x01", "\x00", "\x07"}},
		{bad, []int{3}, []string{"\x01", "\x01", "\x05", "\x03"}},
		{bad, []int{0, 2}, []string{"\x05", "\x01", "\x04", "\x07"}},
		{bad, []int{0, 3}, []string{"\x04", "\x01", "\x05", "\x06"}},
		{bad, []int{2, 3}, []string{"\x01", "\x01", "\x00", "\x03"}},
		{make([]string, 4), []int{0, 1}, make([]string, 4)},
		{make([]string, 10), nil, make([]string, 10)},
		{[]string{"xyz", "", "", ""}, []int{0}, make([]string, 4)},
	} {
		if got, e := Fill(c.cols, c.lost); !slices.Equal(got, c.want) || e != api.OK {
			t.Errorf("Fill(%q, %v) = %q, %d, not %q", c.cols, c.lost, got, e, c.want)
		}
	}
}

// fits tells whether a row is as good as it can be, when these are lost: that is said of it by the reference.
func fits(cols []string, lost []int) bool {
	p, q := len(cols)-2, len(cols)-1
	rightP, rightQ := cols[p] == parity(cols[:p], 0), cols[q] == parity(cols[:p], 1)
	switch {
	case len(lost) == 2:
		return rightP && rightQ
	case len(lost) == 0:
		return true
	case lost[0] == q:
		return rightQ
	}
	return rightP
}

// P6.2: of rows that are not good, whichever columns are lost, in whatever order, whatever stands in them: the others stay, and the row is as good as it can be.
func TestFillOfWhateverRow(t *testing.T) {
	for count := api.MinCols; count <= api.MaxCols; count++ {
		for _, size := range []int{0, 1, 64} {
			cols := alike(count, size, count)
			for _, lost := range choices(count, 2) {
				want, e := Fill(cols, lost)
				if e != api.OK || len(want) != count || !fits(want, lost) {
					t.Fatalf("%d columns of %d bytes, lost %v: %q, %d", count, size, lost, want, e)
				}
				for at, col := range want {
					if len(col) != size || !slices.Contains(lost, at) && col != cols[at] {
						t.Fatalf("%d columns of %d bytes, lost %v: column %d is %q", count, size, lost, at, col)
					}
				}
				backward := slices.Clone(lost)
				slices.Reverse(backward)
				for _, col := range strange() {
					if got, e := Fill(with(cols, lost, col), backward); !slices.Equal(got, want) || e != api.OK {
						t.Fatalf("%d columns of %d bytes, lost %v with %d bytes: %q, not %q", count, size, backward, len(col), got, want)
					}
				}
			}
		}
	}
}

// P6.2: of all bytes that may stand in two lost columns there is but one pair for which the row is good.
func TestFillOfTwoIsTheOnlyOne(t *testing.T) {
	for _, count := range []int{4, 7, 10} {
		cols := alike(count, 1, 5*count)
		for _, lost := range choices(count, 2) {
			if len(lost) < 2 {
				continue
			}
			got, _ := Fill(cols, lost)
			found := 0
			for value := range 1 << 16 {
				if goodBytes(cols, lost, byte(value), byte(value>>8)) {
					found++
					if got[lost[0]] != string([]byte{byte(value)}) || got[lost[1]] != string([]byte{byte(value >> 8)}) {
						t.Fatalf("%d columns, lost %v: good with %x, but told is %q", count, lost, value, got)
					}
				}
			}
			if found != 1 {
				t.Fatalf("%d columns, lost %v: %d that are good", count, lost, found)
			}
		}
	}
}

// goodBytes tells whether a row of columns of one byte is good, when its lost ones are a and b.
func goodBytes(cols []string, lost []int, a, b byte) bool {
	sumP, sumQ, count := byte(0), byte(0), len(cols)-2
	for at := range cols {
		value := cols[at][0]
		switch at {
		case lost[0]:
			value = a
		case lost[1]:
			value = b
		}
		if at != count+1 {
			sumP ^= value
		}
		if at != count {
			sumQ ^= doubled(value, at%(count+1))
		}
	}
	return sumP == 0 && sumQ == 0
}

// P6.2: the longest columns.
func TestFillOfTheLongest(t *testing.T) {
	cols := alike(10, 4096, 3)
	for _, lost := range [][]int{nil, {0}, {7}, {8}, {9}, {0, 7}, {3, 4}, {5, 8}, {5, 9}, {8, 9}} {
		if got, e := Fill(with(cols, lost, "?"), lost); e != api.OK || len(got) != 10 || len(got[0]) != 4096 || len(got[9]) != 4096 || !fits(got, lost) {
			t.Errorf("lost %v: %d columns, %d", lost, len(got), e)
		}
	}
}

// P6.3: by hand.
func TestMakeByHand(t *testing.T) {
	for _, c := range []struct {
		data, want []string
	}{
		{[]string{"\x01", "\x01"}, []string{"\x01", "\x01", "\x00", "\x03"}},
		{[]string{"\x00", "\x80"}, []string{"\x00", "\x80", "\x80", "\x1d"}},
		{[]string{"\x80", "\x00"}, []string{"\x80", "\x00", "\x80", "\x80"}},
		{[]string{"\xff", "\xff", "\xff"}, []string{"\xff", "\xff", "\xff", "\xff", "\xc7"}},
		{[]string{"ab", "cd", "ef"}, []string{"ab", "cd", "ef", "g`", "./"}},
		{[]string{"", ""}, []string{"", "", "", ""}},
		{make([]string, 8), make([]string, 10)},
		{[]string{"\x01", "\x01", "\x01", "\x01", "\x01", "\x01", "\x01", "\x01"}, []string{"\x01", "\x01", "\x01", "\x01", "\x01", "\x01", "\x01", "\x01", "\x00", "\xff"}},
	} {
		if got, e := Make(c.data); !slices.Equal(got, c.want) || e != api.OK {
			t.Errorf("Make(%q) = %q, %d, not %q", c.data, got, e, c.want)
		}
	}
}

// P6.3: two to eight columns, of one length, of up to 4096 bytes; else ErrArg, and no list.
func TestMakeOfAllCountsAndLengths(t *testing.T) {
	for count := range 14 {
		for _, size := range []int{0, 1, 64, 4095, 4096, 4097, 10000} {
			data := alike(count, size, 2)
			want, wantE := []string(nil), api.ErrArg
			if count >= 2 && count <= 8 && size <= 4096 {
				want, wantE = row(data), api.OK
			}
			if got, e := Make(data); !slices.Equal(got, want) || e != wantE || e != api.OK && got != nil {
				t.Errorf("%d columns of %d bytes: %d columns, %d", count, size, len(got), e)
			}
		}
	}
}

// P6.3: what may not be.
func TestMakeOfWrongColumns(t *testing.T) {
	for _, data := range [][]string{nil, {}, {"a"}, {"a", ""}, {"", "a"}, {"a", "aa"}, {"aa", "a", "a"}, {"a", "a", "a", "a", "a", "a", "a", "aa"}, make([]string, 9), make([]string, 10), make([]string, 400), {text(4097, 1), text(4096, 1)}} {
		if got, e := Make(data); got != nil || e != api.ErrArg {
			t.Errorf("%d columns: %d columns, %d", len(data), len(got), e)
		}
	}
}

// P6.4: whatever is lost of what was made, up to two columns, is found again.
func TestWhatIsLostIsFoundAgain(t *testing.T) {
	for count := 2; count <= 8; count++ {
		for _, size := range []int{0, 1, 2, 64, 256} {
			for seed := range 4 {
				made, e := Make(alike(count, size, seed*50))
				if e != api.OK || !good(made) {
					t.Fatalf("%d columns of %d bytes: %d", count, size, e)
				}
				for n, lost := range choices(count+2, 2) {
					bad := with(made, lost, strange()[n%len(strange())])
					if got, e := Fill(bad, lost); !slices.Equal(got, made) || e != api.OK {
						t.Fatalf("%d columns of %d bytes, lost %v: %q, %d", count, size, lost, got, e)
					}
				}
			}
		}
	}
}

// P6.4: each byte, in each column.
func TestEachByteIsFoundAgain(t *testing.T) {
	every := make([]byte, 256)
	for i := range every {
		every[i] = byte(i)
	}
	for count := 2; count <= 8; count++ {
		for at := range count {
			data := with(alike(count, 256, 9), []int{at}, string(every))
			made, _ := Make(data)
			for _, lost := range choices(count+2, 2) {
				if got, e := Fill(with(made, lost, ""), lost); e != api.OK || !slices.Equal(got, made) {
					t.Fatalf("%d columns, lost %v, all bytes in %d: %d", count, lost, at, e)
				}
			}
		}
	}
}

// R3: neither what is handed in is changed, nor what lies behind its length.
func TestArgumentsStayAsTheyAre(t *testing.T) {
	cols := append(alike(6, 8, 1), "behind", "the", "end")
	lost := []int{5, 2, 77, 78}
	colsBefore, lostBefore := slices.Clone(cols), slices.Clone(lost)
	May(cols[:6], lost[:2])
	Fill(cols[:6], lost[:2])
	Fill(cols[:6], lost[:0])
	Make(cols[:4])
	Make(cols[:6])
	if !slices.Equal(cols, colsBefore) || !slices.Equal(lost, lostBefore) {
		t.Errorf("%q, %v", cols, lost)
	}
}

// R3: an answer is new memory, the list and each text of it; also of what is not lost.
func TestAnswersAreNewMemory(t *testing.T) {
	cols := row(alike(4, 64, 1))
	filled, _ := Fill(cols, []int{1, 4})
	whole, _ := Fill(cols, nil)
	made, _ := Make(cols[:4])
	seen := map[*byte]bool{}
	for _, list := range [][]string{cols, filled, whole, made} {
		if !slices.Equal(list, cols) {
			t.Errorf("%q", list)
		}
		for at, col := range list {
			if seen[unsafe.StringData(col)] {
				t.Errorf("column %d is not new", at)
			}
			seen[unsafe.StringData(col)] = true
		}
	}
	whole[0] = strings.Repeat("z", 64)
	if cols[0] == whole[0] {
		t.Error("the list is not new")
	}
}
