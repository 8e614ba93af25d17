package plan

import (
	"math"
	"slices"
	"testing"

	"revetment/api"
)

// far are numbers near and far, of both signs; some have the same low bits as others.
func far() []int {
	return []int{math.MinInt, math.MinInt + 1, math.MinInt + 4, -1 << 32, -1<<32 + 1, -1<<32 + 4, -1 << 31, -256, -252, -65, -64, -63, -60, -10, -9, -8, -5, -4, -3, -2, -1, 0, 1, 2, 3, 4, 5, 6, 7, 8, 9, 10, 11, 12, 16, 18, 20, 31, 32, 33, 36, 63, 64, 65, 66, 68, 127, 128, 255, 256, 257, 260, 65536, 65537, 65540, 1<<31 - 1, 1 << 31, 1 << 32, 1<<32 + 1, 1<<32 + 2, 1<<32 + 4, 1 << 62, 1<<62 + 1, 1<<62 + 4, math.MaxInt - 1, math.MaxInt}
}

// writes are n data columns, of which these are written.
func writes(n int, which ...int) []bool {
	out := make([]bool, n)
	for _, i := range which {
		out[i] = true
	}
	return out
}

// upTo are the numbers 0 to n - 1.
func upTo(n int) []int {
	out := make([]int, n)
	for i := range out {
		out[i] = i
	}
	return out
}

// without are the numbers 0 to n - 1, less some.
func without(n int, some ...int) []int {
	return slices.DeleteFunc(upTo(n), func(i int) bool { return slices.Contains(some, i) })
}

// costs tells whether a way can be gone, and reads so many columns.
func costs(t *testing.T, n int, write []bool, lost []int, way, want int) {
	t.Helper()
	if got, can := Cost(n, write, lost, way); got != want || !can {
		t.Errorf("Cost(%d, %v, %v, %d) answers %d, %v, not %d", n, write, lost, way, got, can, want)
	}
}

// closed tells whether a way can't be gone.
func closed(t *testing.T, n int, write []bool, lost []int, way int) {
	t.Helper()
	if got, can := Cost(n, write, lost, way); got != 0 || can {
		t.Errorf("Cost(%d, %v, %v, %d) answers %d, %v", n, write, lost, way, got, can)
	}
}

// chooses tells whether this is the plan.
func chooses(t *testing.T, n int, write []bool, lost []int, way int, reads, writes []int) {
	t.Helper()
	p, e := Choose(n, write, lost)
	if e != api.OK || p.Way != way || !slices.Equal(p.Reads, reads) || !slices.Equal(p.Writes, writes) {
		t.Errorf("Choose(%d, %v, %v) answers %v, %d, not %d, %v, %v", n, write, lost, p, e, way, reads, writes)
	}
}

// refuses tells whether there is no plan, by this error.
func refuses(t *testing.T, n int, write []bool, lost []int, want api.Errno) {
	t.Helper()
	p, e := Choose(n, write, lost)
	if e != want || p.Way != 0 || len(p.Reads) != 0 || len(p.Writes) != 0 {
		t.Errorf("Choose(%d, %v, %v) answers %v, %d, not %d", n, write, lost, p, e, want)
	}
}

// reads tells whether these columns are read for one.
func reads(t *testing.T, n, role int, lost, want []int) {
	t.Helper()
	if got, e := Read(n, role, lost); e != api.OK || !slices.Equal(got, want) {
		t.Errorf("Read(%d, %d, %v) answers %v, %d, not %v", n, role, lost, got, e, want)
	}
}

// unread tells whether a column can't be read, by this error.
func unread(t *testing.T, n, role int, lost []int, want api.Errno) {
	t.Helper()
	if got, e := Read(n, role, lost); e != want || len(got) != 0 {
		t.Errorf("Read(%d, %d, %v) answers %v, %d, not %d", n, role, lost, got, e, want)
	}
}

// badLost are lists of what may not be lost in a row of n data columns: roles that are none, and such that are there twice, ahead of others and behind them.
func badLost(n int) [][]int {
	var out [][]int
	for _, role := range far() {
		if role < 0 || role > n+1 {
			out = append(out, []int{role}, []int{0, role}, []int{role, n + 1}, []int{1, n, role}, []int{0, role, 1, n})
		}
	}
	for role := range n + 2 {
		other := (role + 1) % (n + 2)
		out = append(out, []int{role, role}, []int{role, other, role}, []int{other, role, role}, []int{role, role, other}, []int{role, role, role})
	}
	return append(out, append(upTo(n+2), 0), append(upTo(n+2), n+1), upTo(n+3), slices.Repeat([]int{1}, 300))
}

// P15.1: the four ways of a row of which nothing is lost, by hand.
func TestCostByHand(t *testing.T) {
	for _, x := range []struct {
		n                     int
		write                 []bool
		full                  bool
		modify, rebuild, each int
	}{
		{4, writes(4), false, 2, 4, 6},
		{4, writes(4, 0), false, 3, 3, 6},
		{4, writes(4, 3), false, 3, 3, 6},
		{4, writes(4, 1, 2), false, 4, 2, 6},
		{4, writes(4, 0, 1, 3), false, 5, 1, 6},
		{4, writes(4, 0, 1, 2, 3), true, 6, 0, 6},
		{2, writes(2), false, 2, 2, 4},
		{2, writes(2, 1), false, 3, 1, 4},
		{2, writes(2, 0, 1), true, 4, 0, 4},
		{8, writes(8), false, 2, 8, 10},
		{8, writes(8, 7), false, 3, 7, 10},
		{8, writes(8, 0, 7), false, 4, 6, 10},
		{8, writes(8, 0, 1, 2, 3, 4, 5, 6), false, 9, 1, 10},
		{8, writes(8, upTo(8)...), true, 10, 0, 10},
	} {
		if x.full {
			costs(t, x.n, x.write, nil, Full, 0)
		} else {
			closed(t, x.n, x.write, nil, Full)
		}
		costs(t, x.n, x.write, nil, Modify, x.modify)
		costs(t, x.n, x.write, nil, Rebuild, x.rebuild)
		costs(t, x.n, x.write, nil, Whole, x.each)
	}
}

// P15.1: Full reads nothing, and can be gone if all data columns are written, whatever is lost; if one is not, it can't.
func TestCostFull(t *testing.T) {
	for n := 2; n <= 8; n++ {
		for _, lost := range [][]int{nil, {0}, {n - 1}, {n}, {n + 1}, {0, 1}, {n - 1, 0}, {n, n + 1}, {n + 1, 0}} {
			costs(t, n, writes(n, upTo(n)...), lost, Full, 0)
			for i := range n {
				closed(t, n, writes(n, without(n, i)...), lost, Full)
			}
			closed(t, n, writes(n), lost, Full)
		}
	}
}

// P15.1: Modify reads what is written, and P and Q, as long as nothing that is written is lost; a column that is not written may be.
func TestCostModify(t *testing.T) {
	for n := 2; n <= 8; n++ {
		for i := range n {
			k := (i + 1) % n
			costs(t, n, writes(n, i), nil, Modify, 3)
			costs(t, n, writes(n, i), []int{k}, Modify, 3)
			costs(t, n, writes(n), []int{i, k}, Modify, 2)
			closed(t, n, writes(n, i), []int{i}, Modify)
			closed(t, n, writes(n, i), []int{i, k}, Modify)
			closed(t, n, writes(n, i), []int{k, i}, Modify)
			closed(t, n, writes(n, i, k), []int{k}, Modify)
			closed(t, n, writes(n, upTo(n)...), []int{i}, Modify)
		}
	}
}

// P15.1: Modify reads of P and Q the one that is not lost; and nothing at all, if both are, however much is written.
func TestCostModifyWithoutParity(t *testing.T) {
	for n := 2; n <= 8; n++ {
		for k := range n + 1 {
			write := writes(n, upTo(k)...)
			costs(t, n, write, []int{n}, Modify, k+1)
			costs(t, n, write, []int{n + 1}, Modify, k+1)
			costs(t, n, write, []int{n, n + 1}, Modify, 0)
			costs(t, n, write, []int{n + 1, n}, Modify, 0)
		}
		for _, parity := range []int{n, n + 1} {
			closed(t, n, writes(n, 1), []int{1, parity}, Modify)
			closed(t, n, writes(n, 1), []int{parity, 1}, Modify)
			costs(t, n, writes(n, 1), []int{0, parity}, Modify, 2)
		}
	}
}

// P15.1: Rebuild reads the data columns that are not written, as long as none of these is lost; what is written may be, and P and Q.
func TestCostRebuild(t *testing.T) {
	for n := 2; n <= 8; n++ {
		for i := range n {
			k := (i + 1) % n
			for _, lost := range [][]int{nil, {i}, {n}, {n + 1}, {i, n}, {n + 1, i}, {n, n + 1}} {
				costs(t, n, writes(n, i), lost, Rebuild, n-1)
			}
			for _, lost := range [][]int{{k}, {i, k}, {k, i}, {k, n}, {n + 1, k}} {
				closed(t, n, writes(n, i), lost, Rebuild)
			}
			costs(t, n, writes(n, i, k), []int{i, k}, Rebuild, n-2)
			closed(t, n, writes(n), []int{i}, Rebuild)
		}
		costs(t, n, writes(n), nil, Rebuild, n)
		costs(t, n, writes(n), []int{n + 1, n}, Rebuild, n)
		costs(t, n, writes(n, upTo(n)...), []int{0, n}, Rebuild, 0)
	}
}

// P15.1: Whole reads all that is not lost, and can be gone always, whatever is written.
func TestCostWhole(t *testing.T) {
	for n := 2; n <= 8; n++ {
		for _, write := range [][]bool{writes(n), writes(n, 0), writes(n, n-1, 0), writes(n, upTo(n)...)} {
			costs(t, n, write, nil, Whole, n+2)
			costs(t, n, write, []int{}, Whole, n+2)
			for a := range n + 2 {
				costs(t, n, write, []int{a}, Whole, n+1)
				for _, b := range without(n+2, a) {
					costs(t, n, write, []int{a, b}, Whole, n)
				}
			}
		}
	}
}

// P15.1: by ways that are none nothing is read, and none can be gone.
func TestCostOfOtherWays(t *testing.T) {
	for _, way := range append(far(), Nothing, Whole+1, Full+256, Modify-256, Rebuild+1<<32, Whole-1<<32) {
		if way >= 1 && way <= 4 {
			continue
		}
		for _, write := range [][]bool{writes(4), writes(4, 1), writes(4, upTo(4)...)} {
			for _, lost := range [][]int{nil, {1}, {4, 5}} {
				closed(t, 4, write, lost, way)
			}
		}
	}
}

// P15.1: with more than two lost no way can be gone.
func TestCostOfTooManyLost(t *testing.T) {
	for n := 2; n <= 8; n++ {
		for _, write := range [][]bool{writes(n), writes(n, 0), writes(n, n-1), writes(n, upTo(n)...)} {
			for way := range 6 {
				for _, lost := range [][]int{{0, 1, n}, {n, n + 1, 0}, {n + 1, 1, n}, {1, 0, n + 1}, upTo(4), upTo(n + 2)} {
					closed(t, n, write, lost, way)
				}
			}
		}
	}
}

// P15.1: of arguments that may not be nothing is told.
func TestCostOfWrongArguments(t *testing.T) {
	for way := range 6 {
		for _, n := range far() {
			if n < 2 || n > 8 {
				for _, k := range []int{0, 1, 2, 4, 8, 9, 10} {
					closed(t, n, writes(k, upTo(k)...), nil, way)
				}
			}
		}
		for n := 2; n <= 8; n++ {
			for _, k := range append(without(20, n), 64, 64+n, 256, 256+n) {
				closed(t, n, writes(k, upTo(k)...), nil, way)
			}
			closed(t, n, nil, nil, way)
			for _, lost := range badLost(n) {
				closed(t, n, writes(n, upTo(n)...), lost, way)
				closed(t, n, writes(n, 0), lost, way)
			}
		}
	}
}

// P15.2: the plan of a row, by hand.
func TestChooseByHand(t *testing.T) {
	chooses(t, 4, writes(4, 0), nil, Modify, []int{0, 4, 5}, []int{0, 4, 5})
	chooses(t, 4, writes(4, 2), nil, Modify, []int{2, 4, 5}, []int{2, 4, 5})
	chooses(t, 4, writes(4, 3, 0), nil, Rebuild, []int{1, 2}, []int{0, 3, 4, 5})
	chooses(t, 4, writes(4, 0, 1, 2), nil, Rebuild, []int{3}, []int{0, 1, 2, 4, 5})
	chooses(t, 4, writes(4, 0, 1, 2, 3), nil, Full, nil, []int{0, 1, 2, 3, 4, 5})
	chooses(t, 4, writes(4, 2), []int{2}, Rebuild, []int{0, 1, 3}, []int{4, 5})
	chooses(t, 4, writes(4, 2), []int{3, 0}, Modify, []int{2, 4, 5}, []int{2, 4, 5})
	chooses(t, 4, writes(4, 2), []int{2, 3}, Whole, []int{0, 1, 4, 5}, []int{4, 5})
	chooses(t, 4, writes(4, 1, 2), []int{1, 5}, Rebuild, []int{0, 3}, []int{2, 4})
	chooses(t, 4, writes(4, 1, 2), []int{4}, Rebuild, []int{0, 3}, []int{1, 2, 5})
	chooses(t, 4, writes(4, 1, 2), []int{4, 0}, Modify, []int{1, 2, 5}, []int{1, 2, 5})
	chooses(t, 4, writes(4, 1, 2), []int{5, 4}, Modify, nil, []int{1, 2})
	chooses(t, 4, writes(4, 0, 1, 2, 3), []int{5, 4}, Full, nil, []int{0, 1, 2, 3})
	chooses(t, 4, writes(4, 0, 1, 2, 3), []int{3, 1}, Full, nil, []int{0, 2, 4, 5})
	chooses(t, 2, writes(2, 0), nil, Rebuild, []int{1}, []int{0, 2, 3})
	chooses(t, 2, writes(2, 1), []int{1, 3}, Rebuild, []int{0}, []int{2})
	chooses(t, 2, writes(2, 1), []int{1, 0}, Whole, []int{2, 3}, []int{2, 3})
	chooses(t, 2, writes(2, 1), []int{0, 2}, Modify, []int{1, 3}, []int{1, 3})
	chooses(t, 8, writes(8, 0, 1, 2), nil, Modify, []int{0, 1, 2, 8, 9}, []int{0, 1, 2, 8, 9})
	chooses(t, 8, writes(8, 0, 1, 2, 3), nil, Rebuild, []int{4, 5, 6, 7}, []int{0, 1, 2, 3, 8, 9})
	chooses(t, 8, writes(8, 7), []int{8}, Modify, []int{7, 9}, []int{7, 9})
	chooses(t, 8, writes(8, 7), []int{7, 0}, Whole, []int{1, 2, 3, 4, 5, 6, 8, 9}, []int{8, 9})
}

// P15.2: if no column is written, there is nothing to do, whichever up to two are lost.
func TestChooseNothing(t *testing.T) {
	for n := 2; n <= 8; n++ {
		for _, lost := range [][]int{nil, {}, {0}, {n - 1}, {n}, {n + 1}, {0, 1}, {n, n + 1}, {n + 1, 0}} {
			chooses(t, n, writes(n), lost, Nothing, nil, nil)
		}
	}
}

// P15.2: of two ways that read as many columns the first one is taken: Full and Rebuild, Full and Modify, Modify and Rebuild, Modify and Whole.
func TestChooseTheFirst(t *testing.T) {
	for n := 2; n <= 8; n++ {
		costs(t, n, writes(n, upTo(n)...), nil, Rebuild, 0)
		chooses(t, n, writes(n, upTo(n)...), nil, Full, nil, upTo(n+2))
		costs(t, n, writes(n, upTo(n)...), []int{n, n + 1}, Modify, 0)
		chooses(t, n, writes(n, upTo(n)...), []int{n, n + 1}, Full, nil, upTo(n))
		for i := range n {
			most := without(n, i)
			costs(t, n, writes(n, most...), []int{i}, Whole, n+1)
			chooses(t, n, writes(n, most...), []int{i}, Modify, without(n+2, i), without(n+2, i))
			costs(t, n, writes(n, most...), []int{i, n}, Whole, n)
			chooses(t, n, writes(n, most...), []int{i, n}, Modify, without(n+2, i, n), without(n+2, i, n))
		}
	}
	for n := 2; n <= 8; n += 2 {
		half := upTo(n/2 - 1)
		if n > 2 {
			costs(t, n, writes(n, half...), nil, Rebuild, n/2+1)
			chooses(t, n, writes(n, half...), nil, Modify, append(half, n, n+1), append(half, n, n+1))
		}
		costs(t, n, writes(n, upTo(n/2)...), []int{n, n + 1}, Rebuild, n/2)
		chooses(t, n, writes(n, upTo(n/2)...), []int{n, n + 1}, Modify, nil, upTo(n/2))
	}
	for n := 3; n <= 7; n += 2 {
		half := upTo(n / 2)
		costs(t, n, writes(n, half...), []int{n}, Rebuild, n/2+1)
		chooses(t, n, writes(n, half...), []int{n}, Modify, append(half, n+1), append(half, n+1))
	}
}

// P15.2: what is lost is told in any order, and the lists rise nevertheless.
func TestChooseRises(t *testing.T) {
	for n := 2; n <= 8; n++ {
		for a := range n + 2 {
			for b := range a {
				one, e := Choose(n, writes(n, 0, n-1), []int{a, b})
				two, f := Choose(n, writes(n, 0, n-1), []int{b, a})
				if e != f || one.Way != two.Way || !slices.Equal(one.Reads, two.Reads) || !slices.Equal(one.Writes, two.Writes) {
					t.Errorf("n %d, lost %d and %d: %v, %d and %v, %d", n, a, b, one, e, two, f)
				}
				if !slices.IsSorted(one.Reads) || !slices.IsSorted(one.Writes) {
					t.Errorf("n %d, lost %d and %d: %v", n, a, b, one)
				}
			}
		}
	}
}

// P15.2: arguments that may not be: n, how many elements write has, and what is lost.
func TestChooseOfWrongArguments(t *testing.T) {
	for _, n := range far() {
		for _, k := range []int{0, 1, 2, 4, 8, 9, 10, 64} {
			if n < 2 || n > 8 || n != k {
				refuses(t, n, writes(k, upTo(k)...), nil, api.ErrArg)
				refuses(t, n, writes(k), []int{0}, api.ErrArg)
			}
		}
		refuses(t, n, nil, nil, api.ErrArg)
	}
	for n := 2; n <= 8; n++ {
		for _, k := range append(without(20, n), 64+n, 256+n) {
			refuses(t, n, writes(k, upTo(k)...), nil, api.ErrArg)
			refuses(t, n, writes(k), nil, api.ErrArg)
		}
		for _, lost := range badLost(n) {
			refuses(t, n, writes(n, 0), lost, api.ErrArg)
			refuses(t, n, writes(n, upTo(n)...), lost, api.ErrArg)
			refuses(t, n, writes(n), lost, api.ErrArg)
		}
	}
	chooses(t, 2, writes(2, 0, 1), nil, Full, nil, upTo(4))
	chooses(t, 8, writes(8, upTo(8)...), nil, Full, nil, upTo(10))
	refuses(t, 1, writes(1, 0), nil, api.ErrArg)
	refuses(t, 9, writes(9, upTo(9)...), nil, api.ErrArg)
}

// P15.2: with more than two lost there is no plan, however much, or little, is written.
func TestChooseOfTooManyLost(t *testing.T) {
	for n := 2; n <= 8; n++ {
		for _, write := range [][]bool{writes(n), writes(n, 0), writes(n, n-1), writes(n, upTo(n)...)} {
			for _, lost := range [][]int{{0, 1, n}, {n, n + 1, 0}, {n + 1, 1, n}, {1, 0, n + 1}, upTo(4), upTo(n + 2)} {
				refuses(t, n, write, lost, api.ErrLost)
			}
		}
	}
}

// P15.2: an argument that may not be is told ahead of too many that are lost, and that ahead of nothing that is written.
func TestChooseOrderOfErrors(t *testing.T) {
	refuses(t, 4, writes(3), []int{0, 1, 2}, api.ErrArg)
	refuses(t, 9, writes(9), []int{0, 1, 2}, api.ErrArg)
	refuses(t, 4, writes(4), []int{0, 1, 2, 6}, api.ErrArg)
	refuses(t, 4, writes(4), []int{0, 1, 2, 0}, api.ErrArg)
	refuses(t, 4, writes(4), []int{-1, 0, 1, 2}, api.ErrArg)
	refuses(t, 4, writes(5), nil, api.ErrArg)
	refuses(t, 4, writes(4), []int{6}, api.ErrArg)
	refuses(t, 4, writes(4), []int{0, 1, 2}, api.ErrLost)
}

// P15.3: what is read for one column, by hand.
func TestReadByHand(t *testing.T) {
	reads(t, 4, 2, nil, []int{2})
	reads(t, 4, 2, []int{1, 3}, []int{2})
	reads(t, 4, 2, []int{2}, []int{0, 1, 3, 4, 5})
	reads(t, 4, 2, []int{2, 0}, []int{1, 3, 4, 5})
	reads(t, 4, 2, []int{5, 2}, []int{0, 1, 3, 4})
	reads(t, 4, 4, []int{4}, []int{0, 1, 2, 3, 5})
	reads(t, 4, 5, []int{4}, []int{5})
	reads(t, 4, 5, []int{5, 4}, []int{0, 1, 2, 3})
	reads(t, 2, 0, []int{1, 0}, []int{2, 3})
	reads(t, 8, 9, nil, []int{9})
	reads(t, 8, 9, []int{0, 9}, []int{1, 2, 3, 4, 5, 6, 7, 8})
}

// P15.3: a column that is not lost is read by itself, however many others are lost.
func TestReadOfWhatIsLeft(t *testing.T) {
	for n := 2; n <= 8; n++ {
		for role := range n + 2 {
			others := without(n+2, role)
			for k := range n + 2 {
				reads(t, n, role, others[:k], []int{role})
			}
			reads(t, n, role, nil, []int{role})
			reads(t, n, role, []int{}, []int{role})
		}
	}
}

// P15.3: a column that is lost is read by all that is not, wherever it stands among what is; ErrLost, if more than two are.
func TestReadOfWhatIsLost(t *testing.T) {
	for n := 2; n <= 8; n++ {
		for role := range n + 2 {
			reads(t, n, role, []int{role}, without(n+2, role))
			others := without(n+2, role)
			for _, other := range others {
				reads(t, n, role, []int{role, other}, without(n+2, role, other))
				reads(t, n, role, []int{other, role}, without(n+2, role, other))
			}
			for k := 2; k <= n+1; k++ {
				unread(t, n, role, append([]int{role}, others[:k]...), api.ErrLost)
				unread(t, n, role, append(slices.Clone(others[:k]), role), api.ErrLost)
			}
		}
	}
}

// P15.3: of wrong numbers nothing is read: n, role, and what is lost, whether role is or not; that is told ahead of too many that are.
func TestReadOfWrongArguments(t *testing.T) {
	for _, n := range far() {
		if n < 2 || n > 8 {
			for _, role := range []int{0, 1, 2, 9, 10, n, n + 1} {
				unread(t, n, role, nil, api.ErrArg)
				unread(t, n, role, []int{role}, api.ErrArg)
				unread(t, n, role, []int{0, 1, 2}, api.ErrArg)
			}
		}
	}
	for n := 2; n <= 8; n++ {
		for _, role := range append(far(), n+2, n+3) {
			if role < 0 || role > n+1 {
				unread(t, n, role, nil, api.ErrArg)
				unread(t, n, role, []int{0}, api.ErrArg)
				unread(t, n, role, []int{role}, api.ErrArg)
				unread(t, n, role, []int{0, 1, n}, api.ErrArg)
			}
		}
		for _, lost := range badLost(n) {
			for role := range n + 2 {
				unread(t, n, role, lost, api.ErrArg)
			}
		}
	}
}
