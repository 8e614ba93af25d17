package plan

import (
	"slices"
	"testing"

	"revetment/api"
)

// lists are all lists of up to two roles of a row of n data columns, none twice, in any order.
func lists(n int) [][]int {
	out := [][]int{{}}
	for a := range n + 2 {
		out = append(out, []int{a})
		for b := range n + 2 {
			if a != b {
				out = append(out, []int{a, b})
			}
		}
	}
	return out
}

// longer are lists of more than two roles, none twice: each choice of them, rising and falling.
func longer(n int) [][]int {
	var out [][]int
	for bits := range 1 << (n + 2) {
		l := slices.DeleteFunc(upTo(n+2), func(role int) bool { return bits>>role&1 == 0 })
		if len(l) > 2 {
			falling := slices.Clone(l)
			slices.Reverse(falling)
			out = append(out, l, falling)
		}
	}
	return out
}

// every is each choice of data columns that are written.
func every(n int) [][]bool {
	var out [][]bool
	for bits := range 1 << n {
		out = append(out, writes(n, slices.DeleteFunc(upTo(n), func(i int) bool { return bits>>i&1 == 0 })...))
	}
	return out
}

// modelReads tells, word by word, what a way reads, and whether it can be gone, of arguments that may be, with up to two lost.
func modelReads(n int, write []bool, lost []int, way int) ([]int, bool) {
	isLost := func(role int) bool { return slices.Contains(lost, role) }
	var out []int
	switch way {
	case Full:
		return nil, !slices.Contains(write, false)
	case Modify:
		if isLost(n) && isLost(n+1) {
			return nil, true
		}
		for i := range n {
			if write[i] && isLost(i) {
				return nil, false
			}
			if write[i] {
				out = append(out, i)
			}
		}
		for role := n; role <= n+1; role++ {
			if !isLost(role) {
				out = append(out, role)
			}
		}
		return out, true
	case Rebuild:
		for i := range n {
			if !write[i] && isLost(i) {
				return nil, false
			}
			if !write[i] {
				out = append(out, i)
			}
		}
		return out, true
	case Whole:
		return without(n+2, lost...), true
	}
	return nil, false
}

// modelChoose tells, word by word, the plan, of arguments that may be, with up to two lost.
func modelChoose(n int, write []bool, lost []int) (int, []int, []int) {
	if !slices.Contains(write, true) {
		return Nothing, nil, nil
	}
	best, least := -1, []int(nil)
	for _, way := range []int{Full, Modify, Rebuild, Whole} {
		if l, can := modelReads(n, write, lost, way); can && (best < 0 || len(l) < len(least)) {
			best, least = way, l
		}
	}
	var out []int
	for role := range n + 2 {
		if (role >= n || write[role]) && !slices.Contains(lost, role) {
			out = append(out, role)
		}
	}
	return best, least, out
}

// P15.1: what each way costs, of all rows, all that may be written, and all lists of up to two that are lost; and of longer ones.
func TestCostOfAll(t *testing.T) {
	for n := 2; n <= 8; n++ {
		for _, write := range every(n) {
			for _, lost := range lists(n) {
				for way := -1; way <= 6; way++ {
					want, can := modelReads(n, write, lost, way)
					if !can {
						closed(t, n, write, lost, way)
					} else {
						costs(t, n, write, lost, way, len(want))
					}
				}
			}
		}
		for _, lost := range longer(n) {
			for way := -1; way <= 6; way++ {
				closed(t, n, writes(n, 0), lost, way)
				closed(t, n, writes(n, upTo(n)...), lost, way)
			}
		}
	}
}

// P15.2: the plan of all rows, all that may be written, and all lists of up to two that are lost; and of longer ones.
func TestChooseOfAll(t *testing.T) {
	for n := 2; n <= 8; n++ {
		for _, write := range every(n) {
			for _, lost := range lists(n) {
				way, reads, written := modelChoose(n, write, lost)
				chooses(t, n, write, lost, way, reads, written)
			}
		}
		for _, lost := range longer(n) {
			refuses(t, n, writes(n), lost, api.ErrLost)
			refuses(t, n, writes(n, n-1), lost, api.ErrLost)
			refuses(t, n, writes(n, upTo(n)...), lost, api.ErrLost)
		}
	}
}

// P15.2: the way that is chosen can be gone, costs as much as is read by it, and none costs less.
func TestChooseCostsLeast(t *testing.T) {
	for n := 2; n <= 8; n++ {
		for _, write := range every(n)[1:] {
			for _, lost := range lists(n) {
				p, _ := Choose(n, write, lost)
				costs(t, n, write, lost, p.Way, len(p.Reads))
				for way := Full; way <= Whole; way++ {
					cost, can := Cost(n, write, lost, way)
					if can && (cost < len(p.Reads) || cost == len(p.Reads) && way < p.Way) {
						t.Errorf("Choose(%d, %v, %v) answers %v; way %d costs %d", n, write, lost, p, way, cost)
					}
				}
			}
		}
	}
}

// P15.3: what is read for each column of all rows, whatever is lost.
func TestReadOfAll(t *testing.T) {
	for n := 2; n <= 8; n++ {
		for _, lost := range append(lists(n), longer(n)...) {
			for role := -1; role <= n+2; role++ {
				switch {
				case role < 0 || role > n+1:
					unread(t, n, role, lost, api.ErrArg)
				case !slices.Contains(lost, role):
					reads(t, n, role, lost, []int{role})
				case len(lost) > 2:
					unread(t, n, role, lost, api.ErrLost)
				default:
					reads(t, n, role, lost, without(n+2, lost...))
				}
			}
		}
	}
}

// times multiplies two numbers of the field, in which 0x11d is 0.
func times(a, b uint8) uint8 {
	var out uint8
	for ; b != 0; b >>= 1 {
		if b&1 == 1 {
			out ^= a
		}
		if a < 0x80 {
			a <<= 1
		} else {
			a = a<<1 ^ 0x1d
		}
	}
	return out
}

// inverse is the number by which another one becomes 1.
func inverse(a uint8) uint8 {
	for b := range 256 {
		if times(a, uint8(b)) == 1 {
			return uint8(b)
		}
	}
	return 0
}

// sum says how often each data column, as it was ahead of the write, is added to something.
type sum [8]uint8

// of is a role's column: a data column by itself, P, or Q; of these two only what the columns that are kept give to them.
func of(n, role int, keep func(i int) bool) sum {
	var out sum
	power := uint8(1)
	for i := range n {
		switch {
		case role == i || role == n && keep(i):
			out[i] = 1
		case role == n+1 && keep(i):
			out[i] = power
		}
		power = times(power, 2)
	}
	return out
}

// less takes from a sum as much of another one as its place i has, if that has 1 there.
func (s sum) less(other sum, i int) sum {
	factor := s[i]
	for k := range s {
		s[k] ^= times(factor, other[k])
	}
	return s
}

// tells tells whether a sum can be told from others.
func tells(known []sum, want sum) bool {
	left := slices.Clone(known)
	for i := range want {
		at := slices.IndexFunc(left, func(s sum) bool { return s[i] != 0 })
		if at < 0 {
			if want[i] != 0 {
				return false
			}
			continue
		}
		pivot, by := left[at], inverse(left[at][i])
		for k := range pivot {
			pivot[k] = times(pivot[k], by)
		}
		left = slices.Delete(left, at, at+1)
		for k := range left {
			left[k] = left[k].less(pivot, i)
		}
		want = want.less(pivot, i)
	}
	return want == sum{}
}

// anyColumn keeps each one, as P and Q do.
func anyColumn(int) bool { return true }

// sums are what is known by reading these columns.
func sums(n int, roles []int) []sum {
	var out []sum
	for _, role := range roles {
		out = append(out, of(n, role, anyColumn))
	}
	return out
}

// P15.4: what the tests below work with: each column that is lost can be told from those that are not, if at most two are; else none can.
func TestTells(t *testing.T) {
	for n := 2; n <= 8; n++ {
		for _, lost := range append(lists(n), longer(n)...) {
			for _, role := range lost {
				if tells(sums(n, without(n+2, lost...)), of(n, role, anyColumn)) != (len(lost) <= 2) {
					t.Errorf("n %d, lost %v: column %d", n, lost, role)
				}
			}
		}
	}
}

// P15.4: nothing that is lost is read, or written, and nothing twice.
func TestNothingLostIsReadOrWritten(t *testing.T) {
	for n := 2; n <= 8; n++ {
		for _, lost := range lists(n) {
			for _, write := range every(n) {
				p, _ := Choose(n, write, lost)
				for _, l := range [][]int{p.Reads, p.Writes} {
					for k, role := range l {
						if role < 0 || role > n+1 || slices.Contains(lost, role) || slices.Contains(l[:k], role) {
							t.Errorf("Choose(%d, %v, %v) answers %v", n, write, lost, p)
						}
					}
				}
			}
			for role := range n + 2 {
				l, _ := Read(n, role, lost)
				for _, other := range lost {
					if slices.Contains(l, other) {
						t.Errorf("Read(%d, %d, %v) answers %v", n, role, lost, l)
					}
				}
			}
		}
	}
}

// P15.4: from what is read, and what is written, those of P and Q that are not lost can be told anew: what the columns that stay as they are give to them is told by what is read; and they are written.
func TestWhatIsReadIsEnough(t *testing.T) {
	for n := 2; n <= 8; n++ {
		for _, write := range every(n)[1:] {
			for _, lost := range lists(n) {
				p, e := Choose(n, write, lost)
				known := sums(n, p.Reads)
				for parity := n; parity <= n+1; parity++ {
					if slices.Contains(lost, parity) {
						continue
					}
					stay := of(n, parity, func(i int) bool { return !write[i] })
					if e != api.OK || !tells(known, stay) || !slices.Contains(p.Writes, parity) {
						t.Errorf("Choose(%d, %v, %v) answers %v, %d: column %d can't be told, or is not written", n, write, lost, p, e, parity)
					}
				}
				for i, is := range write {
					if slices.Contains(p.Writes, i) != (is && !slices.Contains(lost, i)) {
						t.Errorf("Choose(%d, %v, %v) answers %v: column %d", n, write, lost, p, i)
					}
				}
			}
		}
	}
}

// P15.4: each column can be told from what Read reads for it, with up to two lost.
func TestWhatIsReadForOneIsEnough(t *testing.T) {
	for n := 2; n <= 8; n++ {
		for _, lost := range lists(n) {
			for role := range n + 2 {
				l, e := Read(n, role, lost)
				if e != api.OK || !tells(sums(n, l), of(n, role, anyColumn)) {
					t.Errorf("Read(%d, %d, %v) answers %v, %d", n, role, lost, l, e)
				}
			}
		}
	}
}

// behind is a list with something behind its end.
func behind[T any](l []T, more ...T) []T {
	return append(slices.Clone(l), more...)[:len(l)]
}

// R3: what is handed in is left as it was, also behind its end; and what stands there changes no answer.
func TestHandedInStays(t *testing.T) {
	for n := 2; n <= 8; n++ {
		for _, lost := range lists(n) {
			write := behind(writes(n, 0, n-1), true, false, true)
			gone := behind(lost, 0, 1, n, 99)
			way, read, written := modelChoose(n, write, lost)
			chooses(t, n, write, gone, way, read, written)
			for way := Full; way <= Whole; way++ {
				want, can := modelReads(n, write, lost, way)
				if cost, is := Cost(n, write, gone, way); cost != len(want) || is != can {
					t.Errorf("Cost(%d, %v, %v, %d) answers %d, %v", n, write, gone, way, cost, is)
				}
			}
			for role := range n + 2 {
				Read(n, role, gone)
			}
			if !slices.Equal(write[:n+3], append(writes(n, 0, n-1), true, false, true)) || !slices.Equal(gone[:len(lost)+4], append(slices.Clone(lost), 0, 1, n, 99)) {
				t.Errorf("n %d, lost %v: what is handed in is %v, %v", n, lost, write[:n+3], gone[:len(lost)+4])
			}
		}
	}
}

// R3: answers are new memory: who writes over one, or behind its end, changes no other, and nothing that is handed in.
func TestAnswersAreNew(t *testing.T) {
	spoil := func(l []int) {
		l = l[:cap(l)]
		for i := range l {
			l[i] = -7
		}
	}
	for n := 2; n <= 8; n++ {
		for _, lost := range lists(n) {
			gone, write := slices.Clone(lost), writes(n, 1)
			way, read, written := modelChoose(n, write, lost)
			p, _ := Choose(n, write, gone)
			spoil(p.Reads)
			if !slices.Equal(p.Writes, written) {
				t.Errorf("Choose(%d, %v, %v): Reads and Writes share memory", n, write, lost)
			}
			spoil(p.Writes)
			chooses(t, n, write, gone, way, read, written)
			for role := range n + 2 {
				l, _ := Read(n, role, gone)
				want := slices.Clone(l)
				spoil(l)
				reads(t, n, role, gone, want)
			}
			if !slices.Equal(gone, lost) || !slices.Equal(write, writes(n, 1)) {
				t.Errorf("n %d: %v, %v", n, gone, write)
			}
		}
	}
}

// R5: what is answered hangs on nothing that was asked ahead of it.
func TestOneAnswer(t *testing.T) {
	for n := 2; n <= 8; n++ {
		for _, lost := range lists(n) {
			one, e := Choose(n, writes(n, 0), lost)
			Choose(10-n, writes(10-n, 1), []int{0, 1, 2})
			Choose(9, writes(9), []int{3, 3})
			Cost(n, writes(n), lost, Rebuild)
			Read(n, n, []int{n})
			two, f := Choose(n, writes(n, 0), lost)
			if e != f || one.Way != two.Way || !slices.Equal(one.Reads, two.Reads) || !slices.Equal(one.Writes, two.Writes) {
				t.Errorf("n %d, lost %v: %v, %d and then %v, %d", n, lost, one, e, two, f)
			}
		}
	}
}

// R1: every call ends, at lists and numbers of any size.
func TestTotal(t *testing.T) {
	for _, n := range far() {
		for _, role := range far() {
			for _, lost := range [][]int{nil, far(), {role}, {role, n}, slices.Repeat([]int{n}, 500)} {
				for _, write := range [][]bool{nil, make([]bool, 2), writes(500, 7)} {
					Choose(n, write, lost)
					Cost(n, write, lost, role)
				}
				Read(n, role, lost)
			}
		}
	}
}
