package row

import (
	"slices"
	"strings"
	"testing"

	"revetment/api"
	"revetment/drive"
)

// times multiplies two numbers of the field, in which 0x11d is 0.
func times(a, b uint8) uint8 {
	var out uint8
	for ; b != 0; b >>= 1 {
		if b&1 == 1 {
			out ^= a
		}
		if a < 0x80 {
			a <<= 1
		} else {
			a = a<<1 ^ 0x1d
		}
	}
	return out
}

// both are one byte of P, and of Q, of the data columns' bytes, without asking any layer.
func both(data []uint8) (p, q uint8) {
	power := uint8(1)
	for _, b := range data {
		p ^= b
		q ^= times(power, b)
		power = times(power, 2)
	}
	return p, q
}

// found is one byte of each column of a row, the lost ones found by trying: with no more than two lost, as good as it can be.
func found(b []uint8, lost []int) []uint8 {
	n, out := len(b)-2, slices.Clone(b)
	gone := slices.DeleteFunc(slices.Clone(lost), func(role int) bool { return role >= n })
	fits := func() bool {
		p, q := both(out[:n])
		switch {
		case len(gone) == 2:
			return p == b[n] && q == b[n+1]
		case slices.Contains(lost, n):
			return q == b[n+1]
		}
		return p == b[n]
	}
	for v := range 256 {
		if len(gone) > 0 {
			out[gone[0]] = uint8(v)
		}
		if len(gone) == 2 {
			out[gone[1]] = 0
			p, _ := both(out[:n])
			out[gone[1]] = p ^ b[n]
		}
		if len(gone) == 0 || fits() {
			break
		}
	}
	p, q := both(out[:n])
	if slices.Contains(lost, n) {
		out[n] = p
	}
	if slices.Contains(lost, n+1) {
		out[n+1] = q
	}
	return out
}

// whole are a row's columns, those that are lost found by the others.
func whole(cols []string, lost []int) []string {
	out := make([][]byte, len(cols))
	for at := range 64 {
		b := make([]uint8, len(cols))
		for role, col := range cols {
			if !slices.Contains(lost, role) {
				b[role] = col[at]
			}
		}
		for role, v := range found(b, lost) {
			out[role] = append(out[role], v)
		}
	}
	var l []string
	for _, col := range out {
		l = append(l, string(col))
	}
	return l
}

// some are n sectors of bytes that look like any; another number tells others.
func some(n, which int) []string {
	c := chance(which)
	var out []string
	for range n {
		b := make([]byte, 64)
		for i := range b {
			b[i] = uint8(c.below(256))
		}
		out = append(out, string(b))
	}
	return out
}

// made is a good row of a geometry: its columns by their roles.
func made(g api.Geometry, which int) []string {
	return whole(append(some(g.Cols-2, which), "", ""), []int{g.Cols - 2, g.Cols - 1})
}

// lay lets these columns stand at a place, by their roles, safe.
func lay(t *testing.T, s Set, row, off int, cols []string) {
	t.Helper()
	for role, b := range cols {
		answers(t, "Change", s.Drives[columnOf(s.Geo, row, role)].Change(sectorOf(s.Geo, row, off), b), api.OK)
	}
}

// texts are the columns at a place of a plain set, by their roles.
func texts(g api.Geometry, row, off int) []string {
	var out []string
	for role := range g.Cols {
		out = append(out, text(columnOf(g, row, role), sectorOf(g, row, off)))
	}
	return out
}

// blank are columns of which some are empty.
func blank(cols []string, some []int) []string {
	out := slices.Clone(cols)
	for _, role := range some {
		out[role] = ""
	}
	return out
}

// upTo are the numbers 0 to n - 1.
func upTo(n int) []int {
	out := make([]int, n)
	for i := range out {
		out[i] = i
	}
	return out
}

// P16.2: by hand: in row 0 of four columns P stands in column 3, Q in 0, and the data columns in 1 and 2; in row 1 all stand one further to the left.
func TestReadByHand(t *testing.T) {
	s := plain(api.Geometry{Cols: 4, Chunk: 2, Rows: 6})
	reads(t, s, 0, 0, []string{text(1, 4), text(2, 4), text(3, 4), text(0, 4)}, nil, api.OK)
	reads(t, s, 0, 1, []string{text(1, 5), text(2, 5), text(3, 5), text(0, 5)}, nil, api.OK)
	reads(t, s, 1, 0, []string{text(0, 6), text(1, 6), text(2, 6), text(3, 6)}, nil, api.OK)
	reads(t, s, 2, 1, []string{text(3, 9), text(0, 9), text(1, 9), text(2, 9)}, nil, api.OK)
	reads(t, s, 3, 1, []string{text(2, 11), text(3, 11), text(0, 11), text(1, 11)}, nil, api.OK)
	reads(t, s, 4, 0, []string{text(1, 12), text(2, 12), text(3, 12), text(0, 12)}, nil, api.OK)
	s.Drives[2] = nil
	s.Built[0] = 3
	reads(t, s, 1, 0, []string{text(0, 6), text(1, 6), "", text(3, 6)}, []int{2}, api.OK)
	reads(t, s, 3, 1, []string{"", text(3, 11), "", text(1, 11)}, []int{0, 2}, api.OK)
	reads(t, s, 4, 0, []string{text(1, 12), "", text(3, 12), ""}, []int{1, 3}, api.OK)
	misses(t, s, 1, []int{2}, api.OK)
	misses(t, s, 3, []int{0, 2}, api.OK)
	misses(t, s, 4, []int{1, 3}, api.OK)
	s.Drives[1].Spoil(11)
	reads(t, s, 3, 1, []string{"", text(3, 11), "", ""}, []int{0, 2, 3}, api.OK)
	reads(t, s, 3, 0, []string{"", text(3, 10), "", text(1, 10)}, []int{0, 2}, api.OK)
	misses(t, s, 3, []int{0, 2}, api.OK)
}

// P16.2: the columns at each place of sets of all shapes, by their roles; also of drives that are greater than they have to be.
func TestReadOfAllPlaces(t *testing.T) {
	for _, g := range shapes() {
		s := plain(g)
		s.Drives[g.Cols-1] = holder(g.Cols-1, needs(g)+3)
		for row := range g.Rows {
			for off := range g.Chunk {
				reads(t, s, row, off, texts(g, row, off), nil, api.OK)
			}
			misses(t, s, row, nil, api.OK)
		}
	}
}

// P16.2: a sector is what drive.Read tells: what was written last, flushed or not.
func TestReadOfWaiting(t *testing.T) {
	for _, g := range small() {
		for col := range g.Cols {
			s := plain(g)
			row, off := g.Rows-1, g.Chunk-1
			want := texts(g, row, off)
			for _, b := range []string{full("first"), full("second")} {
				s.Drives[col].Write(sectorOf(g, row, off), b)
				want[roleOf(g, row, col)] = b
				reads(t, s, row, off, want, nil, api.OK)
			}
			s.Drives[col].Crash(nil)
			reads(t, s, row, off, texts(g, row, off), nil, api.OK)
		}
	}
}

// P16.2: whichever columns are lost, by whatever, however many: these are empty, and told, rising; others stand as they are.
func TestReadOfLost(t *testing.T) {
	l := ways()
	for _, g := range small() {
		for which, lost := range choices(g.Cols, g.Cols) {
			s := plain(g)
			row, off := which%g.Rows, which%g.Chunk
			var missing []int
			for k, col := range lost {
				w := l[(which+k)%len(l)]
				w.lose(s, row, off, col)
				if w.missing {
					missing = append(missing, col)
				}
			}
			gone := rolesOf(g, row, lost)
			reads(t, s, row, off, blank(texts(g, row, off), gone), gone, api.OK)
			misses(t, s, row, rolesOf(g, row, missing), api.OK)
		}
	}
}

// P16.2: one column that is lost, by each way, in each row; at another place of that row, or in another row, it is so only if it is missing there.
func TestReadOfOneLost(t *testing.T) {
	for _, g := range small() {
		for row := range g.Rows {
			for col := range g.Cols {
				for _, w := range ways() {
					s := plain(g)
					w.lose(s, row, 0, col)
					gone := []int{roleOf(g, row, col)}
					reads(t, s, row, 0, blank(texts(g, row, 0), gone), gone, api.OK)
					if g.Chunk > 1 && w.missing {
						reads(t, s, row, g.Chunk-1, blank(texts(g, row, g.Chunk-1), gone), gone, api.OK)
					} else if g.Chunk > 1 {
						reads(t, s, row, g.Chunk-1, texts(g, row, g.Chunk-1), nil, api.OK)
					}
				}
				if row > 0 {
					s := plain(g)
					s.Built[col] = row
					s.Drives[col].Spoil(sectorOf(g, row, 0))
					reads(t, s, row-1, 0, texts(g, row-1, 0), nil, api.OK)
					misses(t, s, row-1, nil, api.OK)
				}
			}
		}
	}
}

// P16.2: the chapter's example: with no drive at all there are as many empty texts, and all are lost.
func TestReadOfNothing(t *testing.T) {
	for _, g := range shapes() {
		s := Set{g, make([]*drive.Drive, g.Cols), slices.Repeat([]int{g.Rows}, g.Cols)}
		for _, row := range []int{0, g.Rows / 2, g.Rows - 1} {
			reads(t, s, row, g.Chunk-1, make([]string, g.Cols), upTo(g.Cols), api.OK)
			misses(t, s, row, upTo(g.Cols), api.OK)
		}
	}
}

// P16.2: ErrOff, with nothing else, if one drive that is not missing has no power, wherever it stands, and however many of the others are lost; Lost asks no drive for its power.
func TestReadOff(t *testing.T) {
	l := ways()
	for _, g := range small() {
		for row := range g.Rows {
			for col := range g.Cols {
				for _, others := range []int{0, 1, 2, 3, g.Cols - 1} {
					s := plain(g)
					s.Drives[col].Off(0)
					var gone []int
					for k := range others {
						other := (col + 1 + k) % g.Cols
						w := l[(row+col+k)%len(l)]
						w.lose(s, row, 0, other)
						if w.missing {
							gone = append(gone, other)
						}
					}
					reads(t, s, row, 0, nil, nil, api.ErrOff)
					fills(t, s, row, 0, nil, nil, api.ErrOff)
					misses(t, s, row, rolesOf(g, row, gone), api.OK)
				}
			}
		}
	}
}

// P16.2: a drive without power that is missing is not asked: it is ErrOff in those rows alone up to which it is built.
func TestReadOffRowByRow(t *testing.T) {
	for _, g := range small() {
		for col := range g.Cols {
			s := plain(g)
			s.Built[col] = g.Rows / 2
			s.Drives[col].Off(0)
			for row := range g.Rows {
				gone := []int{roleOf(g, row, col)}
				if row < g.Rows/2 {
					reads(t, s, row, 0, nil, nil, api.ErrOff)
					misses(t, s, row, nil, api.OK)
				} else {
					reads(t, s, row, 0, blank(texts(g, row, 0), gone), gone, api.OK)
					misses(t, s, row, gone, api.OK)
				}
			}
		}
	}
}

// P16.2: a drive whose power has not gone yet is read, and reading takes nothing from it.
func TestReadTakesNoPower(t *testing.T) {
	g := api.Geometry{Cols: 5, Chunk: 2, Rows: 3}
	s := plain(g)
	for _, d := range s.Drives {
		d.Off(1)
	}
	for range 5 {
		reads(t, s, 2, 1, texts(g, 2, 1), nil, api.OK)
		fills(t, s, 2, 1, texts(g, 2, 1), nil, api.OK)
		tells(t, s, 2, 1, 2, texts(g, 2, 1)[2], api.OK)
		misses(t, s, 2, nil, api.OK)
	}
	for _, d := range s.Drives {
		answers(t, "drive.Flush", d.Flush(), api.OK)
		answers(t, "drive.Flush", d.Flush(), api.ErrOff)
	}
}

// P16.3: a row by hand: of the data columns 01 and 01 P is 00, and Q 03; of 05 and 07 P is 02, and Q 05 and twice 07, 0b.
func TestFilledByHand(t *testing.T) {
	g := api.Geometry{Cols: 4, Chunk: 1, Rows: 2}
	of := func(b string) string { return strings.Repeat(b, 64) }
	for _, want := range [][]string{{of("\x01"), of("\x01"), of("\x00"), of("\x03")}, {of("\x05"), of("\x07"), of("\x02"), of("\x0b")}} {
		for row := range 2 {
			for _, lost := range choices(4, 2) {
				s := bare(g)
				lay(t, s, row, 0, want)
				for _, col := range lost {
					s.Drives[col].Die()
				}
				fills(t, s, row, 0, want, rolesOf(g, row, lost), api.OK)
				tells(t, s, row, 0, 0, want[0], api.OK)
				tells(t, s, row, 0, 1, want[1], api.OK)
			}
		}
	}
}

// P16.3: whichever columns of a good row are lost, up to two, by whatever: all are told, and which were lost, rising.
func TestFilledOfLost(t *testing.T) {
	l := ways()
	for _, g := range small() {
		for which, lost := range choices(g.Cols, 2) {
			for row := range g.Rows {
				s, off := plain(g), (which+row)%g.Chunk
				want := made(g, which)
				lay(t, s, row, off, want)
				for k, col := range lost {
					l[(which+row+5*k)%len(l)].lose(s, row, off, col)
				}
				fills(t, s, row, off, want, rolesOf(g, row, lost), api.OK)
			}
		}
	}
}

// P16.3: a column that is built up to some row is told by the others from that row on, and by itself ahead of it.
func TestFilledRowByRow(t *testing.T) {
	for _, g := range small() {
		for built := range g.Rows + 1 {
			s, cols, col := bare(g), some(g.Cols, built), built%g.Cols
			for row := range g.Rows {
				lay(t, s, row, 0, cols)
			}
			s.Built[col] = built
			for row := range g.Rows {
				role, want := roleOf(g, row, col), cols
				if row < built {
					fills(t, s, row, 0, cols, nil, api.OK)
				} else {
					want = whole(cols, []int{role})
					fills(t, s, row, 0, want, []int{role}, api.OK)
				}
				for i := range g.Cols - 2 {
					tells(t, s, row, 0, i, want[i], api.OK)
				}
			}
		}
	}
}

// P16.3: each place of great sets.
func TestFilledOfAllPlaces(t *testing.T) {
	for _, g := range shapes() {
		s := plain(g)
		for row := range g.Rows {
			for off := range g.Chunk {
				want, i := texts(g, row, off), (row+off)%(g.Cols-2)
				fills(t, s, row, off, want, nil, api.OK)
				tells(t, s, row, off, i, want[i], api.OK)
			}
		}
	}
}

// P16.3: what is lost of a row that is not good is told as the chapter of refill tells it: one data column by P, P and Q by the data columns; with nothing lost it stands as it is.
func TestFilledOfBadRows(t *testing.T) {
	for _, g := range small() {
		for which, lost := range choices(g.Cols, 2) {
			s, row, off := plain(g), which%g.Rows, which%g.Chunk
			cols := some(g.Cols, which)
			lay(t, s, row, off, cols)
			for _, col := range lost {
				s.Drives[col] = nil
			}
			roles := rolesOf(g, row, lost)
			fills(t, s, row, off, whole(cols, roles), roles, api.OK)
		}
	}
}

// P16.3: if more than two are lost, whichever, by whatever, it is ErrLost, and nothing is told.
func TestFilledOfTooManyLost(t *testing.T) {
	l := ways()
	for _, g := range small() {
		for which, lost := range choices(g.Cols, g.Cols) {
			if len(lost) < 3 {
				continue
			}
			s, row, off := plain(g), which%g.Rows, which%g.Chunk
			lay(t, s, row, off, made(g, which))
			for k, col := range lost {
				l[(which+k)%len(l)].lose(s, row, off, col)
			}
			fills(t, s, row, off, nil, nil, api.ErrLost)
		}
	}
}

// P16.3: a data column that can be read is told as its drive reads it, however many others are lost, or without power, and also if the row is not good.
func TestSectorByItself(t *testing.T) {
	l := ways()
	for _, g := range small() {
		for row := range g.Rows {
			for i := range g.Cols - 2 {
				s, off := plain(g), (row+i)%g.Chunk
				col := columnOf(g, row, i)
				want := text(col, sectorOf(g, row, off))
				tells(t, s, row, off, i, want, api.OK)
				for k := range g.Cols - 1 {
					other := (col + 1 + k) % g.Cols
					if k%2 == 0 {
						s.Drives[other].Off(0)
					} else {
						l[(row+i+k)%len(l)].lose(s, row, off, other)
					}
					tells(t, s, row, off, i, want, api.OK)
				}
				s.Drives[col].Write(sectorOf(g, row, off), full("waits"))
				tells(t, s, row, off, i, full("waits"), api.OK)
			}
		}
	}
}

// P16.3: a data column that is lost is told by the others, as long as at most one of these is lost too, and is as Filled tells it.
func TestSectorByOthers(t *testing.T) {
	for _, g := range small() {
		for at, w := range ways() {
			for i := range g.Cols - 2 {
				row, off := (at+i)%g.Rows, at%g.Chunk
				col := columnOf(g, row, i)
				for k := range g.Cols - 1 {
					other := (col + 1 + k) % g.Cols
					s, want := plain(g), made(g, at)
					lay(t, s, row, off, want)
					w.lose(s, row, off, col)
					ways()[(at+other)%len(ways())].lose(s, row, off, other)
					tells(t, s, row, off, i, want[i], api.OK)
				}
				s, cols := plain(g), some(g.Cols, at)
				lay(t, s, row, off, cols)
				w.lose(s, row, off, col)
				tells(t, s, row, off, i, whole(cols, []int{i})[i], api.OK)
			}
		}
	}
}

// P16.3: a data column that is lost, with more than one of the others, is ErrLost; others of that row are read.
func TestSectorOfTooManyLost(t *testing.T) {
	l := ways()
	for _, g := range small() {
		for which, lost := range choices(g.Cols, g.Cols) {
			if len(lost) < 3 {
				continue
			}
			s, row, off := plain(g), which%g.Rows, which%g.Chunk
			want := made(g, which)
			lay(t, s, row, off, want)
			for k, col := range lost {
				l[(which+3*k)%len(l)].lose(s, row, off, col)
			}
			for i := range g.Cols - 2 {
				if slices.Contains(lost, columnOf(g, row, i)) {
					tells(t, s, row, off, i, "", api.ErrLost)
				} else {
					tells(t, s, row, off, i, want[i], api.OK)
				}
			}
		}
	}
}

// P16.3: ErrOff, if the column's own drive has no power, also if more than two others are lost; and behind a column that is lost, if one of the others that are not missing has none: ahead of ErrLost.
func TestSectorOff(t *testing.T) {
	l := ways()
	for _, g := range small() {
		for row := range g.Rows {
			for i := range g.Cols - 2 {
				off, col := row%g.Chunk, columnOf(g, row, i)
				s := plain(g)
				s.Drives[col].Off(0)
				tells(t, s, row, off, i, "", api.ErrOff)
				for k := range g.Cols - 1 {
					l[(row+i+k)%len(l)].lose(s, row, off, (col+1+k)%g.Cols)
					tells(t, s, row, off, i, "", api.ErrOff)
				}
				for k, w := range l {
					other := (col + 1 + k%(g.Cols-1)) % g.Cols
					s := plain(g)
					w.lose(s, row, off, col)
					s.Drives[other].Off(0)
					tells(t, s, row, off, i, "", api.ErrOff)
					for j := range g.Cols {
						if j != col && j != other {
							s.Drives[j] = nil
						}
					}
					tells(t, s, row, off, i, "", api.ErrOff)
					fills(t, s, row, off, nil, nil, api.ErrOff)
				}
			}
		}
	}
}

// P16.3: what is no data column is ErrRange: P, Q, and all that is no role, whatever is lost.
func TestSectorOfNoDataColumn(t *testing.T) {
	for _, g := range small() {
		off := plain(g)
		for _, d := range off.Drives {
			d.Off(0)
		}
		for _, s := range []Set{plain(g), {g, make([]*drive.Drive, g.Cols), make([]int, g.Cols)}, off} {
			for _, i := range append(beyond(g.Cols-2), g.Cols-2, g.Cols-1, g.Cols) {
				tells(t, s, 0, 0, i, "", api.ErrRange)
				tells(t, s, g.Rows-1, g.Chunk-1, i, "", api.ErrRange)
			}
		}
	}
}

// P16.3: reading a row, and telling what is lost of it, writes nothing: what was lost stays so.
func TestFilledWritesNothing(t *testing.T) {
	for _, g := range small() {
		s, want := plain(g), made(g, 3)
		lay(t, s, 0, 0, want)
		s.Built[0] = 0
		s.Drives[1].Spoil(sectorOf(g, 0, 0))
		for _, d := range s.Drives {
			d.Write(3, full("waits"))
		}
		gone := rolesOf(g, 0, []int{0, 1})
		for range 3 {
			fills(t, s, 0, 0, want, gone, api.OK)
			tells(t, s, 0, 0, 0, want[0], api.OK)
			reads(t, s, 0, 0, blank(want, gone), gone, api.OK)
		}
		for _, d := range s.Drives {
			if d.Pending() != 1 {
				t.Fatalf("%v: %d writes wait, not 1", g, d.Pending())
			}
		}
		if s.Built[0] != 0 {
			t.Fatalf("%v: it is built up to %d", g, s.Built[0])
		}
	}
}
