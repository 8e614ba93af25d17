package row

import (
	"math"
	"slices"
	"strconv"
	"strings"
	"testing"

	"revetment/api"
	"revetment/drive"
)

// far are numbers near and far, of both signs; some have the same low bits as others.
func far() []int {
	return []int{math.MinInt, math.MinInt + 1, -1<<32 + 1, -1 << 32, -1 << 31, -65536, -257, -256, -255, -12, -11, -10, -6, -5, -4, -3, -2, -1, 0, 1, 2, 3, 4, 5, 6, 7, 8, 9, 10, 11, 12, 13, 16, 63, 64, 127, 128, 254, 255, 256, 257, 258, 260, 512, 1023, 1028, 4095, 4096, 65535, 65536, 65537, 1<<31 - 1, 1 << 31, 1 << 32, 1<<32 + 1, 1 << 62, 1<<62 + 1, 1 << 63 / 3, math.MaxInt - 1, math.MaxInt}
}

// beyond are those of them that are below 0, or not below n.
func beyond(n int) []int {
	return slices.DeleteFunc(far(), func(i int) bool { return 0 <= i && i < n })
}

// shapes are geometries: each number of columns, the least and the greatest of all, and more rows than columns, and fewer.
func shapes() []api.Geometry {
	return []api.Geometry{{Cols: 4, Chunk: 1, Rows: 1}, {Cols: 4, Chunk: 2, Rows: 9}, {Cols: 5, Chunk: 4, Rows: 5}, {Cols: 6, Chunk: 3, Rows: 13}, {Cols: 7, Chunk: 1, Rows: 8}, {Cols: 8, Chunk: 4, Rows: 3}, {Cols: 9, Chunk: 2, Rows: 10}, {Cols: 10, Chunk: 3, Rows: 21}, {Cols: 4, Chunk: 4, Rows: 256}, {Cols: 10, Chunk: 4, Rows: 256}}
}

// small are those with few rows.
func small() []api.Geometry {
	return slices.DeleteFunc(shapes(), func(g api.Geometry) bool { return g.Rows > 21 })
}

// needs is how many sectors each drive needs, as the chapters say it, without asking any layer.
func needs(g api.Geometry) int { return 4 + g.Rows*g.Chunk }

// columnOf is the column that has a role: P stands in the last one, with each row one further to the left, Q behind it, and the data columns go on from there, round.
func columnOf(g api.Geometry, row, role int) int {
	inP := g.Cols - 1 - row%g.Cols
	switch role {
	case g.Cols - 2:
		return inP
	case g.Cols - 1:
		return (inP + 1) % g.Cols
	}
	return (inP + 2 + role) % g.Cols
}

// roleOf is the role that a column has.
func roleOf(g api.Geometry, row, col int) int {
	for role := range g.Cols {
		if columnOf(g, row, role) == col {
			return role
		}
	}
	return -1
}

// sectorOf is which sector of a drive a place is.
func sectorOf(g api.Geometry, row, off int) int { return 4 + row*g.Chunk + off }

// full is a text, filled up to a sector.
func full(text string) string { return text + strings.Repeat(".", 64-len(text)) }

// text is what stands in a drive's sector ahead of all that is written.
func text(col, sector int) string {
	return full("column " + strconv.Itoa(col) + " sector " + strconv.Itoa(sector))
}

// holder is a drive of so many sectors, each with a text of its own, safe; no write waits.
func holder(col, sectors int) *drive.Drive {
	d := drive.New(sectors)
	for i := range sectors {
		d.Change(i, text(col, i))
	}
	return d
}

// bare is a set of a geometry, built as a whole, whose drives have as many sectors as they need.
func bare(g api.Geometry) Set {
	s := Set{Geo: g}
	for range g.Cols {
		s.Drives, s.Built = append(s.Drives, drive.New(needs(g))), append(s.Built, g.Rows)
	}
	return s
}

// plain is such a set whose sectors have each a text of its own.
func plain(g api.Geometry) Set {
	s := bare(g)
	for col := range s.Drives {
		s.Drives[col] = holder(col, needs(g))
	}
	return s
}

// with is a set with other columns: lists of its own, the same drives.
func with(s Set, change func(s Set)) Set {
	s.Drives, s.Built = slices.Clone(s.Drives), slices.Clone(s.Built)
	change(s)
	return s
}

func answers(t *testing.T, what string, got, want api.Errno) {
	t.Helper()
	if got != want {
		t.Fatalf("%s: the answer is %d, not %d", what, got, want)
	}
}

// may tells whether May answers just that.
func may(t *testing.T, what string, s Set, want bool) {
	t.Helper()
	if got := May(s); got != want {
		t.Fatalf("%s: May answers %v", what, got)
	}
}

// reads tells whether Read answers just that.
func reads(t *testing.T, s Set, row, off int, cols []string, lost []int, e api.Errno) {
	t.Helper()
	l, gone, f := Read(s, row, off)
	if !slices.Equal(l, cols) || !slices.Equal(gone, lost) || f != e {
		t.Fatalf("%v: Read of %d, %d answers\n%q, %v, %d, not\n%q, %v, %d", s.Geo, row, off, l, gone, f, cols, lost, e)
	}
}

// fills tells whether Filled answers just that.
func fills(t *testing.T, s Set, row, off int, cols []string, lost []int, e api.Errno) {
	t.Helper()
	l, gone, f := Filled(s, row, off)
	if !slices.Equal(l, cols) || !slices.Equal(gone, lost) || f != e {
		t.Fatalf("%v: Filled of %d, %d answers\n%q, %v, %d, not\n%q, %v, %d", s.Geo, row, off, l, gone, f, cols, lost, e)
	}
}

// tells tells whether Sector answers just that.
func tells(t *testing.T, s Set, row, off, i int, want string, e api.Errno) {
	t.Helper()
	if b, f := Sector(s, row, off, i); b != want || f != e {
		t.Fatalf("%v: Sector of %d, %d, %d answers %q, %d, not %q, %d", s.Geo, row, off, i, b, f, want, e)
	}
}

// misses tells whether Lost answers just that.
func misses(t *testing.T, s Set, row int, want []int, e api.Errno) {
	t.Helper()
	if l, f := Lost(s, row); !slices.Equal(l, want) || f != e {
		t.Fatalf("%v: Lost of %d answers %v, %d, not %v, %d", s.Geo, row, l, f, want, e)
	}
}

// refuses tells whether all calls answer ErrArg, whatever they are handed beside the set, and do nothing to the drives.
func refuses(t *testing.T, what string, s Set, row, off, role int) {
	t.Helper()
	e, waits := api.ErrArg, 0
	for _, d := range s.Drives {
		if d != nil && d.Sectors() > 0 {
			d.Write(0, full("waits"))
			d.Off(7)
			waits += d.Pending()
		}
	}
	reads(t, s, row, off, nil, nil, e)
	fills(t, s, row, off, nil, nil, e)
	tells(t, s, row, off, role, "", e)
	misses(t, s, row, nil, e)
	answers(t, what+": Write", Write(s, row, off, role, full("b")), e)
	answers(t, what+": Write", Write(s, row, off, role, "b"), e)
	answers(t, what+": Flush", Flush(s), e)
	for _, d := range s.Drives {
		if d != nil {
			waits -= d.Pending()
		}
	}
	if waits != 0 {
		t.Fatalf("%s: %d writes less wait than ahead", what, waits)
	}
}

// way in which a column is lost at a place: missing in its row, or one that can't be read there alone.
type way struct {
	name    string
	missing bool
	lose    func(s Set, row, off, col int)
}

// ways are all of them; of a drive whose power is gone, too, as nobody asks a missing one.
func ways() []way {
	built := func(n func(row int) int) func(s Set, row, off, col int) {
		return func(s Set, row, _, col int) { s.Built[col] = n(row) }
	}
	return []way{
		{"nil", true, func(s Set, _, _, col int) { s.Drives[col] = nil }},
		{"dead", true, func(s Set, _, _, col int) { s.Drives[col].Die() }},
		{"built up to it", true, built(func(row int) int { return row })},
		{"spoilt", false, func(s Set, row, off, col int) { s.Drives[col].Spoil(sectorOf(s.Geo, row, off)) }},
		{"not built", true, built(func(int) int { return 0 })},
		{"built below nothing", true, built(func(int) int { return -1 })},
		{"built least", true, built(func(int) int { return math.MinInt })},
		{"dead and off", true, func(s Set, _, _, col int) { s.Drives[col].Off(0); s.Drives[col].Die() }},
		{"not built and off", true, func(s Set, row, _, col int) { s.Drives[col].Off(0); s.Built[col] = row }},
		{"not built and spoilt", true, func(s Set, row, off, col int) {
			s.Drives[col].Spoil(sectorOf(s.Geo, row, off))
			s.Built[col] = row
		}},
		{"dead and not built", true, func(s Set, row, _, col int) { s.Drives[col].Die(); s.Built[col] = row }},
		{"nil and not built", true, func(s Set, row, _, col int) { s.Drives[col] = nil; s.Built[col] = row }},
	}
}

// choices are all choices of up to n of the columns.
func choices(cols, n int) [][]int {
	var out [][]int
	for bits := range 1 << cols {
		var l []int
		for col := range cols {
			if bits>>col&1 == 1 {
				l = append(l, col)
			}
		}
		if len(l) <= n {
			out = append(out, l)
		}
	}
	return out
}

// rolesOf are the roles of some columns, rising.
func rolesOf(g api.Geometry, row int, cols []int) []int {
	var out []int
	for _, col := range cols {
		out = append(out, roleOf(g, row, col))
	}
	slices.Sort(out)
	return out
}

// P16.1: a set may be whose geometry may be, with as many drives, and numbers of rows, as columns, none of the drives too small.
func TestMayOfAll(t *testing.T) {
	for cols := 4; cols <= 10; cols++ {
		for chunk := 1; chunk <= 4; chunk++ {
			for _, rows := range []int{1, 2, 3, 5, 16, 255, 256} {
				g := api.Geometry{Cols: cols, Chunk: chunk, Rows: rows}
				s := bare(g)
				may(t, "as many sectors as are needed", s, true)
				col := (rows + chunk) % cols
				s.Drives[col] = drive.New(needs(g) - 1)
				may(t, "one sector less", s, false)
				s.Drives[col] = drive.New(needs(g) + 1)
				may(t, "one sector more", s, true)
			}
		}
	}
}

// P16.1: a geometry that may not be, with as many drives as it has columns.
func TestMayOfGeometry(t *testing.T) {
	whole := api.Geometry{Cols: 5, Chunk: 2, Rows: 6}
	wrong := func(g api.Geometry) {
		t.Helper()
		s := Set{Geo: g}
		for range min(max(g.Cols, 0), 300) {
			s.Drives, s.Built = append(s.Drives, drive.New(4096)), append(s.Built, 1)
		}
		may(t, "a geometry that may not be", s, false)
		refuses(t, "a geometry that may not be", s, 0, 0, 0)
		s.Drives = make([]*drive.Drive, len(s.Built))
		may(t, "a geometry that may not be, without drives", s, false)
		refuses(t, "a geometry that may not be, without drives", s, 0, 0, 0)
	}
	for _, n := range far() {
		if n < 4 || n > 10 {
			wrong(api.Geometry{Cols: n, Chunk: whole.Chunk, Rows: whole.Rows})
		}
		if n < 1 || n > 4 {
			wrong(api.Geometry{Cols: whole.Cols, Chunk: n, Rows: whole.Rows})
		}
		if n < 1 || n > 256 {
			wrong(api.Geometry{Cols: whole.Cols, Chunk: whole.Chunk, Rows: n})
		}
	}
	wrong(api.Geometry{})
	may(t, "no set", Set{}, false)
	refuses(t, "no set", Set{}, 0, 0, 0)
}

// P16.1: drives, or numbers of rows, that are more than columns, or fewer.
func TestMayOfLists(t *testing.T) {
	for _, g := range small() {
		for _, n := range []int{0, 1, 2, 3, 4, 5, 6, 7, 8, 9, 10, 11, 12, 20, 256, 256 + g.Cols} {
			if n == g.Cols {
				continue
			}
			s, more := bare(g), make([]*drive.Drive, n)
			s.Drives = more
			may(t, "too many drives, or too few", s, false)
			refuses(t, "too many drives, or too few", s, 0, 0, 0)
			for i := range more {
				more[i] = drive.New(needs(g))
			}
			may(t, "too many drives, or too few", s, false)
			refuses(t, "too many drives, or too few", s, 0, 0, 0)
			s = bare(g)
			s.Built = slices.Repeat([]int{g.Rows}, n)
			may(t, "too many numbers, or too few", s, false)
			refuses(t, "too many numbers, or too few", s, 0, 0, 0)
			s.Drives = more
			may(t, "too many of both, or too few", s, false)
			refuses(t, "too many of both, or too few", s, 0, 0, 0)
		}
		s := bare(g)
		s.Drives = nil
		may(t, "no drives", s, false)
		s = bare(g)
		s.Built = nil
		may(t, "no numbers", s, false)
		refuses(t, "no numbers", s, 0, 0, 0)
	}
}

// P16.1: one drive that is too small, in whichever column, dead or without power, among others or none, built or not.
func TestMayOfSmallDrives(t *testing.T) {
	for _, g := range small() {
		for col := range g.Cols {
			for _, n := range []int{0, 1, 3, 4, needs(g) - 1} {
				for kind := range 5 {
					tiny := &drive.Drive{}
					if n > 0 {
						tiny = drive.New(n)
					}
					s := bare(g)
					if kind == 3 {
						s.Drives = make([]*drive.Drive, g.Cols)
					}
					s.Drives[col] = tiny
					switch kind {
					case 1:
						tiny.Die()
					case 2:
						tiny.Off(0)
					case 4:
						s.Built[col] = 0
					}
					may(t, "a drive that is too small", s, false)
					refuses(t, "a drive that is too small", s, 0, 0, 0)
				}
			}
		}
	}
}

// P16.1: what is no fault of a set: drives that are none, dead, without power, spoilt, greater ones, one that stands there twice, and whatever numbers of rows.
func TestMayOfAnyDrives(t *testing.T) {
	for _, g := range small() {
		may(t, "no drive", Set{g, make([]*drive.Drive, g.Cols), make([]int, g.Cols)}, true)
		for col := range g.Cols {
			for _, w := range ways() {
				s := bare(g)
				w.lose(s, 0, 0, col)
				may(t, w.name, s, true)
				for other := range g.Cols {
					w.lose(s, 0, 0, (col+other)%g.Cols)
					may(t, w.name, s, true)
					if s.Drives[other] == nil {
						s.Drives[other] = drive.New(4096)
					}
				}
			}
			s := bare(g)
			s.Drives[col].Off(0)
			may(t, "a drive without power", s, true)
			s.Drives[col] = drive.New(4096)
			may(t, "a great drive", s, true)
			s.Drives[col] = s.Drives[(col+1)%g.Cols]
			may(t, "a drive that is there twice", s, true)
			for _, n := range far() {
				s.Built[col] = n
				may(t, "built up to "+strconv.Itoa(n), s, true)
			}
		}
	}
}

// P16.1: whether a set may be is asked ahead of all else: of one that may not be all answers are ErrArg, also where row, place, role and text are none.
func TestWrongSetsComeFirst(t *testing.T) {
	g := api.Geometry{Cols: 5, Chunk: 2, Rows: 6}
	short := bare(g)
	short.Built = short.Built[:4]
	tiny := bare(g)
	tiny.Drives[4] = drive.New(15)
	few := bare(g)
	few.Drives = few.Drives[:4]
	flat := bare(g)
	flat.Geo.Rows = 0
	for _, s := range []Set{short, tiny, few, flat, {}} {
		for _, n := range far() {
			refuses(t, "a wrong set", s, n, 0, 0)
			refuses(t, "a wrong set", s, 0, n, 0)
			refuses(t, "a wrong set", s, 0, 0, n)
			refuses(t, "a wrong set", s, n, n, n)
		}
	}
	for _, lose := range []func(d *drive.Drive){(*drive.Drive).Die, func(d *drive.Drive) { d.Off(0) }} {
		for _, d := range tiny.Drives {
			lose(d)
		}
		reads(t, tiny, 0, 0, nil, nil, api.ErrArg)
		fills(t, tiny, 0, 0, nil, nil, api.ErrArg)
		tells(t, tiny, 0, 0, 0, "", api.ErrArg)
		misses(t, tiny, 0, nil, api.ErrArg)
		answers(t, "Write", Write(tiny, 0, 0, 0, full("b")), api.ErrArg)
		answers(t, "Flush", Flush(tiny), api.ErrArg)
	}
}

// P16.1: what is missing in a row: the column of a drive that is none, or dead, or is not built above the row.
func TestMissing(t *testing.T) {
	for _, g := range small() {
		for row := range g.Rows {
			for col := range g.Cols {
				gone := []int{roleOf(g, row, col)}
				for _, w := range ways() {
					s := plain(g)
					w.lose(s, row, g.Chunk-1, col)
					if w.missing {
						misses(t, s, row, gone, api.OK)
					} else {
						misses(t, s, row, nil, api.OK)
					}
				}
				for _, n := range append(far(), row-1, row, row+1, row+2, g.Rows-1, g.Rows) {
					s := bare(g)
					s.Built[col] = n
					if n > row {
						misses(t, s, row, nil, api.OK)
					} else {
						misses(t, s, row, gone, api.OK)
					}
				}
			}
		}
	}
}

// P16.1: nothing else makes a column missing: no power that is gone, no write that waits, no sector that is spoilt.
func TestNotMissing(t *testing.T) {
	for _, g := range small() {
		for row := range g.Rows {
			for col := range g.Cols {
				s := plain(g)
				for i := range needs(g) {
					s.Drives[col].Write(i, full("waits"))
					s.Drives[col].Spoil(i)
				}
				misses(t, s, row, nil, api.OK)
				for _, d := range s.Drives {
					d.Off(0)
				}
				misses(t, s, row, nil, api.OK)
			}
		}
	}
}

// P16.1: how far a column is built is looked up in its own row and its own column: others' do not matter.
func TestMissingRowByRow(t *testing.T) {
	for _, g := range small() {
		s := plain(g)
		for col := range g.Cols {
			s.Built[col] = col
		}
		for row := range g.Rows {
			var gone []int
			for role := range g.Cols {
				if columnOf(g, row, role) <= row {
					gone = append(gone, role)
				}
			}
			misses(t, s, row, gone, api.OK)
		}
	}
}

// P16.1: rows that are none, and places that are none, are ErrRange, also when nothing is lost, and when all is; the last ones are none of these.
func TestRange(t *testing.T) {
	for _, g := range shapes() {
		for _, s := range []Set{bare(g), {g, make([]*drive.Drive, g.Cols), make([]int, g.Cols)}} {
			for _, n := range append(beyond(g.Rows), g.Rows, g.Rows+1) {
				for _, off := range []int{0, g.Chunk - 1, n} {
					reads(t, s, n, off, nil, nil, api.ErrRange)
					fills(t, s, n, off, nil, nil, api.ErrRange)
					tells(t, s, n, off, 0, "", api.ErrRange)
					answers(t, "Write", Write(s, n, off, 0, full("b")), api.ErrRange)
				}
				misses(t, s, n, nil, api.ErrRange)
			}
			for _, n := range append(beyond(g.Chunk), g.Chunk) {
				for _, row := range []int{0, g.Rows - 1} {
					reads(t, s, row, n, nil, nil, api.ErrRange)
					fills(t, s, row, n, nil, nil, api.ErrRange)
					tells(t, s, row, n, 0, "", api.ErrRange)
					answers(t, "Write", Write(s, row, n, 0, full("b")), api.ErrRange)
				}
			}
		}
		for _, at := range [][2]int{{0, 0}, {g.Rows - 1, g.Chunk - 1}} {
			s := bare(g)
			cols := slices.Repeat([]string{strings.Repeat("\x00", 64)}, g.Cols)
			reads(t, s, at[0], at[1], cols, nil, api.OK)
			fills(t, s, at[0], at[1], cols, nil, api.OK)
			tells(t, s, at[0], at[1], g.Cols-3, cols[0], api.OK)
			misses(t, s, at[0], nil, api.OK)
			answers(t, "Write", Write(s, at[0], at[1], g.Cols-1, full("b")), api.OK)
		}
	}
}

// P16.1: a row, or a place, that is none is told ahead of what the drives would answer.
func TestRangeComesFirst(t *testing.T) {
	g := api.Geometry{Cols: 6, Chunk: 3, Rows: 4}
	for _, lose := range []func(d *drive.Drive){func(d *drive.Drive) { d.Off(0) }, (*drive.Drive).Die} {
		s := bare(g)
		for _, d := range s.Drives {
			lose(d)
		}
		for _, at := range [][2]int{{-1, 0}, {4, 0}, {0, -1}, {0, 3}, {4, 3}, {-1, -1}} {
			reads(t, s, at[0], at[1], nil, nil, api.ErrRange)
			fills(t, s, at[0], at[1], nil, nil, api.ErrRange)
			tells(t, s, at[0], at[1], 0, "", api.ErrRange)
			answers(t, "Write", Write(s, at[0], at[1], 0, full("b")), api.ErrRange)
			answers(t, "Write", Write(s, at[0], at[1], 0, "b"), api.ErrRange)
		}
		misses(t, s, 4, nil, api.ErrRange)
		misses(t, s, -1, nil, api.ErrRange)
	}
}
