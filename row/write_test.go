package row

import (
	"slices"
	"strings"
	"testing"

	"revetment/api"
	"revetment/drive"
)

// put writes a sector by its role, and tells whether that went well.
func put(t *testing.T, s Set, row, off, role int, b string) {
	t.Helper()
	answers(t, "Write", Write(s, row, off, role, b), api.OK)
}

// waiting tells whether just so many writes wait on each drive that there is.
func waiting(t *testing.T, s Set, want func(col int) int) {
	t.Helper()
	for col, d := range s.Drives {
		if d != nil && d.Pending() != want(col) {
			t.Fatalf("%v: on drive %d %d writes wait, not %d", s.Geo, col, d.Pending(), want(col))
		}
	}
}

// at tells of one column so many, and of the others none.
func at(col, n int) func(int) int {
	return func(other int) int {
		if other == col {
			return n
		}
		return 0
	}
}

// safe tells whether a drive has these bytes, safe.
func safe(t *testing.T, s Set, col, sector int, want string) {
	t.Helper()
	if b, e := s.Drives[col].Safe(sector); b != want || e != api.OK {
		t.Fatalf("%v: sector %d of drive %d is %q, %d, not %q", s.Geo, sector, col, b, e, want)
	}
}

// stands tells whether a plain set's drives have their own texts still, safe, but for one sector of one of them.
func stands(t *testing.T, s Set, col, sector int, b string) {
	t.Helper()
	for c, d := range s.Drives {
		for i := range d.Sectors() {
			if c == col && i == sector {
				safe(t, s, c, i, b)
			} else {
				safe(t, s, c, i, text(c, i))
			}
		}
	}
}

// P16.4: by hand: in row 0 of four columns the roles 0 to 3 stand in the columns 1, 2, 3 and 0; in row 1 in 0, 1, 2 and 3.
func TestWriteByHand(t *testing.T) {
	s := plain(api.Geometry{Cols: 4, Chunk: 2, Rows: 6})
	for _, c := range []struct{ row, off, role, col, sector int }{
		{0, 0, 0, 1, 4}, {0, 1, 1, 2, 5}, {0, 1, 2, 3, 5}, {0, 0, 3, 0, 4},
		{1, 1, 0, 0, 7}, {1, 0, 1, 1, 6}, {1, 1, 2, 2, 7}, {1, 1, 3, 3, 7},
		{5, 1, 0, 0, 15}, {4, 0, 3, 0, 12}, {3, 0, 2, 0, 10}, {2, 0, 0, 3, 8},
	} {
		put(t, s, c.row, c.off, c.role, full("new"))
		if b, e := s.Drives[c.col].Read(c.sector); b != full("new") || e != api.OK {
			t.Errorf("%v: drive %d has %q, %d", c, c.col, b, e)
		}
		answers(t, "Flush", Flush(s), api.OK)
		safe(t, s, c.col, c.sector, full("new"))
	}
}

// P16.4: a write goes to one sector of one drive, and waits there to be flushed; Flush makes it safe. Nothing else is another one by it.
func TestWriteOfAllPlaces(t *testing.T) {
	for _, g := range small() {
		s := plain(g)
		for row := range g.Rows {
			for role := range g.Cols {
				off := (row + role) % g.Chunk
				col, sector, b := columnOf(g, row, role), sectorOf(g, row, off), some(1, row+role)[0]
				put(t, s, row, off, role, b)
				waiting(t, s, at(col, 1))
				stands(t, s, -1, 0, "")
				want := texts(g, row, off)
				want[role] = b
				reads(t, s, row, off, want, nil, api.OK)
				answers(t, "Flush", Flush(s), api.OK)
				waiting(t, s, at(col, 0))
				stands(t, s, col, sector, b)
				s.Drives[col].Change(sector, text(col, sector))
			}
		}
	}
}

// P16.4: each place of great sets is written, and flushed all together.
func TestWriteOfGreatSets(t *testing.T) {
	for _, g := range shapes() {
		if g.Rows < 22 {
			continue
		}
		s := bare(g)
		of := func(row, off, role int) string { return text(row*10+role, off) }
		each := func(do func(row, off, role int)) {
			for row := range g.Rows {
				for off := range g.Chunk {
					for role := range g.Cols {
						do(row, off, role)
					}
				}
			}
		}
		each(func(row, off, role int) { put(t, s, row, off, role, of(row, off, role)) })
		waiting(t, s, func(int) int { return g.Rows * g.Chunk })
		answers(t, "Flush", Flush(s), api.OK)
		waiting(t, s, func(int) int { return 0 })
		each(func(row, off, role int) {
			safe(t, s, columnOf(g, row, role), sectorOf(g, row, off), of(row, off, role))
		})
	}
}

// P16.4: a column is written whatever Built is, also of drives that are dead or none beside it, and a sector that could not be read is then.
func TestWriteWhateverIsBuilt(t *testing.T) {
	for _, g := range small() {
		for row := range g.Rows {
			for role := range g.Cols {
				s, col := plain(g), columnOf(g, row, role)
				for _, n := range append(far(), row, row+1) {
					s.Built[col] = n
					put(t, s, row, 0, role, full("b"))
					if s.Built[col] != n {
						t.Fatalf("%v, row %d, role %d: it is built up to %d now", g, row, role, s.Built[col])
					}
				}
				waiting(t, s, at(col, len(far())+2))
				s.Built[col] = g.Rows
				for other := range g.Cols {
					if other%2 == 0 && other != col {
						s.Drives[other] = nil
					} else if other != col {
						s.Drives[other].Die()
					}
				}
				s.Drives[col].Spoil(sectorOf(g, row, 0))
				put(t, s, row, 0, role, full("c"))
				if b, e := s.Drives[col].Read(sectorOf(g, row, 0)); b != full("c") || e != api.OK {
					t.Fatalf("%v, row %d, role %d: %q, %d", g, row, role, b, e)
				}
			}
		}
	}
}

// P16.4: ErrDead, if the column's drive is none, or dead, also without power, or if the text is none; whatever is built.
func TestWriteDead(t *testing.T) {
	for _, g := range small() {
		for row := range g.Rows {
			for role := range g.Cols {
				col := columnOf(g, row, role)
				dead, off, none := plain(g), plain(g), plain(g)
				dead.Drives[col].Die()
				off.Drives[col].Off(0)
				off.Drives[col].Die()
				none.Drives[col] = nil
				for _, s := range []Set{dead, off, none} {
					for _, built := range []int{0, g.Rows} {
						s.Built[col] = built
						for _, b := range []string{full("b"), "", "b", full("b") + "b"} {
							answers(t, "Write", Write(s, row, g.Chunk-1, role, b), api.ErrDead)
						}
					}
					waiting(t, s, at(col, 0))
				}
			}
		}
	}
}

// P16.4: ErrOff, if the column's drive has no power, also if the text is none; others' power does not matter.
func TestWriteOff(t *testing.T) {
	for _, g := range small() {
		for row := range g.Rows {
			for role := range g.Cols {
				s, col := plain(g), columnOf(g, row, role)
				for other, d := range s.Drives {
					d.Off(0)
					if other == col {
						d.Off(2)
					}
				}
				put(t, s, row, 0, role, full("b"))
				answers(t, "Write", Write(s, row, 0, role, "b"), api.ErrArg)
				put(t, s, row, 0, role, full("c"))
				for _, b := range []string{full("b"), "", "b", full("b") + "b"} {
					answers(t, "Write", Write(s, row, 0, role, b), api.ErrOff)
				}
				waiting(t, s, at(col, 2))
			}
		}
	}
}

// P16.4: a text that has not just 64 bytes is ErrArg, and nothing is written; any 64 bytes may be.
func TestWriteOfTexts(t *testing.T) {
	g := api.Geometry{Cols: 5, Chunk: 2, Rows: 6}
	wrong := []string{strings.Repeat("\u00e9", 64), strings.Repeat("b", 256+64), strings.Repeat("b", 4096), strings.Repeat("b", 65536+64)}
	for n := range 200 {
		if n != 64 {
			wrong = append(wrong, strings.Repeat("b", n), strings.Repeat("\x00", n))
		}
	}
	for role := range g.Cols {
		s := plain(g)
		for _, b := range wrong {
			answers(t, "Write", Write(s, 3, 1, role, b), api.ErrArg)
		}
		waiting(t, s, at(0, 0))
		stands(t, s, -1, 0, "")
		for _, b := range append(some(5, role), strings.Repeat("\x00", 64), strings.Repeat("\xff", 64), strings.Repeat("\u00e9", 32)) {
			put(t, s, 3, 1, role, b)
			if got, _, _ := Read(s, 3, 1); got[role] != b {
				t.Errorf("role %d: %q was written, and %q is read", role, b, got[role])
			}
		}
	}
}

// P16.4: a role that is none is ErrRange, whatever the drives are, and the text; nothing is written.
func TestWriteOfNoRole(t *testing.T) {
	for _, g := range small() {
		off, dead := plain(g), plain(g)
		for col := range g.Cols {
			off.Drives[col].Off(0)
			dead.Drives[col].Die()
		}
		for _, s := range []Set{plain(g), {g, make([]*drive.Drive, g.Cols), make([]int, g.Cols)}, off, dead} {
			for _, role := range append(beyond(g.Cols), g.Cols, g.Cols+1, 2*g.Cols) {
				for _, b := range []string{full("b"), "b", ""} {
					answers(t, "Write", Write(s, 0, 0, role, b), api.ErrRange)
					answers(t, "Write", Write(s, g.Rows-1, g.Chunk-1, role, b), api.ErrRange)
				}
			}
			waiting(t, s, at(0, 0))
		}
	}
}

// P16.4: Flush flushes each drive that is neither nil nor dead, also one that is not built, or has nothing that waits; of the others it asks nothing.
func TestFlush(t *testing.T) {
	for _, g := range small() {
		for which, gone := range choices(g.Cols, g.Cols) {
			s := plain(g)
			for col, d := range s.Drives {
				d.Write(4, full("b"))
				d.Write(sectorOf(g, g.Rows-1, 0), full("c"))
				s.Built[col] = (col+which)%4 - 2
			}
			for k, col := range gone {
				switch (which + k) % 3 {
				case 0:
					s.Drives[col] = nil
				case 1:
					s.Drives[col].Off(0)
					fallthrough
				default:
					s.Drives[col].Die()
				}
			}
			answers(t, "Flush", Flush(s), api.OK)
			for col, d := range s.Drives {
				switch {
				case d == nil:
				case d.Dead():
					safe(t, s, col, 4, text(col, 4))
				default:
					safe(t, s, col, sectorOf(g, g.Rows-1, 0), full("c"))
				}
			}
			answers(t, "Flush", Flush(s), api.OK)
		}
	}
}

// P16.4: of each drive it takes one flush.
func TestFlushOnce(t *testing.T) {
	for _, g := range small() {
		s := plain(g)
		for _, d := range s.Drives {
			d.Off(3)
		}
		put(t, s, 0, 0, 0, full("b"))
		col := columnOf(g, 0, 0)
		answers(t, "Flush", Flush(s), api.OK)
		answers(t, "Flush", Flush(s), api.OK)
		for other, d := range s.Drives {
			if other == col {
				answers(t, "drive.Flush", d.Flush(), api.ErrOff)
			} else {
				answers(t, "drive.Flush", d.Flush(), api.OK)
				answers(t, "drive.Flush", d.Flush(), api.ErrOff)
			}
		}
		answers(t, "Flush", Flush(s), api.ErrOff)
	}
}

// P16.4: if drives have no power it is ErrOff, whichever they are, built or not; all others are flushed nevertheless.
func TestFlushOff(t *testing.T) {
	for _, g := range small() {
		for which, off := range choices(g.Cols, g.Cols)[1:] {
			s := plain(g)
			for _, d := range s.Drives {
				d.Write(4, full("b"))
			}
			for k, col := range off {
				s.Drives[col].Off(0)
				s.Built[col] = (which + k) % 2 * g.Rows
			}
			answers(t, "Flush", Flush(s), api.ErrOff)
			for col := range g.Cols {
				if slices.Contains(off, col) {
					safe(t, s, col, 4, text(col, 4))
				} else {
					safe(t, s, col, 4, full("b"))
				}
			}
			for _, col := range off {
				s.Drives[col].Crash([]uint8{0})
			}
			answers(t, "Flush", Flush(s), api.OK)
		}
	}
}

// written is a set whose rows are all written, each a good one, and flushed; and what stands in each place.
func written(t *testing.T, g api.Geometry) (Set, func(row, off int) []string) {
	t.Helper()
	s, all := bare(g), map[[2]int][]string{}
	for row := range g.Rows {
		for off := range g.Chunk {
			cols := made(g, row*g.Chunk+off)
			for role, b := range cols {
				put(t, s, row, off, role, b)
			}
			all[[2]int{row, off}] = cols
		}
	}
	answers(t, "Flush", Flush(s), api.OK)
	return s, func(row, off int) []string { return all[[2]int{row, off}] }
}

// holds tells whether each data column at a place is read as it was written.
func holds(t *testing.T, s Set, row, off int, want []string) {
	t.Helper()
	for i := range s.Geo.Cols - 2 {
		tells(t, s, row, off, i, want[i], api.OK)
	}
	l, _, e := Filled(s, row, off)
	if !slices.Equal(l, want) || e != api.OK {
		t.Fatalf("%v: Filled of %d, %d answers %q, %d, not %q", s.Geo, row, off, l, e, want)
	}
}

// P16.5: whichever two drives, or fewer, are gone, in all places each data column is read as it was written.
func TestWrittenIsRead(t *testing.T) {
	for _, g := range small()[:5] {
		s, of := written(t, g)
		for which, lost := range choices(g.Cols, 2) {
			less := with(s, func(s Set) {
				for k, col := range lost {
					if (which+k)%2 == 0 {
						s.Drives[col] = nil
					} else {
						s.Built[col] = 0
					}
				}
			})
			for row := range g.Rows {
				for off := range g.Chunk {
					holds(t, less, row, off, of(row, off))
				}
			}
		}
	}
}

// P16.5: two columns that are lost by any two ways, at one place.
func TestWrittenIsReadByAllWays(t *testing.T) {
	for _, g := range small() {
		want := made(g, 5)
		for i, one := range ways() {
			for k, other := range ways() {
				s, row, off := bare(g), i%g.Rows, k%g.Chunk
				for role, b := range want {
					put(t, s, row, off, role, b)
				}
				answers(t, "Flush", Flush(s), api.OK)
				a := (i + k) % g.Cols
				one.lose(s, row, off, a)
				other.lose(s, row, off, (a+1+k%(g.Cols-1))%g.Cols)
				holds(t, s, row, off, want)
			}
		}
	}
}

// P16.5: a good row that stands on its drives already, in whichever row and place, also of great sets.
func TestGoodRowIsRead(t *testing.T) {
	for _, g := range shapes() {
		s := bare(g)
		of := func(row, off int) []string { return made(g, row*g.Chunk+off) }
		for row := range g.Rows {
			for off := range g.Chunk {
				lay(t, s, row, off, of(row, off))
			}
		}
		s.Drives[g.Rows%g.Cols], s.Built[(g.Rows+g.Chunk)%g.Cols] = nil, g.Rows/2
		for row := range g.Rows {
			for off := range g.Chunk {
				holds(t, s, row, off, of(row, off))
			}
		}
	}
}

// P16.5: each place may lose two others; also behind a crash, as all was flushed.
func TestWrittenIsReadOfOtherColumns(t *testing.T) {
	for _, g := range small() {
		s, of := written(t, g)
		for _, d := range s.Drives {
			d.Crash(nil)
		}
		for row := range g.Rows {
			for off := range g.Chunk {
				a := (row*g.Chunk + off) % g.Cols
				b := (a + 1 + (row+off)%(g.Cols-1)) % g.Cols
				s.Drives[a].Spoil(sectorOf(g, row, off))
				s.Drives[b].Spoil(sectorOf(g, row, off))
			}
		}
		for row := range g.Rows {
			for off := range g.Chunk {
				holds(t, s, row, off, of(row, off))
			}
		}
	}
}

// P16.5: two new drives in place of old ones are written row by row, as they are told by the others; all is read as it was written at each step.
func TestWrittenIsReadWhileItIsBuilt(t *testing.T) {
	g := api.Geometry{Cols: 6, Chunk: 2, Rows: 7}
	s, of := written(t, g)
	for _, col := range []int{1, 4} {
		s.Drives[col], s.Built[col] = drive.New(needs(g)), 0
	}
	for row := range g.Rows {
		for off := range g.Chunk {
			cols, lost, e := Filled(s, row, off)
			answers(t, "Filled", e, api.OK)
			for _, role := range lost {
				put(t, s, row, off, role, cols[role])
			}
		}
		answers(t, "Flush", Flush(s), api.OK)
		s.Built[1], s.Built[4] = row+1, row+1
		for r := range g.Rows {
			holds(t, s, r, r%g.Chunk, of(r, r%g.Chunk))
		}
		misses(t, s, row, nil, api.OK)
	}
	s.Drives[0], s.Drives[5] = nil, nil
	for row := range g.Rows {
		holds(t, s, row, 1, of(row, 1))
	}
}

// P16.5: with more than two lost nothing is made up: what can be read is as it was written, what is lost is not told.
func TestNothingIsMadeUp(t *testing.T) {
	for _, g := range small() {
		want := made(g, 9)
		for which, lost := range choices(g.Cols, 4) {
			s, row := bare(g), which%g.Rows
			for role, b := range want {
				put(t, s, row, 0, role, b)
			}
			for k, col := range lost {
				ways()[(which+k)%len(ways())].lose(s, row, 0, col)
			}
			for i := range g.Cols - 2 {
				b, e := Sector(s, row, 0, i)
				switch gone := slices.Contains(lost, columnOf(g, row, i)); {
				case gone && len(lost) > 2 && (b != "" || e != api.ErrLost), (!gone || len(lost) <= 2) && (b != want[i] || e != api.OK):
					t.Fatalf("%v, lost %v: Sector of %d answers %q, %d", g, lost, i, b, e)
				}
			}
		}
	}
}
