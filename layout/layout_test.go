package layout

import (
	"math"
	"slices"
	"testing"

	"revetment/api"
)

// geo is a geometry of columns, chunk and rows.
func geo(cols, chunk, rows int) api.Geometry {
	return api.Geometry{Cols: cols, Chunk: chunk, Rows: rows}
}

// shapes tells geometries of all columns and chunks, with few rows, with more than there are columns, and with the most.
func shapes() []api.Geometry {
	out := []api.Geometry{}
	for cols := 4; cols <= 10; cols++ {
		for chunk := 1; chunk <= 4; chunk++ {
			for _, rows := range []int{1, 2, 3, 4, 5, 9, 10, 11, 23, 255, 256} {
				out = append(out, geo(cols, chunk, rows))
			}
		}
	}
	return out
}

// wrong tells geometries that may not be: each number beside its bounds, and far off, the others good or not.
func wrong() []api.Geometry {
	out := []api.Geometry{{}, geo(-5, -2, -6), geo(3, 0, 0), geo(11, 5, 257), geo(math.MinInt, math.MinInt, math.MinInt), geo(math.MaxInt, math.MaxInt, math.MaxInt)}
	for _, n := range []int{math.MinInt, math.MinInt + 1, -4, -1, 0, 1, 2, 3, 11, 12, 1 << 32, math.MaxInt - 1, math.MaxInt} {
		out = append(out, geo(n, 2, 6))
	}
	for _, n := range []int{math.MinInt, math.MinInt + 1, -1, 0, 5, 6, 1 << 32, math.MaxInt - 1, math.MaxInt} {
		out = append(out, geo(5, n, 6))
	}
	for _, n := range []int{math.MinInt, math.MinInt + 1, -1, 0, 257, 258, 1 << 32, math.MaxInt - 1, math.MaxInt} {
		out = append(out, geo(5, 2, n))
	}
	return out
}

// outside tells numbers that are not 0 to count-1: beside these bounds, far off, and such as wrap round when they are multiplied.
func outside(count int) []int {
	return []int{-1, -2, -count, math.MinInt, math.MinInt + 1, math.MinInt / 2, -1 << 32, count, count + 1, 2 * count, 1 << 32, 1 << 61, 1 << 62, math.MaxInt - 1, math.MaxInt}
}

// stand is a sector's place, as Find tells it.
type stand struct{ row, i, off int }

// stands tells where sectors stand, in their order, by going through rows, data columns and chunks.
func stands(g api.Geometry) []stand {
	out := []stand{}
	for row := range g.Rows {
		for i := range g.Cols - 2 {
			for off := range g.Chunk {
				out = append(out, stand{row, i, off})
			}
		}
	}
	return out
}

// walked is in which column a column's neighbour is, so many steps to the right (or to the left, below 0), round.
func walked(cols, from, steps int) int {
	for ; steps > 0; steps-- {
		if from++; from == cols {
			from = 0
		}
	}
	for ; steps < 0; steps++ {
		if from--; from < 0 {
			from = cols - 1
		}
	}
	return from
}

// roles tells the columns of a row by their roles: the data columns, P, Q. They begin at Cols-1 with P, and go one to the left with each row.
func roles(cols, row int) []int {
	p := walked(cols, cols-1, -row)
	out := []int{}
	for i := range cols - 2 {
		out = append(out, walked(cols, p, 2+i))
	}
	return append(out, p, walked(cols, p, 1))
}

// P7.1: each number's bounds.
func TestCheckByHand(t *testing.T) {
	for _, g := range []api.Geometry{geo(4, 1, 1), geo(10, 4, 256), geo(4, 4, 256), geo(10, 1, 256), geo(10, 4, 1), geo(5, 2, 6), geo(7, 3, 100)} {
		if e := Check(g); e != api.OK {
			t.Errorf("Check(%v) = %d", g, e)
		}
	}
	for _, g := range wrong() {
		if e := Check(g); e != api.ErrArg {
			t.Errorf("Check(%v) = %d", g, e)
		}
	}
}

// P7.1: each number within its bounds, and around them.
func TestCheckOfAllAroundTheBounds(t *testing.T) {
	for cols := -2; cols <= 14; cols++ {
		for chunk := -2; chunk <= 8; chunk++ {
			for rows := -2; rows <= 260; rows++ {
				want := api.ErrArg
				if cols >= 4 && cols <= 10 && chunk >= 1 && chunk <= 4 && rows >= 1 && rows <= 256 {
					want = api.OK
				}
				if e := Check(geo(cols, chunk, rows)); e != want {
					t.Fatalf("%d columns, chunk %d, %d rows: %d, not %d", cols, chunk, rows, e, want)
				}
			}
		}
	}
}

// P7.1: by hand.
func TestSizeAndNeedByHand(t *testing.T) {
	for _, c := range []struct {
		g          api.Geometry
		size, need int
	}{
		{geo(4, 1, 1), 2, 5},
		{geo(5, 2, 6), 36, 16},
		{geo(10, 4, 256), 8192, 1028},
		{geo(10, 1, 1), 8, 5},
		{geo(4, 4, 1), 8, 8},
		{geo(4, 1, 256), 512, 260},
		{geo(6, 3, 10), 120, 34},
	} {
		if size, need := Size(c.g), Need(c.g); size != c.size || need != c.need {
			t.Errorf("%v: Size %d, not %d; Need %d, not %d", c.g, size, c.size, need, c.need)
		}
	}
}

// P7.1: as many as are counted.
func TestSizeAndNeedOfAllShapes(t *testing.T) {
	for _, g := range shapes() {
		if size, want := Size(g), len(stands(g)); size != want {
			t.Errorf("Size(%v) = %d, not %d", g, size, want)
		}
		want := 4
		for range g.Rows {
			want += g.Chunk
		}
		if need := Need(g); need != want {
			t.Errorf("Need(%v) = %d, not %d", g, need, want)
		}
	}
}

// P7.1: by hand, with each edge.
func TestRowsByHand(t *testing.T) {
	for _, c := range []struct{ sectors, chunk, want int }{
		{4, 1, 0}, {5, 1, 1}, {6, 1, 2}, {259, 1, 255}, {260, 1, 256}, {261, 1, 256},
		{5, 2, 0}, {6, 2, 1}, {7, 2, 1}, {8, 2, 2}, {515, 2, 255}, {516, 2, 256}, {517, 2, 256},
		{6, 3, 0}, {7, 3, 1}, {9, 3, 1}, {10, 3, 2},
		{7, 4, 0}, {8, 4, 1}, {11, 4, 1}, {12, 4, 2}, {1027, 4, 255}, {1028, 4, 256}, {1032, 4, 256}, {10000, 4, 256}, {4096, 4, 256},
		{3, 1, 0}, {3, 4, 0}, {2, 2, 0}, {0, 1, 0}, {-1, 1, 0}, {-5, 1, 0}, {-5, 4, 0}, {-10000, 3, 0},
		{math.MinInt, 1, 0}, {math.MinInt + 3, 1, 0}, {math.MinInt + 4, 4, 0}, {math.MinInt, 4, 0},
		{math.MaxInt, 1, 256}, {math.MaxInt, 4, 256}, {math.MaxInt - 1, 3, 256},
		{50, 0, 0}, {50, 5, 0}, {50, 6, 0}, {50, -1, 0}, {50, -2, 0}, {-50, -2, 0}, {-50, 0, 0}, {4, 0, 0}, {math.MaxInt, 5, 0},
		{50, math.MinInt, 0}, {50, math.MaxInt, 0}, {math.MinInt, -1, 0}, {math.MinInt, math.MinInt, 0}, {math.MaxInt, math.MaxInt, 0},
	} {
		if got := Rows(c.sectors, c.chunk); got != c.want {
			t.Errorf("Rows(%d, %d) = %d, not %d", c.sectors, c.chunk, got, c.want)
		}
	}
}

// P7.1: as many rows as are laid, one by one, on so many sectors.
func TestRowsOfAllSizes(t *testing.T) {
	for chunk := -2; chunk <= 7; chunk++ {
		for sectors := -20; sectors <= 4200; sectors++ {
			want := 0
			for chunk >= 1 && chunk <= 4 && want < 256 && 4+(want+1)*chunk <= sectors {
				want++
			}
			if got := Rows(sectors, chunk); got != want {
				t.Fatalf("Rows(%d, %d) = %d, not %d", sectors, chunk, got, want)
			}
		}
	}
}

// P7.1: on a drive that has what is needed there is room for just these rows.
func TestRowsFitWhatIsNeeded(t *testing.T) {
	for _, g := range shapes() {
		if got := Rows(Need(g), g.Chunk); got != g.Rows {
			t.Errorf("%v: room for %d", g, got)
		}
		if got := Rows(Need(g)-1, g.Chunk); got != g.Rows-1 {
			t.Errorf("%v: on a sector less, room for %d", g, got)
		}
	}
}

// P7.1: of a geometry that is not OK all are 0s, and ErrArg, also where something else is wrong too.
func TestWrongGeometryTellsNothing(t *testing.T) {
	numbers := append([]int{0, 1, 2, 3, 4, 5, 35, 36}, outside(6)...)
	for _, g := range wrong() {
		if size, need := Size(g), Need(g); size != 0 || need != 0 {
			t.Errorf("%v: Size %d, Need %d", g, size, need)
		}
		for _, a := range numbers {
			if p, q := Parity(g, a); p != 0 || q != 0 {
				t.Fatalf("Parity(%v, %d) = %d, %d", g, a, p, q)
			}
			if row, i, off, e := Find(g, a); row != 0 || i != 0 || off != 0 || e != api.ErrArg {
				t.Fatalf("Find(%v, %d) = %d, %d, %d, %d", g, a, row, i, off, e)
			}
			for _, b := range numbers {
				if col, role, sector := Column(g, a, b), Role(g, a, b), Sector(g, a, b); col != 0 || role != 0 || sector != 0 {
					t.Fatalf("%v, %d, %d: Column %d, Role %d, Sector %d", g, a, b, col, role, sector)
				}
				for _, off := range numbers {
					if sector, e := Back(g, a, b, off); sector != 0 || e != api.ErrArg {
						t.Fatalf("Back(%v, %d, %d, %d) = %d, %d", g, a, b, off, sector, e)
					}
				}
			}
		}
	}
}

// P7.2: by hand.
func TestParityByHand(t *testing.T) {
	for _, c := range []struct{ cols, row, p, q int }{
		{4, 0, 3, 0}, {4, 1, 2, 3}, {4, 2, 1, 2}, {4, 3, 0, 1}, {4, 4, 3, 0}, {4, 255, 0, 1},
		{5, 0, 4, 0}, {5, 1, 3, 4}, {5, 2, 2, 3}, {5, 3, 1, 2}, {5, 4, 0, 1}, {5, 5, 4, 0}, {5, 9, 0, 1}, {5, 255, 4, 0},
		{10, 0, 9, 0}, {10, 1, 8, 9}, {10, 9, 0, 1}, {10, 10, 9, 0}, {10, 255, 4, 5},
	} {
		for chunk := 1; chunk <= 4; chunk++ {
			if p, q := Parity(geo(c.cols, chunk, 256), c.row); p != c.p || q != c.q {
				t.Errorf("%d columns, row %d: %d, %d, not %d, %d", c.cols, c.row, p, q, c.p, c.q)
			}
		}
	}
}

// P7.2: by hand, each column of some rows.
func TestColumnAndRoleByHand(t *testing.T) {
	for _, c := range []struct {
		cols, row int
		cells     []int // the columns, by their roles
	}{
		{4, 0, []int{1, 2, 3, 0}},
		{4, 1, []int{0, 1, 2, 3}},
		{4, 2, []int{3, 0, 1, 2}},
		{4, 3, []int{2, 3, 0, 1}},
		{4, 4, []int{1, 2, 3, 0}},
		{5, 0, []int{1, 2, 3, 4, 0}},
		{5, 1, []int{0, 1, 2, 3, 4}},
		{5, 4, []int{2, 3, 4, 0, 1}},
		{10, 0, []int{1, 2, 3, 4, 5, 6, 7, 8, 9, 0}},
		{10, 7, []int{4, 5, 6, 7, 8, 9, 0, 1, 2, 3}},
		{10, 9, []int{2, 3, 4, 5, 6, 7, 8, 9, 0, 1}},
	} {
		g := geo(c.cols, 3, 12)
		for role, col := range c.cells {
			if got := Role(g, c.row, col); got != role {
				t.Errorf("%d columns, row %d: the role of %d is %d, not %d", c.cols, c.row, col, got, role)
			}
			if role >= c.cols-2 {
				continue
			}
			if got := Column(g, c.row, role); got != col {
				t.Errorf("%d columns, row %d: data column %d is in %d, not %d", c.cols, c.row, role, got, col)
			}
		}
	}
}

// P7.2: all rows of all shapes, as they are walked.
func TestRolesOfAllShapes(t *testing.T) {
	for _, g := range shapes() {
		for row := range g.Rows {
			want := roles(g.Cols, row)
			if p, q := Parity(g, row); p != want[g.Cols-2] || q != want[g.Cols-1] {
				t.Fatalf("Parity(%v, %d) = %d, %d, not %v", g, row, p, q, want)
			}
			for role, col := range want {
				if got := Role(g, row, col); got != role {
					t.Fatalf("Role(%v, %d, %d) = %d, not %d", g, row, col, got, role)
				}
				if role < g.Cols-2 && Column(g, row, role) != col {
					t.Fatalf("Column(%v, %d, %d) = %d, not %d", g, row, role, Column(g, row, role), col)
				}
			}
		}
	}
}

// P7.2: 0 of a row that is none; the last one is one.
func TestRolesOfRowsThatAreNone(t *testing.T) {
	for _, g := range shapes() {
		for _, row := range outside(g.Rows) {
			if p, q := Parity(g, row); p != 0 || q != 0 {
				t.Fatalf("Parity(%v, %d) = %d, %d", g, row, p, q)
			}
			for n := range g.Cols {
				if col, role := Column(g, row, n), Role(g, row, n); col != 0 || role != 0 {
					t.Fatalf("%v, row %d, %d: Column %d, Role %d", g, row, n, col, role)
				}
			}
		}
		if p, q := Parity(g, g.Rows-1); p == q {
			t.Fatalf("Parity(%v, %d) = %d, %d", g, g.Rows-1, p, q)
		}
	}
}

// P7.2: 0 of a data column, or a column, that is none. P and Q are columns, but no data columns.
func TestRolesOfColumnsThatAreNone(t *testing.T) {
	for _, g := range shapes() {
		for row := range min(g.Rows, 2*g.Cols) {
			for _, i := range append([]int{g.Cols - 2, g.Cols - 1}, outside(g.Cols)...) {
				if col := Column(g, row, i); col != 0 {
					t.Fatalf("Column(%v, %d, %d) = %d", g, row, i, col)
				}
			}
			for _, col := range outside(g.Cols) {
				if role := Role(g, row, col); role != 0 {
					t.Fatalf("Role(%v, %d, %d) = %d", g, row, col, role)
				}
			}
		}
	}
}

// P7.3: by hand.
func TestFindAndBackByHand(t *testing.T) {
	for _, c := range []struct {
		g      api.Geometry
		sector int
		want   stand
	}{
		{geo(5, 2, 6), 0, stand{0, 0, 0}},
		{geo(5, 2, 6), 1, stand{0, 0, 1}},
		{geo(5, 2, 6), 2, stand{0, 1, 0}},
		{geo(5, 2, 6), 5, stand{0, 2, 1}},
		{geo(5, 2, 6), 6, stand{1, 0, 0}},
		{geo(5, 2, 6), 35, stand{5, 2, 1}},
		{geo(4, 1, 1), 0, stand{0, 0, 0}},
		{geo(4, 1, 1), 1, stand{0, 1, 0}},
		{geo(4, 4, 2), 7, stand{0, 1, 3}},
		{geo(4, 4, 2), 8, stand{1, 0, 0}},
		{geo(10, 4, 256), 8191, stand{255, 7, 3}},
		{geo(10, 4, 256), 8160, stand{255, 0, 0}},
		{geo(10, 1, 256), 2047, stand{255, 7, 0}},
		{geo(7, 3, 20), 100, stand{6, 3, 1}},
	} {
		row, i, off, e := Find(c.g, c.sector)
		if got := (stand{row, i, off}); got != c.want || e != api.OK {
			t.Errorf("Find(%v, %d) = %v, %d, not %v", c.g, c.sector, got, e, c.want)
		}
		if sector, e := Back(c.g, c.want.row, c.want.i, c.want.off); sector != c.sector || e != api.OK {
			t.Errorf("Back(%v, %v) = %d, %d, not %d", c.g, c.want, sector, e, c.sector)
		}
	}
}

// P7.3: all sectors of all shapes, in the order in which they are gone through.
func TestFindAndBackOfAllShapes(t *testing.T) {
	for _, g := range shapes() {
		for sector, want := range stands(g) {
			row, i, off, e := Find(g, sector)
			if got := (stand{row, i, off}); got != want || e != api.OK {
				t.Fatalf("Find(%v, %d) = %v, %d, not %v", g, sector, got, e, want)
			}
			if got, e := Back(g, want.row, want.i, want.off); got != sector || e != api.OK {
				t.Fatalf("Back(%v, %v) = %d, %d, not %d", g, want, got, e, sector)
			}
		}
	}
}

// P7.3: a sector that is none.
func TestFindOfSectorsThatAreNone(t *testing.T) {
	for _, g := range shapes() {
		for _, sector := range outside(len(stands(g))) {
			if row, i, off, e := Find(g, sector); row != 0 || i != 0 || off != 0 || e != api.ErrRange {
				t.Fatalf("Find(%v, %d) = %d, %d, %d, %d", g, sector, row, i, off, e)
			}
		}
	}
}

// P7.3: one of the three is none, whatever the others are: also if the number that comes of them is a sector.
func TestBackOfPlacesThatAreNone(t *testing.T) {
	for _, g := range shapes() {
		rows, data, offs := []int{0, g.Rows - 1}, []int{0, g.Cols - 3}, []int{0, g.Chunk - 1}
		noRows, noData, noOffs := outside(g.Rows), append(outside(g.Cols-2), g.Cols-1, g.Cols), outside(g.Chunk)
		for _, c := range [][3][]int{{noRows, data, offs}, {rows, noData, offs}, {rows, data, noOffs}, {noRows, noData, noOffs}} {
			for _, row := range c[0] {
				for _, i := range c[1] {
					for _, off := range c[2] {
						if sector, e := Back(g, row, i, off); sector != 0 || e != api.ErrRange {
							t.Fatalf("Back(%v, %d, %d, %d) = %d, %d", g, row, i, off, sector, e)
						}
					}
				}
			}
		}
	}
}

// P7.3: numbers that wrap round to a sector are a place no more than others.
func TestBackOfPlacesThatWrapRound(t *testing.T) {
	g := geo(6, 4, 8) // 4 data columns: a row has 16 sectors
	for _, c := range []stand{
		{1 << 60, 0, 0}, {1<<60 + 1, 0, 0}, {-1 << 60, 3, 3}, {0, 1 << 62, 0}, {0, 1<<62 + 1, 2}, {0, -1 << 62, 0}, {7, math.MinInt, 0},
		{1, -1, 0}, {1, -4, 0}, {1, 0, -1}, {1, 0, -16}, {0, 0, 127}, {0, 31, 3}, {-1, 4, 0}, {8, -1, 0}, {8, 0, -1}, {8, -4, -4},
		{math.MinInt, 0, 0}, {math.MinInt, math.MinInt, math.MinInt}, {math.MaxInt, math.MaxInt, math.MaxInt}, {-1, -1, -1}, {0, 0, -1},
	} {
		if sector, e := Back(g, c.row, c.i, c.off); sector != 0 || e != api.ErrRange {
			t.Errorf("Back(%v, %v) = %d, %d", g, c, sector, e)
		}
	}
}

// P7.3: by hand.
func TestSectorByHand(t *testing.T) {
	for _, c := range []struct {
		g              api.Geometry
		row, off, want int
	}{
		{geo(5, 2, 6), 0, 0, 4},
		{geo(5, 2, 6), 0, 1, 5},
		{geo(5, 2, 6), 1, 0, 6},
		{geo(5, 2, 6), 5, 1, 15},
		{geo(5, 2, 6), 6, 0, 0},
		{geo(5, 2, 6), 0, 2, 0},
		{geo(5, 2, 6), -1, 0, 0},
		{geo(5, 2, 6), 0, -1, 0},
		{geo(5, 2, 6), 3, -1, 0},
		{geo(4, 1, 1), 0, 0, 4},
		{geo(10, 4, 256), 255, 3, 1027},
		{geo(10, 4, 256), 255, 4, 0},
		{geo(10, 4, 256), 256, 3, 0},
		{geo(4, 1, 256), 255, 0, 259},
	} {
		if got := Sector(c.g, c.row, c.off); got != c.want {
			t.Errorf("Sector(%v, %d, %d) = %d, not %d", c.g, c.row, c.off, got, c.want)
		}
	}
}

// P7.3: all places of all shapes stand one behind the other, behind the head, up to the drive's end; all others are 0.
func TestSectorOfAllShapes(t *testing.T) {
	for _, g := range shapes() {
		want := 4
		for row := range g.Rows {
			for off := range g.Chunk {
				if got := Sector(g, row, off); got != want {
					t.Fatalf("Sector(%v, %d, %d) = %d, not %d", g, row, off, got, want)
				}
				want++
			}
			for _, off := range outside(g.Chunk) {
				if got := Sector(g, row, off); got != 0 {
					t.Fatalf("Sector(%v, %d, %d) = %d", g, row, off, got)
				}
			}
		}
		for _, row := range outside(g.Rows) {
			for _, off := range append(outside(g.Chunk), 0, g.Chunk-1) {
				if got := Sector(g, row, off); got != 0 {
					t.Fatalf("Sector(%v, %d, %d) = %d", g, row, off, got)
				}
			}
		}
	}
}

// P7.4: each sector is found back, and no two have one place: neither as it is found, nor on the drives.
func TestEachSectorHasItsPlace(t *testing.T) {
	for _, g := range shapes() {
		found, drives := map[stand]bool{}, map[[2]int]bool{}
		for sector := range Size(g) {
			row, i, off, e := Find(g, sector)
			if e != api.OK || found[stand{row, i, off}] {
				t.Fatalf("%v: sector %d is at %d, %d, %d, as another one is: %d", g, sector, row, i, off, e)
			}
			found[stand{row, i, off}] = true
			if got, e := Back(g, row, i, off); got != sector || e != api.OK {
				t.Fatalf("%v: sector %d is found back as %d, %d", g, sector, got, e)
			}
			col, at := Column(g, row, i), Sector(g, row, off)
			if drives[[2]int{col, at}] || col < 0 || col >= g.Cols || at < api.Head || at >= Need(g) {
				t.Fatalf("%v: sector %d is on drive %d, at %d", g, sector, col, at)
			}
			drives[[2]int{col, at}] = true
		}
		if len(found) != Size(g) || len(drives) != Size(g) || len(found) == 0 {
			t.Fatalf("%v: %d places, %d on drives", g, len(found), len(drives))
		}
	}
}

// P7.4: no place but a sector's is one.
func TestEachPlaceHasItsSector(t *testing.T) {
	for _, g := range []api.Geometry{geo(4, 1, 1), geo(4, 4, 5), geo(5, 2, 6), geo(10, 3, 12)} {
		places := 0
		for row := -3; row < g.Rows+3; row++ {
			for i := -3; i < g.Cols+3; i++ {
				for off := -5; off < g.Chunk+5; off++ {
					sector, e := Back(g, row, i, off)
					if e != api.OK {
						continue
					}
					places++
					if r, k, o, e := Find(g, sector); r != row || k != i || o != off || e != api.OK {
						t.Fatalf("%v: sector %d, of %d, %d, %d, is at %d, %d, %d: %d", g, sector, row, i, off, r, k, o, e)
					}
				}
			}
		}
		if places != Size(g) {
			t.Errorf("%v: %d places", g, places)
		}
	}
}

// P7.4: in each row each column has one role, as Parity and Column tell it too.
func TestEachColumnHasOneRole(t *testing.T) {
	for _, g := range shapes() {
		for row := range g.Rows {
			seen := make([]int, g.Cols)
			for col := range g.Cols {
				role := Role(g, row, col)
				if role < 0 || role >= g.Cols || role < g.Cols-2 && Column(g, row, role) != col {
					t.Fatalf("%v, row %d: column %d has role %d", g, row, col, role)
				}
				seen[role]++
			}
			if slices.Min(seen) != 1 || slices.Max(seen) != 1 {
				t.Fatalf("%v, row %d: roles %v", g, row, seen)
			}
			if p, q := Parity(g, row); Role(g, row, p) != g.Cols-2 || Role(g, row, q) != g.Cols-1 {
				t.Fatalf("%v, row %d: Parity is %d, %d", g, row, p, q)
			}
		}
	}
}

// P7.4: over Cols rows, whichever is the first one, each column has each role once.
func TestEachColumnHasEachRole(t *testing.T) {
	for _, g := range shapes() {
		for first := 0; first+g.Cols <= g.Rows; first++ {
			for col := range g.Cols {
				seen := make([]int, g.Cols)
				for row := first; row < first+g.Cols; row++ {
					seen[Role(g, row, col)]++
				}
				if slices.Min(seen) != 1 || slices.Max(seen) != 1 {
					t.Fatalf("%v, from row %d on: column %d has roles %v", g, first, col, seen)
				}
			}
		}
	}
}

// R1, R5: all calls end, at all numbers, and tell the same again.
func TestAllNumbers(t *testing.T) {
	numbers := []int{math.MinInt, math.MinInt + 1, -1 << 32, -5, -1, 0, 1, 2, 4, 10, 256, 1 << 32, math.MaxInt - 1, math.MaxInt}
	answers := func(g api.Geometry, a, b, c int) [15]int {
		p, q := Parity(g, a)
		row, i, off, e := Find(g, a)
		sector, f := Back(g, a, b, c)
		return [15]int{int(Check(g)), Size(g), Need(g), Rows(a, b), p, q, Column(g, a, b), Role(g, a, b), row, i, off, int(e), sector, int(f), Sector(g, a, b)}
	}
	for _, g := range append(wrong(), geo(4, 1, 1), geo(5, 2, 6), geo(10, 4, 256)) {
		for _, a := range numbers {
			for _, b := range numbers {
				for _, c := range numbers {
					if answers(g, a, b, c) != answers(g, a, b, c) {
						t.Fatalf("%v, %d, %d, %d", g, a, b, c)
					}
				}
			}
		}
	}
}
