package row

import (
	"slices"
	"strconv"
	"testing"

	"revetment/api"
	"revetment/drive"
)

// chance tells numbers that are the same in each run.
type chance uint64

func (c *chance) below(n int) int {
	*c = *c*6364136223846793005 + 1442695040888963407
	return int(uint64(*c)>>33) % n
}

// model answers as the chapter says it, by its drives alone.
type model struct{ Set }

func (m model) missing(row, col int) bool {
	return m.Drives[col] == nil || m.Drives[col].Dead() || m.Built[col] <= row
}

// ranges is what is told of a row, and a place, ahead of all else.
func (m model) ranges(row, off int) api.Errno {
	if row < 0 || row >= m.Geo.Rows || off < 0 || off >= m.Geo.Chunk {
		return api.ErrRange
	}
	return api.OK
}

func (m model) read(row, off int) ([]string, []int, api.Errno) {
	if e := m.ranges(row, off); e != api.OK {
		return nil, nil, e
	}
	cols, lost := make([]string, m.Geo.Cols), []int{}
	for role := range cols {
		col := columnOf(m.Geo, row, role)
		if m.missing(row, col) {
			lost = append(lost, role)
			continue
		}
		b, e := m.Drives[col].Read(sectorOf(m.Geo, row, off))
		if e == api.ErrOff {
			return nil, nil, e
		}
		if e == api.ErrRead {
			lost = append(lost, role)
		}
		cols[role] = b
	}
	return cols, lost, api.OK
}

func (m model) lost(row int) ([]int, api.Errno) {
	if e := m.ranges(row, 0); e != api.OK {
		return nil, e
	}
	var out []int
	for role := range m.Geo.Cols {
		if m.missing(row, columnOf(m.Geo, row, role)) {
			out = append(out, role)
		}
	}
	return out, api.OK
}

func (m model) filled(row, off int) ([]string, []int, api.Errno) {
	cols, lost, e := m.read(row, off)
	if e != api.OK {
		return nil, nil, e
	}
	if len(lost) > 2 {
		return nil, nil, api.ErrLost
	}
	return whole(cols, lost), lost, api.OK
}

func (m model) sector(row, off, i int) (string, api.Errno) {
	if e := m.ranges(row, off); e != api.OK || i < 0 || i >= m.Geo.Cols-2 {
		return "", api.ErrRange
	}
	col := columnOf(m.Geo, row, i)
	if !m.missing(row, col) {
		if b, e := m.Drives[col].Read(sectorOf(m.Geo, row, off)); e != api.ErrRead {
			return b, e
		}
	}
	cols, _, e := m.filled(row, off)
	if e != api.OK {
		return "", e
	}
	return cols[i], api.OK
}

func (m model) write(row, off, role int, b string) api.Errno {
	if e := m.ranges(row, off); e != api.OK || role < 0 || role >= m.Geo.Cols {
		return api.ErrRange
	}
	d := m.Drives[columnOf(m.Geo, row, role)]
	if d == nil {
		return api.ErrDead
	}
	return d.Write(sectorOf(m.Geo, row, off), b)
}

func (m model) flush() api.Errno {
	out := api.OK
	for _, d := range m.Drives {
		if d != nil && d.Flush() == api.ErrOff {
			out = api.ErrOff
		}
	}
	return out
}

// twins are two sets to which the same is done: to the one by this package, to the other by the model.
type twins struct {
	s Set
	m model
}

// pair are twins whose rows are good ones.
func pair(t *testing.T, g api.Geometry) twins {
	t.Helper()
	w := twins{bare(g), model{bare(g)}}
	for row := range g.Rows {
		for off := range g.Chunk {
			cols := made(g, row*4+off)
			lay(t, w.s, row, off, cols)
			lay(t, w.m.Set, row, off, cols)
		}
	}
	return w
}

// each does the same to both sets.
func (w twins) each(do func(s Set)) {
	do(w.s)
	do(w.m.Set)
}

// hurt does to a drive, or to a column, what none of the calls does.
func (w twins) hurt(c *chance) string {
	col, row, off, n := c.below(w.s.Geo.Cols), c.below(w.s.Geo.Rows), c.below(w.s.Geo.Chunk), c.below(12)
	kind := c.below(24)
	if w.s.Drives[col] == nil || kind > 21 {
		w.each(func(s Set) { s.Drives[col], s.Built[col] = drive.New(needs(s.Geo)+n%2), n-2 })
		return "New drive"
	}
	switch {
	case kind < 4:
		w.each(func(s Set) { s.Drives[col].Off(n) })
		return "Off"
	case kind < 12:
		w.each(func(s Set) { s.Drives[col].Crash([]uint8{uint8(n), 1}) })
		return "Crash"
	case kind < 15:
		w.each(func(s Set) { s.Drives[col].Spoil(sectorOf(s.Geo, row, off)) })
		return "Spoil"
	case kind < 19:
		w.each(func(s Set) { s.Built[col] = min(n*2, s.Geo.Rows) })
		return "Built"
	case kind < 20:
		w.each(func(s Set) { s.Drives[col].Die() })
		return "Die"
	case kind < 21:
		w.each(func(s Set) { s.Drives[col] = nil })
		return "nil"
	}
	b := some(1, n)[0]
	w.each(func(s Set) { s.Drives[col].Change(sectorOf(s.Geo, row, off), b) })
	return "Change"
}

// write writes something to both sets; now and then it can't be.
func (w twins) write(c *chance) (string, bool) {
	row, off, role := c.below(w.s.Geo.Rows+1), c.below(w.s.Geo.Chunk), c.below(w.s.Geo.Cols+1)
	b := some(1, c.below(1000))[0][c.below(20)/19:]
	return "Write", Write(w.s, row, off, role, b) == w.m.write(row, off, role, b)
}

// step does one thing to both sets, and tells what it was, and whether both answered the same.
func (w twins) step(c *chance) (string, bool) {
	switch kind := c.below(10); {
	case kind < 3:
		return w.hurt(c), true
	case kind < 8:
		return w.write(c)
	}
	return "Flush", Flush(w.s) == w.m.flush()
}

// same tells whether both sets are read the same at a place.
func (w twins) same(row, off int) (string, bool) {
	cols, lost, e := Read(w.s, row, off)
	cols2, lost2, e2 := w.m.read(row, off)
	if !slices.Equal(cols, cols2) || !slices.Equal(lost, lost2) || e != e2 {
		return "Read", false
	}
	cols, lost, e = Filled(w.s, row, off)
	cols2, lost2, e2 = w.m.filled(row, off)
	if !slices.Equal(cols, cols2) || !slices.Equal(lost, lost2) || e != e2 {
		return "Filled", false
	}
	lost, e = Lost(w.s, row)
	lost2, e2 = w.m.lost(row)
	if !slices.Equal(lost, lost2) || e != e2 {
		return "Lost", false
	}
	for i := -1; i <= w.s.Geo.Cols; i++ {
		b, e := Sector(w.s, row, off, i)
		b2, e2 := w.m.sector(row, off, i)
		if b != b2 || e != e2 {
			return "Sector " + strconv.Itoa(i), false
		}
	}
	return "", true
}

// drives tells whether all drives of both sets have the same sectors, safe, and as many writes wait.
func (w twins) drives() bool {
	for col, d := range w.s.Drives {
		other := w.m.Drives[col]
		if d == nil || other == nil {
			if d != other {
				return false
			}
			continue
		}
		for i := range d.Sectors() {
			a, _ := d.Safe(i)
			b, _ := other.Safe(i)
			if a != b || d.Pending() != other.Pending() {
				return false
			}
		}
	}
	return true
}

// P16.1, P16.2, P16.3, P16.4: long runs of whatever may be done, held against the model.
func TestLongRuns(t *testing.T) {
	for which, g := range []api.Geometry{{Cols: 4, Chunk: 1, Rows: 3}, {Cols: 5, Chunk: 2, Rows: 4}, {Cols: 7, Chunk: 3, Rows: 9}, {Cols: 10, Chunk: 4, Rows: 11}} {
		for run := range 4 {
			c, w := chance(which*10+run), pair(t, g)
			for n := range 500 {
				what, is := w.step(&c)
				if !is {
					t.Fatalf("%v, run %d, step %d: %s", g, run, n, what)
				}
				row, off := c.below(g.Rows+1), c.below(g.Chunk)
				if call, is := w.same(row, off); !is {
					t.Fatalf("%v, run %d, step %d, behind %s: %s of %d, %d", g, run, n, what, call, row, off)
				}
				if n%10 == 0 && !w.drives() {
					t.Fatalf("%v, run %d, step %d, behind %s: the drives", g, run, n, what)
				}
			}
		}
	}
}

// calls are all calls of a set at a place, each with a text of what it answers.
func calls(s Set, row, off, role int) []func() string {
	list := func(l []int) string {
		out := ""
		for _, n := range l {
			out += " " + strconv.Itoa(n)
		}
		return out
	}
	lists := func(cols []string, lost []int, e api.Errno) string {
		out := list(lost) + " " + strconv.Itoa(int(e))
		for _, b := range cols {
			out += "|" + b
		}
		return out
	}
	return []func() string{
		func() string { return strconv.FormatBool(May(s)) },
		func() string { return lists(Read(s, row, off)) },
		func() string { return lists(Filled(s, row, off)) },
		func() string { b, e := Sector(s, row, off, role); return b + strconv.Itoa(int(e)) },
		func() string { l, e := Lost(s, row); return list(l) + strconv.Itoa(int(e)) },
		func() string { return strconv.Itoa(int(Write(s, row, off, role, full("b")))) },
		func() string { return strconv.Itoa(int(Flush(s))) },
	}
}

// R3: the lists that are handed in stay as they are, also behind their ends, and what stands there changes no answer.
func TestHandedInStays(t *testing.T) {
	g := api.Geometry{Cols: 5, Chunk: 2, Rows: 6}
	for which := range 40 {
		s := plain(g)
		s.Drives[which%5], s.Built[which%3] = nil, which%7
		extra := holder(99, 5)
		drives, built := append(slices.Clone(s.Drives), extra, nil), append(slices.Clone(s.Built), -5, 77)
		d, b := slices.Clone(drives), slices.Clone(built)
		longer := Set{g, drives[:5], built[:5]}
		for i, call := range calls(longer, which%6, which%2, which%3) {
			one := call()
			if i < 5 && one != calls(s, which%6, which%2, which%3)[i]() {
				t.Errorf("%d: call %d answers %q", which, i, one)
			}
			if !slices.Equal(drives, d) || !slices.Equal(built, b) {
				t.Fatalf("%d: call %d changes the lists", which, i)
			}
		}
		if extra.Pending() != 0 {
			t.Errorf("%d: behind the end is written", which)
		}
	}
}

// R3: answers are new memory: who writes over one, or behind its end, changes no other answer, and nothing that is handed in.
func TestAnswersAreNew(t *testing.T) {
	g := api.Geometry{Cols: 5, Chunk: 2, Rows: 6}
	s := plain(g)
	s.Built[1] = 0
	s.Drives[3].Spoil(sectorOf(g, 2, 1))
	want := calls(s, 2, 1, 0)
	for i, call := range []func() ([]string, []int, api.Errno){
		func() ([]string, []int, api.Errno) { return Read(s, 2, 1) },
		func() ([]string, []int, api.Errno) { return Filled(s, 2, 1) },
		func() ([]string, []int, api.Errno) { l, e := Lost(s, 2); return nil, l, e },
	} {
		before := []string{want[1](), want[2](), want[3](), want[4]()}
		cols, lost, _ := call()
		for k := range cols[:cap(cols)] {
			cols[:cap(cols)][k] = "spoilt"
		}
		for k := range lost[:cap(lost)] {
			lost[:cap(lost)][k] = -7
		}
		if !slices.Equal(before, []string{want[1](), want[2](), want[3](), want[4]()}) {
			t.Errorf("%d: another answer is changed", i)
		}
	}
	if !slices.Equal(s.Built, []int{6, 0, 6, 6, 6}) {
		t.Errorf("Built is %v", s.Built)
	}
}

// R3, R5: nothing is kept of a set: what is answered hangs on what it is now, and not on other sets that were asked.
func TestOneAnswer(t *testing.T) {
	g := api.Geometry{Cols: 5, Chunk: 2, Rows: 6}
	s, other := plain(g), plain(api.Geometry{Cols: 7, Chunk: 3, Rows: 4})
	for n := range 30 {
		row, off := n%6, n%2
		s.Drives[n%5] = holder(n, needs(g))
		s.Built[(n+1)%5] = n % 8
		var gone []int
		for role := range g.Cols {
			if s.Built[columnOf(g, row, role)] <= row {
				gone = append(gone, role)
			}
		}
		for range 2 {
			misses(t, s, row, gone, api.OK)
			cols, lost, e := model{s}.read(row, off)
			reads(t, s, row, off, cols, lost, e)
			for _, call := range calls(other, n%4, n%3, n%5) {
				call()
			}
		}
	}
}

// R1: every call ends, at numbers of any size, and sets of any kind.
func TestTotal(t *testing.T) {
	g := api.Geometry{Cols: 5, Chunk: 2, Rows: 6}
	many := Set{g, make([]*drive.Drive, 500), make([]int, 500)}
	for _, s := range []Set{plain(g), {g, make([]*drive.Drive, 5), far()[:5]}, many, {}, {Geo: g}, {g, []*drive.Drive{{}, {}, {}, {}, {}}, far()[:5]}} {
		for _, n := range far() {
			for _, geo := range []api.Geometry{g, {Cols: n, Chunk: 2, Rows: 6}, {Cols: 5, Chunk: n, Rows: 6}, {Cols: 5, Chunk: 2, Rows: n}, {Cols: n, Chunk: n, Rows: n}} {
				s.Geo = geo
				for _, at := range [][3]int{{n, 0, 0}, {0, n, 0}, {0, 0, n}, {n, n, n}} {
					for _, call := range calls(s, at[0], at[1], at[2]) {
						call()
					}
				}
			}
		}
	}
}
