package intent

import (
	"math"
	"slices"
	"strings"
	"testing"

	"revetment/api"
)

// none are the bytes of a map in which nothing is dirty.
const none = "\x00\x00\x00\x00\x00\x00\x00\x00"

// far are numbers that are no row and no region of any map: some of them have the low bits of one that is, some become one when they are added to, or multiplied.
func far() []int {
	return []int{math.MinInt, math.MinInt + 1, math.MinInt + 4, -1 << 62, -1 << 32, -1<<32 + 1, -1 << 31, -256, -64, -5, -4, -3, -2, -1, 256, 257, 258, 259, 260, 512, 65536, 1 << 30, 1<<31 - 1, 1 << 31, 1 << 32, 1<<32 + 1, 1 << 60, 1<<61 + 1, 1 << 62, 1<<62 + 1, math.MaxInt - 3, math.MaxInt - 1, math.MaxInt}
}

// beside are the numbers that are none of 0 to n less 1: those next to them, and far ones.
func beside(n int) []int {
	out := far()
	for i := n; i < n+70; i++ {
		out = append(out, i)
	}
	return out
}

// made is a map of so many rows, in whose regions so many writes are under way.
func made(t *testing.T, rows int, under ...int) *Map {
	t.Helper()
	m := New(rows)
	if m == nil {
		t.Fatalf("no map of %d rows", rows)
	}
	for region, n := range under {
		for range n {
			starts(t, m, 4*region)
		}
	}
	return m
}

func starts(t *testing.T, m *Map, row int) {
	t.Helper()
	if _, e := m.Start(row); e != api.OK {
		t.Fatalf("Start(%d) answers %d", row, e)
	}
}

// done ends so many writes to a row.
func done(t *testing.T, m *Map, row, n int) {
	t.Helper()
	for range n {
		answers(t, m.Done(row), api.OK)
	}
}

func marks(t *testing.T, m *Map, regions ...int) {
	t.Helper()
	for _, r := range regions {
		answers(t, m.Mark(r), api.OK)
	}
}

func answers(t *testing.T, got, want api.Errno) {
	t.Helper()
	if got != want {
		t.Fatalf("the answer is %d, not %d", got, want)
	}
}

// under is how many writes are under way in a region, found out on a copy of the map; no test has more than that many.
func under(m *Map, region int) int {
	c, n := *m, 0
	for n < 1000 && c.Done(4*region) == api.OK {
		n++
	}
	return n
}

// has tells whether just these regions are dirty.
func has(t *testing.T, m *Map, dirty ...int) {
	t.Helper()
	if got := m.Dirty(); !slices.Equal(got, dirty) {
		t.Fatalf("dirty are %v, not %v", got, dirty)
	}
}

// idle tells whether just these regions are dirty with no write under way.
func idle(t *testing.T, m *Map, want ...int) {
	t.Helper()
	if got := m.Idle(); !slices.Equal(got, want) {
		t.Fatalf("idle are %v, not %v", got, want)
	}
}

// tells tells whether the map's bytes are these.
func tells(t *testing.T, m *Map, want string) {
	t.Helper()
	if got := m.Bytes(); got != want {
		t.Fatalf("the bytes are %q, not %q", got, want)
	}
}

// with are the bytes in which just these regions' bits are 1.
func with(regions ...int) string {
	bits := []byte(strings.Repeat("0", 64))
	for _, r := range regions {
		bits[r] = '1'
	}
	out := make([]byte, 8)
	for i := range out {
		for k := 7; k >= 0; k-- {
			out[i] = 2*out[i] + bits[8*i+k] - '0'
		}
	}
	return string(out)
}

// unchanged tells whether a map is as it was ahead of a call that answers an error.
func unchanged(t *testing.T, m *Map, call func()) {
	t.Helper()
	was := *m
	call()
	if *m != was {
		t.Fatalf("changed by a call that failed: %v, was %v", *m, was)
	}
}

// P10.1: there is a map of 1 to 256 rows, and of no others.
func TestNewRows(t *testing.T) {
	for _, rows := range append([]int{0}, beside(257)...) {
		if (rows < 1 || rows > 256) && New(rows) != nil {
			t.Errorf("a map of %d rows", rows)
		}
	}
	for rows := 1; rows <= 256; rows++ {
		if New(rows) == nil {
			t.Errorf("no map of %d rows", rows)
		}
	}
}

// P10.1: how many regions there are, by hand; the last one may have fewer rows than four.
func TestRegionsByHand(t *testing.T) {
	for _, x := range []struct{ rows, want int }{{1, 1}, {2, 1}, {3, 1}, {4, 1}, {5, 2}, {8, 2}, {9, 3}, {20, 5}, {21, 6}, {32, 8}, {33, 9}, {128, 32}, {129, 33}, {252, 63}, {253, 64}, {255, 64}, {256, 64}} {
		if got := made(t, x.rows).Regions(); got != x.want {
			t.Errorf("%d rows have %d regions, not %d", x.rows, got, x.want)
		}
	}
}

// P10.1: the regions are those of rows 0 to rows less 1: each of these rows is one, the next one is none, and what is asked of all maps goes on hanging on the rows alone.
func TestRegionsAreThoseOfTheRows(t *testing.T) {
	for rows := 1; rows <= 256; rows++ {
		m, of := made(t, rows), map[int]bool{}
		for row := range rows {
			of[Region(row)] = true
			starts(t, m, row)
		}
		if _, e := m.Start(rows); e != api.ErrRange {
			t.Errorf("%d rows: Start(%d) answers %d", rows, rows, e)
		}
		if got := m.Regions(); got != len(of) || m.Mark(got-1) != api.OK || m.Mark(got) != api.ErrRange {
			t.Errorf("%d rows have %d regions, not %d", rows, got, len(of))
		}
	}
}

// P10.1: in a new map none is dirty, and none has a write under way.
func TestNewIsClean(t *testing.T) {
	for rows := 1; rows <= 256; rows++ {
		m := made(t, rows)
		has(t, m)
		idle(t, m)
		tells(t, m, none)
		for row := range rows {
			if m.Stale(row) {
				t.Errorf("%d rows: row %d is stale", rows, row)
			}
			answers(t, m.Done(row), api.ErrNone)
			answers(t, m.Clear(row/4), api.OK)
		}
	}
}

// P10.1: a map has nothing of one that was made before.
func TestNewIsAnother(t *testing.T) {
	a := made(t, 20)
	starts(t, a, 5)
	b := made(t, 20)
	has(t, b)
	answers(t, b.Done(5), api.ErrNone)
	starts(t, b, 9)
	marks(t, b, 4)
	has(t, a, 1)
	if under(a, 2) != 0 || a.Regions() != 5 {
		t.Error("what is done with one map is done with another one")
	}
}

// P10.1: how many regions there are is no other number when something is done with them.
func TestRegionsStay(t *testing.T) {
	m := made(t, 10, 2, 0, 1)
	marks(t, m, 1)
	answers(t, m.Merge("\x07"+none[1:]), api.OK)
	answers(t, m.Clear(1), api.OK)
	if got := m.Regions(); got != 3 {
		t.Errorf("%d regions, not 3", got)
	}
}

// P10.1: the region of a row, by hand: a fourth, rounded down; 0 of a row below 0.
func TestRegionByHand(t *testing.T) {
	for _, x := range []struct{ row, want int }{
		{0, 0}, {1, 0}, {2, 0}, {3, 0}, {4, 1}, {5, 1}, {7, 1}, {8, 2}, {11, 2}, {12, 3}, {63, 15}, {255, 63},
		{256, 64}, {1000, 250}, {1 << 32, 1 << 30}, {math.MaxInt, 1<<61 - 1}, {math.MaxInt - 3, 1<<61 - 1}, {math.MaxInt - 4, 1<<61 - 2},
		{-1, 0}, {-3, 0}, {-4, 0}, {-5, 0}, {-8, 0}, {-1 << 32, 0}, {math.MinInt, 0}, {math.MinInt + 1, 0},
	} {
		if got := Region(x.row); got != x.want {
			t.Errorf("Region(%d) is %d, not %d", x.row, got, x.want)
		}
	}
}

// P10.1: each region has the four rows behind those of the one ahead of it.
func TestRegionHasFourRows(t *testing.T) {
	row := 0
	for region := range 80 {
		for range 4 {
			if got := Region(row); got != region {
				t.Errorf("Region(%d) is %d, not %d", row, got, region)
			}
			row++
		}
	}
}

// P10.2: Start tells whether the region was not dirty: the first write to any of its rows is told so, no other one till it is cleared.
func TestStartTellsTheFirst(t *testing.T) {
	m := made(t, 20)
	for i, x := range []struct {
		row  int
		want bool
	}{{5, true}, {5, false}, {4, false}, {7, false}, {8, true}, {3, true}, {0, false}, {11, false}, {19, true}, {16, false}, {12, true}} {
		if got, e := m.Start(x.row); got != x.want || e != api.OK {
			t.Errorf("%d: Start(%d) answers %v, %d", i, x.row, got, e)
		}
	}
}

// P10.2: what was made dirty without a write is dirty; Done leaves it so, Clear does not.
func TestStartOfWhatIsDirtyAlready(t *testing.T) {
	m := made(t, 20)
	marks(t, m, 2)
	answers(t, m.Merge(with(3)), api.OK)
	for i, x := range []struct {
		row  int
		want bool
	}{{8, false}, {15, false}, {4, true}, {8, false}} {
		if got, e := m.Start(x.row); got != x.want || e != api.OK {
			t.Errorf("%d: Start(%d) answers %v, %d", i, x.row, got, e)
		}
	}
	done(t, m, 9, 2)
	if got, _ := m.Start(8); got {
		t.Error("clean by Done")
	}
	done(t, m, 8, 1)
	answers(t, m.Clear(2), api.OK)
	if got, _ := m.Start(8); !got {
		t.Error("still dirty behind Clear")
	}
}

// P10.2: Start makes its region dirty, and has one write more under way in it; in each map, of each row.
func TestStartOfEachRow(t *testing.T) {
	for rows := 1; rows <= 256; rows++ {
		for row := max(0, rows-9); row < rows; row++ {
			m := made(t, rows)
			if got, e := m.Start(row); !got || e != api.OK {
				t.Errorf("%d rows: Start(%d) answers %v, %d", rows, row, got, e)
			}
			has(t, m, row/4)
			for region := range m.Regions() {
				if got, want := under(m, region), region == row/4; (got == 1) != want || got > 1 {
					t.Errorf("%d rows: by Start(%d) %d writes in the region %d", rows, row, got, region)
				}
			}
		}
	}
}

// P10.2: writes under way are counted for each region: as many as were started can be done, by whichever of its rows.
func TestDoneCounts(t *testing.T) {
	for _, n := range []int{1, 2, 3, 5, 100, 127, 128, 255, 256, 257, 65535, 65536, 65537} {
		m := made(t, 12, 1)
		for i := range n {
			starts(t, m, 4+i%4)
		}
		answers(t, m.Done(8), api.ErrNone)
		for i := range n {
			answers(t, m.Clear(1), api.ErrState)
			answers(t, m.Done(4+(3*i+1)%4), api.OK)
		}
		for row := 4; row < 8; row++ {
			answers(t, m.Done(row), api.ErrNone)
		}
		answers(t, m.Done(0), api.OK)
		answers(t, m.Clear(1), api.OK)
	}
}

// P10.2: Done takes nothing but one write: the region is still dirty, the others' writes are theirs.
func TestDoneAlone(t *testing.T) {
	m := made(t, 256, 3, 2, 1)
	starts(t, m, 255)
	done(t, m, 5, 1)
	done(t, m, 254, 1)
	has(t, m, 0, 1, 2, 63)
	for region, want := range map[int]int{0: 3, 1: 1, 2: 1, 3: 0, 62: 0, 63: 0} {
		if got := under(m, region); got != want {
			t.Errorf("%d writes in the region %d, not %d", got, region, want)
		}
	}
}

// P10.2: Done of a region that has no write under way is ErrNone, also if it is dirty; and there is none fewer by it.
func TestDoneOfNone(t *testing.T) {
	m := made(t, 20, 0, 1)
	marks(t, m, 0, 3)
	answers(t, m.Merge(with(4)), api.OK)
	for row := range 20 {
		if row/4 != 1 {
			unchanged(t, m, func() { answers(t, m.Done(row), api.ErrNone) })
		}
	}
	starts(t, m, 0)
	answers(t, m.Clear(0), api.ErrState)
	done(t, m, 3, 1)
	answers(t, m.Done(3), api.ErrNone)
}

// P10.2: Clear takes a region's being dirty, if no write is under way in it; ErrState if one is, and it stays dirty.
func TestClear(t *testing.T) {
	m := made(t, 20, 1, 0, 2, 1)
	marks(t, m, 1, 4)
	answers(t, m.Clear(1), api.OK)
	has(t, m, 0, 2, 3, 4)
	for _, region := range []int{0, 2, 3} {
		unchanged(t, m, func() { answers(t, m.Clear(region), api.ErrState) })
	}
	done(t, m, 8, 1)
	answers(t, m.Clear(2), api.ErrState)
	done(t, m, 11, 1)
	answers(t, m.Clear(2), api.OK)
	has(t, m, 0, 3, 4)
	answers(t, m.Clear(2), api.OK)
	has(t, m, 0, 3, 4)
	if under(m, 0) != 1 || under(m, 2) != 0 || under(m, 3) != 1 {
		t.Error("Clear changed what is under way")
	}
}

// P10.2: each region of each map can be cleared, and only that one is.
func TestClearOfEachRegion(t *testing.T) {
	for rows := 1; rows <= 256; rows++ {
		m := made(t, rows)
		var all []int
		for region := range m.Regions() {
			marks(t, m, region)
			all = append(all, region)
		}
		for _, region := range all {
			answers(t, m.Clear(region), api.OK)
			has(t, m, slices.DeleteFunc(slices.Clone(all), func(r int) bool { return r == region })...)
			marks(t, m, region)
		}
	}
}

// P10.2: Mark makes a region dirty, without a write, and again without any change; each region of each map, and only that one.
func TestMark(t *testing.T) {
	for rows := 1; rows <= 256; rows++ {
		for region := range (rows + 3) / 4 {
			m := made(t, rows)
			for range 2 {
				answers(t, m.Mark(region), api.OK)
				has(t, m, region)
				answers(t, m.Done(4*region), api.ErrNone)
			}
		}
	}
	m := made(t, 12, 2, 0, 1)
	unchanged(t, m, func() { answers(t, m.Mark(0), api.OK) })
	answers(t, m.Mark(1), api.OK)
	has(t, m, 0, 1, 2)
	if under(m, 0) != 2 || under(m, 1) != 0 || under(m, 2) != 1 {
		t.Error("Mark changed what is under way")
	}
}

// P10.2: what is no row, or no region, of the map is ErrRange, whatever stands in the map; nothing is changed, and no first write is told. A last region that has fewer rows than four has no others.
func TestRange(t *testing.T) {
	for _, rows := range []int{1, 2, 3, 4, 5, 9, 20, 63, 64, 65, 253, 254, 255, 256} {
		empty, full := made(t, rows), made(t, rows)
		for row := range rows {
			starts(t, full, row)
		}
		for _, m := range []*Map{empty, full} {
			for _, row := range beside(rows) {
				unchanged(t, m, func() {
					if row >= 0 && row < rows {
						return
					}
					if got, e := m.Start(row); got || e != api.ErrRange {
						t.Errorf("%d rows: Start(%d) answers %v, %d", rows, row, got, e)
					}
					answers(t, m.Done(row), api.ErrRange)
				})
			}
			for _, region := range beside((rows + 3) / 4) {
				unchanged(t, m, func() {
					if region >= 0 && region < (rows+3)/4 {
						return
					}
					answers(t, m.Clear(region), api.ErrRange)
					answers(t, m.Mark(region), api.ErrRange)
				})
			}
		}
	}
}

// P10.3: the dirty regions, rising, however they became dirty and in whatever order; Idle are those of them with no write under way.
func TestDirtyAndIdle(t *testing.T) {
	m := made(t, 256)
	for _, row := range []int{200, 5, 255, 100, 6} {
		starts(t, m, row)
	}
	marks(t, m, 40, 3, 62, 25)
	answers(t, m.Merge(with(63, 0, 31, 32)), api.OK)
	has(t, m, 0, 1, 3, 25, 31, 32, 40, 50, 62, 63)
	idle(t, m, 0, 3, 31, 32, 40, 62)
	done(t, m, 4, 1)
	idle(t, m, 0, 3, 31, 32, 40, 62)
	done(t, m, 4, 1)
	idle(t, m, 0, 1, 3, 31, 32, 40, 62)
	done(t, m, 255, 1)
	done(t, m, 100, 1)
	done(t, m, 200, 1)
	idle(t, m, 0, 1, 3, 25, 31, 32, 40, 50, 62, 63)
	answers(t, m.Clear(25), api.OK)
	answers(t, m.Clear(0), api.OK)
	has(t, m, 1, 3, 31, 32, 40, 50, 62, 63)
	idle(t, m, 1, 3, 31, 32, 40, 50, 62, 63)
	starts(t, m, 252)
	has(t, m, 1, 3, 31, 32, 40, 50, 62, 63)
	idle(t, m, 1, 3, 31, 32, 40, 50, 62)
}

// P10.3: the chapter's example.
func TestExample(t *testing.T) {
	m := made(t, 20)
	starts(t, m, 5)
	has(t, m, 1)
	idle(t, m)
}

// P10.3: none, each one, and all regions, of each map.
func TestDirtyOfEachMap(t *testing.T) {
	for rows := 1; rows <= 256; rows++ {
		m := made(t, rows)
		has(t, m)
		idle(t, m)
		var all []int
		for region := range (rows + 3) / 4 {
			one := made(t, rows)
			starts(t, one, 4*region)
			has(t, one, region)
			idle(t, one)
			done(t, one, 4*region, 1)
			has(t, one, region)
			idle(t, one, region)
			marks(t, m, region)
			all = append(all, region)
			has(t, m, all...)
			idle(t, m, all...)
		}
		for _, region := range all {
			starts(t, m, 4*region)
			has(t, m, all...)
			idle(t, m, all[region+1:]...)
		}
	}
}

// P10.3: a row is stale as long as its region is dirty, whether a write is under way there or not.
func TestStale(t *testing.T) {
	m := made(t, 20)
	stale := func(want ...int) {
		t.Helper()
		for row := -8; row < 300; row++ {
			if got := m.Stale(row); got != slices.Contains(want, row) {
				t.Errorf("Stale(%d) is %v", row, got)
			}
		}
	}
	stale()
	starts(t, m, 5)
	stale(4, 5, 6, 7)
	marks(t, m, 4)
	stale(4, 5, 6, 7, 16, 17, 18, 19)
	done(t, m, 6, 1)
	stale(4, 5, 6, 7, 16, 17, 18, 19)
	answers(t, m.Clear(1), api.OK)
	stale(16, 17, 18, 19)
	answers(t, m.Merge("\x01"+none[1:]), api.OK)
	stale(0, 1, 2, 3, 16, 17, 18, 19)
}

// P10.3: what is no row is not stale, though the region that it would be in is dirty, as are all others.
func TestStaleOfNoRow(t *testing.T) {
	for rows := 1; rows <= 256; rows++ {
		m := made(t, rows)
		for row := range rows {
			starts(t, m, row)
		}
		for _, row := range beside(rows) {
			if got, want := m.Stale(row), row >= 0 && row < rows; got != want {
				t.Errorf("%d rows: Stale(%d) is %v", rows, row, got)
			}
		}
	}
}

// P10.3: the lists are new memory (R3), and asking changes nothing.
func TestListsAreNew(t *testing.T) {
	m := made(t, 64, 1, 0, 1)
	marks(t, m, 5, 9, 15)
	unchanged(t, m, func() {
		for _, l := range [][]int{m.Dirty(), m.Idle(), m.Dirty(), m.Idle()} {
			for i := range l[:cap(l)] {
				l[:cap(l)][i] = 7
			}
		}
		m.Stale(4)
		m.Regions()
		m.Bytes()
	})
	d, i := m.Dirty(), m.Idle()
	d[0], i[0] = 8, 8
	has(t, m, 0, 2, 5, 9, 15)
	idle(t, m, 5, 9, 15)
	marks(t, m, 1)
	answers(t, m.Clear(9), api.OK)
	if !slices.Equal(d, []int{8, 2, 5, 9, 15}) || !slices.Equal(i, []int{8, 9, 15}) {
		t.Errorf("an answer changed behind the call: %v %v", d, i)
	}
}

// P10.4: the bytes, by hand: the bit r modulo 8 of the byte r / 8.
func TestBytesByHand(t *testing.T) {
	for i, x := range []struct {
		rows  int
		dirty []int
		want  string
	}{
		{1, nil, none},
		{256, nil, none},
		{1, []int{0}, "\x01\x00\x00\x00\x00\x00\x00\x00"},
		{9, []int{1, 2}, "\x06\x00\x00\x00\x00\x00\x00\x00"},
		{32, []int{7}, "\x80\x00\x00\x00\x00\x00\x00\x00"},
		{36, []int{8}, "\x00\x01\x00\x00\x00\x00\x00\x00"},
		{256, []int{63}, "\x00\x00\x00\x00\x00\x00\x00\x80"},
		{256, []int{56}, "\x00\x00\x00\x00\x00\x00\x00\x01"},
		{256, []int{31, 32}, "\x00\x00\x00\x80\x01\x00\x00\x00"},
		{256, []int{0, 9, 18, 27, 36, 45, 54, 63}, "\x01\x02\x04\x08\x10\x20\x40\x80"},
		{256, []int{5, 6, 7, 13, 47, 62}, "\xe0\x20\x00\x00\x00\x80\x00\x40"},
	} {
		m := made(t, x.rows)
		marks(t, m, x.dirty...)
		if got := m.Bytes(); got != x.want {
			t.Errorf("%d: the bytes are %q, not %q", i, got, x.want)
		}
		n := made(t, x.rows)
		answers(t, n.Merge(x.want), api.OK)
		has(t, n, x.dirty...)
	}
}

// P10.4: the bytes follow whatever makes a region dirty, or clean; a write under way makes no difference.
func TestBytesFollow(t *testing.T) {
	m := made(t, 64)
	starts(t, m, 50)
	tells(t, m, with(12))
	marks(t, m, 3)
	tells(t, m, with(3, 12))
	done(t, m, 48, 1)
	tells(t, m, with(3, 12))
	answers(t, m.Merge(with(0, 15)), api.OK)
	tells(t, m, with(0, 3, 12, 15))
	answers(t, m.Clear(12), api.OK)
	tells(t, m, with(0, 3, 15))
}

// P10.4: each region of each map has its bit, in what is told and in what is merged.
func TestEachBit(t *testing.T) {
	for rows := 1; rows <= 256; rows++ {
		all := made(t, rows)
		var regions []int
		for region := range (rows + 3) / 4 {
			m, n := made(t, rows), made(t, rows)
			marks(t, m, region)
			tells(t, m, with(region))
			answers(t, n.Merge(with(region)), api.OK)
			has(t, n, region)
			marks(t, all, region)
			regions = append(regions, region)
		}
		tells(t, all, with(regions...))
		m := made(t, rows)
		answers(t, m.Merge(none), api.OK)
		has(t, m)
		answers(t, m.Merge(with(regions...)), api.OK)
		has(t, m, regions...)
	}
}

// P10.4: what was dirty stays dirty when others are made so; writes under way are neither more nor fewer.
func TestMergeAdds(t *testing.T) {
	m := made(t, 60, 2, 0, 1)
	marks(t, m, 5)
	answers(t, m.Merge(with(1, 2, 14)), api.OK)
	has(t, m, 0, 1, 2, 5, 14)
	idle(t, m, 1, 5, 14)
	answers(t, m.Merge(none), api.OK)
	has(t, m, 0, 1, 2, 5, 14)
	answers(t, m.Merge(with(5, 14)), api.OK)
	has(t, m, 0, 1, 2, 5, 14)
	for region, want := range []int{2, 0, 1, 0, 0, 0} {
		if got := under(m, region); got != want {
			t.Errorf("%d writes in the region %d, not %d", got, region, want)
		}
	}
}

// P10.4: other lengths than 8 are ErrArg, whatever the bytes, and nothing is changed.
func TestMergeLengths(t *testing.T) {
	for _, rows := range []int{1, 9, 32, 256} {
		m := made(t, rows, 1)
		for _, b := range []string{"\x00", "\x01", "\xff", "a"} {
			for n := range 300 {
				if n != 8 {
					unchanged(t, m, func() { answers(t, m.Merge(strings.Repeat(b, n)), api.ErrArg) })
				}
			}
		}
		answers(t, m.Merge("\x01"+none), api.ErrArg)
		answers(t, m.Merge("\x01"+none[2:]), api.ErrArg)
	}
}

// P10.4: a bit of what is no region is ErrArg, be it alone or beside those of regions, and then none of these is made dirty.
func TestMergeOfNoRegion(t *testing.T) {
	for rows := 1; rows <= 256; rows++ {
		m := made(t, rows)
		count := (rows + 3) / 4
		marks(t, m, count/2)
		for region := count; region < 64; region++ {
			for _, l := range [][]int{{region}, {0, region}, {count - 1, region}, {region, 63}} {
				unchanged(t, m, func() { answers(t, m.Merge(with(l...)), api.ErrArg) })
			}
		}
		if count < 64 {
			unchanged(t, m, func() { answers(t, m.Merge("\xff\xff\xff\xff\xff\xff\xff\xff"), api.ErrArg) })
		}
	}
}

// P10.4: of 64 regions each bit is one's.
func TestMergeAll(t *testing.T) {
	for rows := 253; rows <= 256; rows++ {
		m := made(t, rows)
		answers(t, m.Merge("\xff\xff\xff\xff\xff\xff\xff\xff"), api.OK)
		if l := m.Dirty(); len(l) != 64 || l[0] != 0 || l[63] != 63 {
			t.Errorf("%d rows: dirty are %v", rows, l)
		}
		tells(t, m, "\xff\xff\xff\xff\xff\xff\xff\xff")
	}
}
