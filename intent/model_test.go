package intent

import (
	"slices"
	"strconv"
	"testing"

	"revetment/api"
)

// paper is a map as the chapter says it, without any thought of how: what is told of each region stands beside it.
type paper struct {
	rows  int
	dirty []bool
	under []int
}

func blank(rows int) *paper {
	p := &paper{rows: rows}
	for row := 0; row < rows; row += 4 {
		p.dirty, p.under = append(p.dirty, false), append(p.under, 0)
	}
	return p
}

func (p *paper) row(row int) bool {
	return row >= 0 && row < p.rows
}

func (p *paper) region(region int) bool {
	return region >= 0 && region < len(p.dirty)
}

func (p *paper) start(row int) (bool, api.Errno) {
	if !p.row(row) {
		return false, api.ErrRange
	}
	was := p.dirty[row>>2]
	p.dirty[row>>2] = true
	p.under[row>>2]++
	return !was, api.OK
}

func (p *paper) done(row int) api.Errno {
	if !p.row(row) {
		return api.ErrRange
	}
	if p.under[row>>2] == 0 {
		return api.ErrNone
	}
	p.under[row>>2]--
	return api.OK
}

func (p *paper) set(region int, dirty bool) api.Errno {
	if !p.region(region) {
		return api.ErrRange
	}
	if !dirty && p.under[region] > 0 {
		return api.ErrState
	}
	p.dirty[region] = dirty
	return api.OK
}

func (p *paper) merge(s string) api.Errno {
	if len(s) != 8 {
		return api.ErrArg
	}
	var l []int
	for region := range 64 {
		if s[region>>3]>>(region&7)&1 == 1 {
			l = append(l, region)
		}
	}
	if len(l) > 0 && !p.region(l[len(l)-1]) {
		return api.ErrArg
	}
	for _, region := range l {
		p.dirty[region] = true
	}
	return api.OK
}

// lists are the dirty regions, and of these the ones with no write under way.
func (p *paper) lists() (dirty, idle []int) {
	for region, is := range p.dirty {
		if is {
			dirty = append(dirty, region)
		}
		if is && p.under[region] == 0 {
			idle = append(idle, region)
		}
	}
	return
}

// chance tells numbers that are the same in each run.
type chance uint64

func (c *chance) below(n int) int {
	*c = *c*6364136223846793005 + 1442695040888963407
	return int(uint64(*c)>>33) % n
}

// bytes are such as may be merged into a map of so many regions; now and then such as may not be.
func (c *chance) bytes(regions int) string {
	if c.below(6) == 0 {
		return with()[:c.below(8)]
	}
	var l []int
	for range c.below(4) {
		l = append(l, c.below(regions))
	}
	if c.below(6) == 0 {
		l = append(l, c.below(64))
	}
	return with(l...)
}

// step does the same thing to both, and tells what it was and whether both answered the same.
func step(c *chance, m *Map, p *paper) (string, bool) {
	row, region := c.below(p.rows+6)-3, c.below(len(p.dirty)+4)-2
	switch kind := c.below(20); {
	case kind < 7:
		first, e := m.Start(row)
		wantFirst, want := p.start(row)
		return "Start " + strconv.Itoa(row), first == wantFirst && e == want
	case kind < 13:
		return "Done " + strconv.Itoa(row), m.Done(row) == p.done(row)
	case kind < 17:
		return "Clear " + strconv.Itoa(region), m.Clear(region) == p.set(region, false)
	case kind < 19:
		return "Mark " + strconv.Itoa(region), m.Mark(region) == p.set(region, true)
	}
	s := c.bytes(len(p.dirty))
	return "Merge " + strconv.Quote(s), m.Merge(s) == p.merge(s)
}

// agrees tells whether both tell the same.
func agrees(t *testing.T, m *Map, p *paper) {
	t.Helper()
	dirty, idling := p.lists()
	has(t, m, dirty...)
	idle(t, m, idling...)
	tells(t, m, with(dirty...))
	if m.Regions() != len(p.dirty) {
		t.Fatalf("%d regions, not %d", m.Regions(), len(p.dirty))
	}
	for row := -5; row < p.rows+5; row++ {
		if got, want := m.Stale(row), p.row(row) && p.dirty[row>>2]; got != want {
			t.Fatalf("Stale(%d) is %v", row, got)
		}
	}
	for region, want := range p.under {
		if got := under(m, region); got != want {
			t.Fatalf("%d writes in the region %d, not %d", got, region, want)
		}
	}
}

// P10.1 to P10.4: long runs of mixed calls, on maps of many lengths, answer what the chapter says.
func TestRuns(t *testing.T) {
	c := chance(1)
	for _, rows := range []int{1, 2, 3, 4, 5, 7, 8, 9, 13, 20, 31, 32, 33, 64, 100, 128, 129, 200, 252, 253, 255, 256} {
		m, p := made(t, rows), blank(rows)
		for n := range 600 {
			if what, same := step(&c, m, p); !same {
				t.Fatalf("%d rows, step %d: %s answers another one", rows, n, what)
			}
			if n%7 == 0 {
				agrees(t, m, p)
			}
		}
		agrees(t, m, p)
	}
}

// P10.5: what is under way is dirty, whatever is called: a region with a write under way is told to be dirty by all that tell it, and not to be idle.
func TestUnderWayIsDirty(t *testing.T) {
	c := chance(2)
	for _, rows := range []int{1, 4, 6, 17, 64, 90, 256} {
		m, p := made(t, rows), blank(rows)
		for n := range 2000 {
			step(&c, m, p)
			for region, writes := range p.under {
				if writes == 0 {
					continue
				}
				bit := m.Bytes()[region/8] >> (region % 8) & 1
				if !slices.Contains(m.Dirty(), region) || slices.Contains(m.Idle(), region) || !m.Stale(4*region) || bit != 1 {
					t.Fatalf("%d rows, step %d: the region %d has %d writes under way, and is not dirty", rows, n, region, writes)
				}
			}
		}
	}
}

// P10.5: a region can't be made clean by any call as long as a write is under way in it; then it can.
func TestUnderWayStaysDirty(t *testing.T) {
	for rows := 1; rows <= 256; rows++ {
		last := (rows - 1) / 4
		m := made(t, rows)
		starts(t, m, rows-1)
		starts(t, m, 4*last)
		done(t, m, rows-1, 1)
		for region := -1; region < 66; region++ {
			m.Clear(region)
		}
		answers(t, m.Merge(none), api.OK)
		has(t, m, last)
		tells(t, m, with(last))
		done(t, m, 4*last, 1)
		answers(t, m.Clear(last), api.OK)
		has(t, m)
	}
}

// P10.5: what one map tells makes just these regions of a new one dirty, which may be longer, and none of them has a write under way there.
func TestBytesMakeAnother(t *testing.T) {
	c := chance(3)
	for rows := 1; rows <= 256; rows++ {
		m, p := made(t, rows), blank(rows)
		for range 60 {
			step(&c, m, p)
		}
		dirty, _ := p.lists()
		for _, n := range []int{rows, 4 * len(p.dirty), min(rows+40, 256), 256} {
			other := made(t, n)
			answers(t, other.Merge(m.Bytes()), api.OK)
			has(t, other, dirty...)
			idle(t, other, dirty...)
			if other.Bytes() != m.Bytes() {
				t.Fatalf("the bytes are %q, not %q", other.Bytes(), m.Bytes())
			}
		}
	}
}

// P10.5: into a map with dirty regions of its own: the dirty ones of both, and no others; a shorter one that lacks one of them takes none.
func TestBytesJoin(t *testing.T) {
	c := chance(4)
	for range 400 {
		a, b := 1+c.below(256), 1+c.below(256)
		m, p := made(t, a), blank(a)
		other, o := made(t, b), blank(b)
		for range 1 + c.below(30) {
			step(&c, m, p)
			step(&c, other, o)
		}
		from, _ := p.lists()
		to, _ := o.lists()
		fits := len(from) == 0 || from[len(from)-1] < len(o.dirty)
		if e := other.Merge(m.Bytes()); (e == api.OK) != fits || !fits && e != api.ErrArg {
			t.Fatalf("Merge answers %d", e)
		}
		if fits {
			to = append(to, from...)
			slices.Sort(to)
			to = slices.Compact(to)
		}
		has(t, other, to...)
		has(t, m, from...)
		for region, want := range o.under {
			if got := under(other, region); got != want {
				t.Fatalf("%d writes in the region %d, not %d", got, region, want)
			}
		}
	}
}

// P10.5: the same calls to two maps make them tell the same (R5), and neither has anything of the other.
func TestTwoMaps(t *testing.T) {
	c, d, other := chance(5), chance(5), chance(6)
	m, p, n, q := made(t, 150), blank(150), made(t, 150), blank(150)
	stranger, paper := made(t, 150), blank(150)
	for range 500 {
		step(&c, m, p)
		step(&other, stranger, paper)
		step(&d, n, q)
	}
	if *m != *n {
		t.Error("the same calls, and another map")
	}
	agrees(t, m, p)
	agrees(t, stranger, paper)
}
