package pages

import (
	"strconv"
	"testing"

	"revetment/api"
	"revetment/drive"
)

// chance tells numbers that are the same in each run.
type chance uint64

func (c *chance) below(n int) int {
	*c = *c*6364136223846793005 + 1442695040888963407
	return int(uint64(*c)>>33) % n
}

// page is one whose Events are near those of others; now and then it may not be.
func (c *chance) page() Page {
	b := one(c.below(64))
	if c.below(3) == 0 {
		b = or(b, one(c.below(64)))
	}
	if c.below(15) == 0 {
		b = b[:c.below(8)]
	}
	return Page{uint64(c.below(6)), b}
}

// desk is a drive as the chapters say it, as far as pages ask: what is read as its page, and what is safe. A text is "" where it can't be read.
type desk struct {
	none, small, dead bool
	power             int // Writes and Flushes that are left; below 0 it does not go
	safe, spoilt      string
	waits             []string
}

func (k *desk) runs() api.Errno {
	switch {
	case k.dead:
		return api.ErrDead
	case k.power == 0:
		return api.ErrOff
	}
	return api.OK
}

func (k *desk) spend() {
	if k.power > 0 {
		k.power--
	}
}

func (k *desk) save(p Page) api.Errno {
	if len(p.Bits) != 8 {
		return api.ErrArg
	}
	if e := k.runs(); e != api.OK {
		return e
	}
	if k.small {
		return api.ErrRange
	}
	k.waits, k.spoilt = append(k.waits, block(p)), ""
	k.spend()
	if e := k.runs(); e != api.OK {
		return e
	}
	k.safe, k.waits = block(p), nil
	k.spend()
	return api.OK
}

func (k *desk) crash(keep int) {
	if n := keep % (len(k.waits) + 1); n > 0 {
		k.safe = k.waits[n-1]
	}
	k.waits, k.power = nil, -1
}

// reads is the sector that is read as the page, and what keeps it from being read.
func (k *desk) reads() (string, api.Errno) {
	switch e := k.runs(); {
	case e != api.OK:
		return "", e
	case k.small:
		return "", api.ErrRange
	case k.spoilt != "":
		return "", api.ErrRead
	case len(k.waits) > 0:
		return k.waits[len(k.waits)-1], api.OK
	}
	return k.safe, api.OK
}

// room has drives, and beside each what the chapters say of it, and the pages that were ever made, by their sectors.
type room struct {
	drives []*drive.Drive
	desks  []*desk
	pages  map[string]Page
}

// opened is a room with so many places; some have no drive, or too small a one.
func opened(c *chance, places int) *room {
	r := &room{pages: map[string]Page{}}
	for range places {
		k := &desk{power: -1, safe: sealed("")}
		d := drive.New(3)
		switch c.below(8) {
		case 0:
			k.none, d = true, nil
		case 1:
			k.small, d = true, drive.New(2)
		default:
			d.Change(2, sealed(""))
		}
		r.drives, r.desks = append(r.drives, d), append(r.desks, k)
	}
	return r
}

// load is what Load answers of a place.
func (r *room) load(i int) (Page, api.Errno) {
	s, e := r.desks[i].reads()
	if e != api.OK {
		return Page{}, e
	}
	p, is := r.pages[s]
	if !is {
		return Page{}, api.ErrMagic
	}
	return p, api.OK
}

// join is what Join answers, bit by bit.
func (r *room) join(events uint64) (string, bool) {
	told, is := nothing, false
	for i, k := range r.desks {
		if k.none {
			continue
		}
		if p, e := r.load(i); e == api.OK && p.Events >= events {
			told, is = or(told, p.Bits), true
		}
	}
	return told, is
}

// all is what All answers.
func (r *room) all(p Page) (int, api.Errno) {
	if len(p.Bits) != 8 {
		return 0, api.ErrArg
	}
	n := 0
	for _, k := range r.desks {
		if !k.none && k.save(p) == api.OK {
			n++
		}
	}
	if n == 0 {
		return 0, api.ErrLost
	}
	return n, api.OK
}

// hurt does something to a drive that no page asks for.
func (r *room) hurt(c *chance, i int) string {
	d, k := r.drives[i], r.desks[i]
	switch kind := c.below(16); {
	case kind < 6:
		keep := c.below(4)
		d.Crash([]uint8{uint8(keep)})
		k.crash(keep)
		return "Crash"
	case kind < 12:
		k.power = c.below(5)
		d.Off(k.power)
		return "Off"
	case kind < 15:
		if d.Spoil(2) == api.OK {
			k.spoilt = "is"
		}
		return "Spoil"
	}
	if c.below(8) == 0 {
		d.Die()
		k.dead = true
	}
	return "Die"
}

// step does the same thing to drives and desks, and tells what it was and whether both answered the same.
func (r *room) step(c *chance) (string, bool) {
	i, p := c.below(len(r.drives)), c.page()
	if len(p.Bits) == 8 {
		r.pages[block(p)] = p
	}
	kind := c.below(10)
	if kind < 2 || r.desks[i].none {
		n, e := All(r.drives, p)
		want, f := r.all(p)
		return "All", n == want && e == f
	}
	if kind < 6 {
		return "Save " + strconv.Itoa(i), Save(r.drives[i], p) == r.desks[i].save(p)
	}
	return r.hurt(c, i), true
}

// agrees tells whether all that is told of the drives is what the chapters say.
func (r *room) agrees(t *testing.T) {
	t.Helper()
	for i, k := range r.desks {
		if k.none {
			continue
		}
		p, e := r.load(i)
		loads(t, r.drives[i], p, e)
		if s, e := r.drives[i].Safe(2); e == api.OK && s != k.safe {
			t.Fatalf("safe on %d is %q, not %q", i, s, k.safe)
		}
		pending(t, r.drives[i], len(k.waits))
	}
	for n := range uint64(8) {
		want, is := r.join(n)
		joins(t, r.drives, n, want, is)
	}
}

// P11.2 to P11.4: long runs of mixed calls, with drives that fail, answer what the chapter says.
func TestRuns(t *testing.T) {
	for run := range 60 {
		c := chance(run)
		r := opened(&c, 1+c.below(8))
		for n := range 150 {
			if what, same := r.step(&c); !same {
				t.Fatalf("run %d, step %d: %s answers another one", run, n, what)
			}
			r.agrees(t)
		}
	}
}

// keeps are what crashes may keep of some writes.
func keeps() [][]uint8 {
	return [][]uint8{nil, {0}, {1}, {2}, {3}, {255}, {0, 1}, {1, 0}, {1, 2, 0}}
}

// within tells whether all of a page's regions are in what is joined of these drives, from its Events on and from ones below.
func within(t *testing.T, l []*drive.Drive, p Page) {
	t.Helper()
	for _, n := range []uint64{0, p.Events / 2, p.Events} {
		if b, is := Join(l, n); !is || or(b, p.Bits) != b {
			t.Fatalf("from %d on %q %v is joined, without %v", n, b, is, p)
		}
	}
}

// P11.5: what was saved on a drive is in what is joined behind any crash, whatever its other sectors had to be written.
func TestSavedIsJoined(t *testing.T) {
	for which := range 30 {
		for _, keep := range keeps() {
			p := some(which)
			l := []*drive.Drive{with(t, some(which+1)), plain(t, 5), nil, with(t, some(which+2))}
			for i := range 5 {
				answers(t, l[1].Write(i, full("waits")), api.OK)
			}
			answers(t, Save(l[1], p), api.OK)
			within(t, l, p)
			for i := range 5 {
				if i != 2 {
					answers(t, l[1].Write(i, full("later")), api.OK)
				}
			}
			l[1].Crash(keep)
			within(t, l, p)
			within(t, l[1:2], p)
		}
	}
}

// P11.5: as long as one drive on which it went well is read, what All saved is joined: all the others may be dead, without power, or not to be read.
func TestOneDriveIsEnough(t *testing.T) {
	p := some(9)
	for left := range 4 {
		for kind := range 4 {
			l := []*drive.Drive{with(t, some(1)), with(t, some(2)), plain(t, 3), plain(t, 3)}
			all(t, l, p, 4, api.OK)
			for i, d := range l {
				switch {
				case i == left:
				case kind == 0:
					d.Die()
				case kind == 1:
					d.Off(0)
				case kind == 2:
					answers(t, d.Spoil(2), api.OK)
				default:
					l[i] = nil
				}
			}
			joins(t, l, p.Events, p.Bits, true)
			within(t, l, p)
			l[left].Die()
			joins(t, l, 0, nothing, false)
		}
	}
}

// P11.5: with the power gone at whichever place of All, on whichever drives, and whatever is kept: those of which a Save went well tell the page; the others tell it, or what they told.
func TestCrashInAll(t *testing.T) {
	for powers := range 64 {
		for _, keep := range keeps() {
			old, p := Page{6, one(5)}, Page{7, or(one(6), one(63))}
			l := []*drive.Drive{with(t, old), with(t, old), with(t, old)}
			well := 0
			for i, d := range l {
				power := powers >> (2 * i) & 3
				d.Off(power)
				if power >= 2 {
					well++
				}
			}
			e := api.OK
			if well == 0 {
				e = api.ErrLost
			}
			all(t, l, p, well, e)
			for _, d := range l {
				d.Crash(keep)
			}
			for i, d := range l {
				power := powers >> (2 * i) & 3
				kept := power == 1 && len(keep) > 0 && keep[0]%2 == 1
				want := old
				if power >= 2 || kept {
					want = p
				}
				loads(t, d, want, api.OK)
			}
			if well > 0 {
				within(t, l, p)
				joins(t, l, 7, p.Bits, true)
			}
		}
	}
}

// P11.5: in long runs too: what was saved last on a drive, and went well, is joined from its Events on, whenever the drive is read; a later Save that failed may have taken its place.
func TestSavedStaysSaved(t *testing.T) {
	for run := range 60 {
		c := chance(1000 + run)
		r := opened(&c, 1+c.below(6))
		last := make([]*Page, len(r.drives))
		for n := range 150 {
			i, p := c.below(len(r.drives)), c.page()
			d := r.drives[i]
			if d == nil {
				continue
			}
			if c.below(2) == 0 {
				r.hurt(&c, i)
			} else if e := Save(d, p); e == api.OK {
				last[i] = &p
			} else if e == api.ErrOff {
				last[i] = nil
			}
			for k, d := range r.drives {
				if last[k] == nil {
					continue
				}
				if _, e := d.Read(2); e == api.OK {
					within(t, r.drives, *last[k])
				} else if e == api.ErrRange {
					t.Fatalf("run %d, step %d: saved where no sector is", run, n)
				}
			}
		}
	}
}

// P11.5: a drive that was away, and comes back with an older page, takes nothing away, and adds nothing from the newer one's Events on.
func TestOlderPageAddsNothing(t *testing.T) {
	for _, n := range events()[1:] {
		older, newer := Page{n - 1, one(1)}, Page{n, one(62)}
		l := []*drive.Drive{with(t, older), with(t, newer)}
		joins(t, l, n, newer.Bits, true)
		joins(t, l, n-1, or(older.Bits, newer.Bits), true)
		within(t, l, older)
		within(t, l, newer)
	}
}
