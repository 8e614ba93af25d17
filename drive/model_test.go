package drive

import (
	"slices"
	"strconv"
	"testing"

	"revetment/api"
)

// paper is a drive as the chapter says it, without any thought of how: all sectors are texts, and of each one all that it may be behind a crash.
type paper struct {
	may    [][]string // the safe one, and the writes behind it
	spoilt []bool
	dead   bool
	left   int // -1: the power never goes
}

func blank(sectors int) *paper {
	p := &paper{may: make([][]string, sectors), spoilt: make([]bool, sectors), left: -1}
	for i := range p.may {
		p.may[i] = []string{full("")}
	}
	return p
}

func (p *paper) first(i, length int, sector, text bool) api.Errno {
	switch {
	case p.dead:
		return api.ErrDead
	case p.left == 0:
		return api.ErrOff
	case sector && (i < 0 || i >= len(p.may)):
		return api.ErrRange
	case text && length != 64:
		return api.ErrArg
	}
	return api.OK
}

func (p *paper) count() {
	if p.left > 0 {
		p.left--
	}
}

func (p *paper) pending() int {
	n := 0
	for _, l := range p.may {
		n += len(l) - 1
	}
	return n
}

func (p *paper) crash(keep []uint8) {
	k := 0
	for i, l := range p.may {
		if len(l) == 1 {
			continue
		}
		kept := 0
		if len(keep) > 0 {
			kept = int(keep[k%len(keep)]) % len(l)
		}
		p.may[i] = []string{l[kept]}
		k++
	}
	p.left = -1
}

// chance tells numbers that are the same in each run.
type chance uint64

func (c *chance) below(n int) int {
	*c = *c*6364136223846793005 + 1442695040888963407
	return int(uint64(*c)>>33) % n
}

func (c *chance) keep() []uint8 {
	l := make([]uint8, c.below(5))
	for k := range l {
		l[k] = uint8(c.below(256))
	}
	return l
}

// step does the same thing to both, and tells what it was and whether both answered the same.
func step(c *chance, d *Drive, p *paper, n int) (string, bool) {
	i, s := c.below(len(p.may)+2)-1, full("w"+strconv.Itoa(n))
	if c.below(12) == 0 {
		s = s[:c.below(64)]
	}
	switch kind := c.below(40); {
	case kind < 18:
		e := p.first(i, len(s), true, true)
		if e == api.OK {
			p.may[i] = append(p.may[i], s)
			p.spoilt[i] = false
			p.count()
		}
		return "Write", d.Write(i, s) == e
	case kind < 24:
		e := p.first(0, 0, false, false)
		if e == api.OK {
			for i, l := range p.may {
				p.may[i] = []string{l[len(l)-1]}
			}
			p.count()
		}
		return "Flush", d.Flush() == e
	case kind < 28:
		e := p.first(i, 0, true, false)
		if e == api.OK {
			p.spoilt[i] = true
		}
		return "Spoil", d.Spoil(i) == e
	case kind < 31:
		e := p.first(i, len(s), true, true)
		if e == api.OK {
			p.may[i] = []string{s}
		}
		return "Change", d.Change(i, s) == e
	case kind < 35:
		keep := c.keep()
		p.crash(keep)
		d.Crash(keep)
		return "Crash", true
	case kind < 38:
		after := c.below(8) - 1
		p.left = max(after, 0)
		d.Off(after)
		return "Off", true
	case kind == 39 && c.below(40) == 0:
		p.dead = true
		d.Die()
		return "Die", true
	}
	return "nothing", true
}

// alike tells whether the drive answers all as the paper has it.
func alike(d *Drive, p *paper) bool {
	if d.Sectors() != len(p.may) || d.Pending() != p.pending() || d.Dead() != p.dead {
		return false
	}
	for i, l := range p.may {
		read, e := p.first(i, 0, true, false), api.OK
		want := l[len(l)-1]
		if read == api.OK && p.spoilt[i] {
			read = api.ErrRead
		}
		if read != api.OK {
			want = ""
		}
		got, f := d.Read(i)
		if got != want || f != read {
			return false
		}
		if got, f = d.Safe(i); got != l[0] || f != e {
			return false
		}
	}
	return true
}

// P4.1 to P4.5: whatever is done in whatever order, all that the drive tells is what the chapter says.
func TestAgainstPaper(t *testing.T) {
	for run := range 300 {
		c := chance(run)
		sectors := 1 + c.below(9)
		d, p := New(sectors), blank(sectors)
		done := []string{}
		for n := range 120 {
			what, same := step(&c, d, p, n)
			done = append(done, what)
			if !same || !alike(d, p) {
				t.Fatalf("run %d, %d sectors, is another one behind %v", run, sectors, done)
			}
		}
	}
}

// P4.5: a sector is never but what was written to it, as a whole, or the bytes 0 of its beginning; what was flushed, or something that was written later.
func TestASectorIsWhatWasWritten(t *testing.T) {
	for run := range 200 {
		c := chance(1000 + run)
		d := New(6)
		written, flushed := [6][]string{}, [6]int{}
		for i := range written {
			written[i] = []string{full("")}
		}
		for n := range 60 {
			i, s := c.below(6), full("sector "+strconv.Itoa(n))
			if d.Write(i, s) == api.OK {
				written[i] = append(written[i], s)
			}
			if c.below(5) == 0 && d.Flush() == api.OK {
				for i, l := range written {
					flushed[i] = len(l) - 1
				}
			}
			if c.below(9) == 0 {
				d.Off(c.below(4))
			}
			if c.below(7) != 0 {
				continue
			}
			d.Crash(c.keep())
			for i, l := range written {
				s, e := d.Read(i)
				at := slices.Index(l, s)
				if e != api.OK || at < flushed[i] {
					t.Fatalf("run %d: the sector %d is %q, %d, and %q was flushed", run, i, s, e, l[flushed[i]])
				}
				written[i], flushed[i] = l[:at+1], at
			}
		}
	}
}
