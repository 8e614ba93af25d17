package ring

import (
	"math"
	"slices"
	"strings"
	"testing"

	"revetment/api"
	"revetment/drive"
	"revetment/record"
)

// desk is a ring as the chapter says it, word by word, on a drive of its own; it asks no other layer.
type desk struct {
	d             *drive.Drive
	trimmed, next uint64
}

func (k *desk) slots() uint64 {
	return uint64(max(k.d.Sectors()-4, 0) / 41)
}

// write writes sectors, from the sector i on, and flushes, if all of it goes well.
func (k *desk) write(i int, l ...string) api.Errno {
	for n, s := range l {
		if e := k.d.Write(i+n, s); e != api.OK {
			return e
		}
	}
	return k.d.Flush()
}

func (k *desk) format() api.Errno {
	if k.slots() == 0 {
		return api.ErrArg
	}
	for n := range k.slots() {
		if e := k.d.Write(int(4+41*n), strings.Repeat("\x00", 64)); e != api.OK {
			return e
		}
	}
	return k.write(3, stamp(0))
}

// mayBe tells whether there may be a record of this row, and these parts.
func mayBe(row int, l []record.Part) bool {
	if row < 0 || row > 255 || len(l) == 0 || len(l) > 40 {
		return false
	}
	for i, p := range l {
		if p.Col < 0 || p.Col > 9 || p.Off < 0 || p.Off > 3 || len(p.Data) != 64 {
			return false
		}
		if slices.ContainsFunc(l[:i], func(q record.Part) bool { return q.Col == p.Col && q.Off == p.Off }) {
			return false
		}
	}
	return true
}

func (k *desk) append(row int, l []record.Part) (uint64, api.Errno) {
	n := k.next
	switch {
	case n-k.trimmed > k.slots():
		return 0, api.ErrBusy
	case !mayBe(row, l):
		return 0, api.ErrArg
	}
	at := slot(n, int(k.slots()))
	if e := k.write(at+1, texts(l)...); e != api.OK {
		return 0, e
	}
	if e := k.write(at, block(record.Record{Seq: n, Row: row, Parts: l})); e != api.OK {
		return 0, e
	}
	k.next++
	return n, api.OK
}

func (k *desk) trim(seq uint64) api.Errno {
	is := false
	for n := k.trimmed; n != k.next; n++ {
		is = is || n == seq
	}
	if !is {
		return api.ErrArg
	}
	if e := k.write(3, stamp(seq)); e != api.OK {
		return e
	}
	k.trimmed = seq
	return api.OK
}

// pair is a ring, and a desk beside it, to which the same is done.
type pair struct {
	r *Ring
	d *drive.Drive
	k *desk
}

// paired is a pair on drives that are the same, with a mark of that number.
func paired(t *testing.T, slots int, trimmed uint64) *pair {
	t.Helper()
	p := &pair{d: with(t, slots, trimmed), k: &desk{d: with(t, slots, trimmed)}}
	p.open(t)
	return p
}

// open opens the ring anew; what it finds is what the chapter says. It tells whether there is a ring then.
func (p *pair) open(t *testing.T) bool {
	t.Helper()
	trimmed, l, e := opened(p.k.d)
	_, r := agrees(t, p.d)
	if e != api.OK {
		return false
	}
	p.r, p.k.trimmed, p.k.next = r, trimmed, trimmed+1+uint64(len(l))
	return true
}

// both does the same to both drives.
func (p *pair) both(do func(d *drive.Drive)) {
	do(p.d)
	do(p.k.d)
}

// append appends some record, that now and then may not be, to both.
func (p *pair) append(c *chance) bool {
	row, l := c.below(256), some(c.below(1000), 1+c.below(4))
	switch c.below(12) {
	case 0:
		row = wrongRows()[c.below(len(wrongRows()))]
	case 1:
		l[0].Col, l[len(l)-1].Off = l[len(l)-1].Col, l[0].Off
	case 2:
		l = l[:c.below(2)]
	}
	n, e := p.r.Append(row, l)
	m, f := p.k.append(row, l)
	return n == m && e == f
}

// hurt does something to both drives that no ring asks for.
func (p *pair) hurt(c *chance) {
	i, after, text := c.below(p.d.Sectors()), c.below(9), data(c.below(5))
	keep := []uint8{uint8(c.below(4)), uint8(c.below(4)), uint8(c.below(4))}
	switch c.below(12) {
	case 0, 1, 2, 3:
		p.both(func(d *drive.Drive) { d.Crash(keep) })
	case 4, 5, 6, 7, 8:
		p.both(func(d *drive.Drive) { d.Off(after) })
	case 9:
		p.both(func(d *drive.Drive) { d.Spoil(i) })
	case 10:
		p.both(func(d *drive.Drive) { d.Change(i, text) })
	default:
		if c.below(40) == 0 {
			p.both(func(d *drive.Drive) { d.Die() })
		}
	}
}

// step does the same to both, and tells what it was, and whether both answered the same.
func (p *pair) step(t *testing.T, c *chance) (string, bool) {
	t.Helper()
	switch kind := c.below(24); {
	case kind < 10:
		return "Append", p.append(c)
	case kind < 15:
		n := p.k.trimmed + uint64(c.below(5)) - 1
		return "Trim", p.r.Trim(n) == p.k.trim(n)
	case kind < 17:
		p.open(t)
		return "Open", true
	case kind < 18 && c.below(6) == 0:
		same := Format(p.d) == p.k.format()
		p.open(t)
		return "Format", same
	}
	p.hurt(c)
	return "a drive", true
}

// agree tells whether ring and drive are what the chapter says.
func (p *pair) agree(t *testing.T) {
	t.Helper()
	says(t, p.r, int(p.k.slots()+p.k.trimmed+1-p.k.next), p.k.next)
	pending(t, p.d, p.k.d.Pending())
	stands(t, p.d, shot(p.k.d))
	for i := range p.d.Sectors() {
		s, e := p.d.Read(i)
		want, f := p.k.d.Read(i)
		if s != want || e != f {
			t.Fatalf("the sector %d is read as %q %d, not %q %d", i, s, e, want, f)
		}
	}
}

// P13.2 to P13.5: long runs of mixed calls, on drives that fail, lie and forget, answer what the chapter says; from numbers on that are small, or go round, in each number of slots.
func TestRuns(t *testing.T) {
	for one := range 120 {
		c := chance(one)
		p := paired(t, 1+c.below(5), []uint64{0, 5, 1 << 32, math.MaxUint64 - 4, math.MaxUint64}[c.below(5)])
		for n := range 150 {
			if what, same := p.step(t, &c); !same {
				t.Fatalf("run %d, step %d: %s answers another one", one, n, what)
			}
			p.agree(t)
		}
	}
}
