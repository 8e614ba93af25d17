package ring

import (
	"math"
	"slices"
	"testing"

	"revetment/api"
	"revetment/record"
)

// keeps are what crashes may keep of some sectors' writes: of the first five ones each by itself, and all.
func keeps() [][]uint8 {
	out := [][]uint8{nil, {1}, {2}, {255}}
	for bits := range 32 {
		keep := []uint8{}
		for i := range 5 {
			keep = append(keep, uint8(bits>>i&1))
		}
		out = append(out, keep)
	}
	return out
}

// starts are trimmed numbers from which a ring of a power of two slots goes on: also about the end.
func starts() []uint64 {
	return []uint64{0, 6, math.MaxUint64 - 2, math.MaxUint64}
}

// P13.6: with the power gone at each place of Append, whatever is kept: what was appended is found, and what was being appended as it was to be, or not at all; it is found, if Append said so.
func TestCrashInAppend(t *testing.T) {
	more, none := 0, 0
	for _, from := range starts()[1:3] {
		for held := range 4 {
			for _, count := range []int{1, 3, 9} {
				for after := range count + 5 {
					for _, keep := range keeps() {
						// the slots have records of the round before
						d := with(t, 4, from, append(run(from-3, 4), run(from+1, held)...)...)
						r := finds(t, d, 4-held, from+1+uint64(held), run(from+1, held)...)
						x := of(from+1+uint64(held), count)
						d.Off(after)
						_, e := r.Append(x.Row, x.Parts)
						d.Crash(keep)
						_, _, whether := opened(d)
						answers(t, whether, api.OK)
						if _, is := taken(d, x.Seq); is {
							more++
							finds(t, d, 3-held, x.Seq+1, append(run(from+1, held), x)...)
							continue
						}
						none++
						finds(t, d, 4-held, x.Seq, run(from+1, held)...)
						if e == api.OK {
							t.Fatalf("behind %d steps, and %v: it was appended, and is not found", after, keep)
						}
					}
				}
			}
		}
	}
	if more < 500 || none < 500 {
		t.Errorf("found %d times, not found %d times alone", more, none)
	}
}

// P13.6: by hand: the head was written, and not flushed: it is found as a whole if it is kept, and not at all if it is not. Of a load that was not flushed nothing is found.
func TestCrashByHand(t *testing.T) {
	for _, c := range []struct {
		after int
		keep  uint8
		is    bool
	}{
		{0, 1, false}, {1, 1, false}, {2, 1, false}, {3, 1, false}, {4, 0, false}, {4, 1, true}, {4, 2, false}, {5, 0, true},
	} {
		d := with(t, 2, 6, of(7, 2))
		r := finds(t, d, 1, 8, of(7, 2))
		d.Off(c.after)
		r.Append(9, some(1, 2))
		d.Crash([]uint8{c.keep})
		if c.is {
			finds(t, d, 0, 9, of(7, 2), record.Record{Seq: 8, Row: 9, Parts: some(1, 2)})
		} else {
			finds(t, d, 1, 8, of(7, 2))
		}
	}
}

// P13.6: with the power gone at each place of Trim: all that is not trimmed is found; what was being trimmed is found as a whole, or not at all.
func TestCrashInTrim(t *testing.T) {
	for _, from := range starts() {
		for held := range 5 {
			for to := range uint64(held + 1) {
				for after := range 4 {
					for _, keep := range keeps()[:4] {
						d := with(t, 4, from, run(from+1, held)...)
						r := finds(t, d, 4-held, from+1+uint64(held), run(from+1, held)...)
						d.Off(after)
						e := r.Trim(from + to)
						d.Crash(keep)
						s, _ := d.Safe(3)
						if s == stamp(from+to) {
							finds(t, d, 4-held+int(to), from+1+uint64(held), run(from+1, held)[to:]...)
							continue
						}
						finds(t, d, 4-held, from+1+uint64(held), run(from+1, held)...)
						if e == api.OK {
							t.Fatalf("behind %d steps, and %v: it was trimmed, and is not", after, keep)
						}
					}
				}
			}
		}
	}
}

// P13.6: one crash behind the other in Append, on a ring that goes on as it is: at most one more is found, as one of those was to be.
func TestCrashesInAppend(t *testing.T) {
	for first := range 8 {
		for second := range 8 {
			for _, keep := range keeps() {
				d := with(t, 2, 6, of(7, 2))
				r := finds(t, d, 1, 8, of(7, 2))
				a, b := record.Record{Seq: 8, Row: 1, Parts: some(1, 3)}, record.Record{Seq: 8, Row: 2, Parts: some(2, 3)}
				d.Off(first)
				if _, e := r.Append(a.Row, a.Parts); e == api.OK {
					continue
				}
				d.Crash(keep)
				d.Off(second)
				_, e := r.Append(b.Row, b.Parts)
				d.Crash(keep)
				_, l, f := Open(d)
				answers(t, f, api.OK)
				is := len(l) == 1 && e != api.OK || len(l) == 2 && (same(l[1], b) || e != api.OK && same(l[1], a))
				if !is || !same(l[0], of(7, 2)) {
					t.Fatalf("behind %d and %d steps, and %v: found are %v", first, second, keep, l)
				}
			}
		}
	}
}

// book is what is known of a ring's records from outside.
type book struct {
	held  []record.Record // those that Append said it has, and no Trim said it has not; the first ones may be trimmed
	marks []uint64        // numbers of which one is the trimmed one
	tries []record.Record // records of which one, at most, may stand behind these
}

// fits tells whether just these may be found, and whether one of them was being appended.
func (b *book) fits(l []record.Record) (is, more bool) {
	for _, n := range b.marks {
		var rest []record.Record
		if i := slices.IndexFunc(b.held, func(r record.Record) bool { return r.Seq == n+1 }); i >= 0 {
			rest = b.held[i:]
		}
		if slices.EqualFunc(l, rest, same) {
			return true, false
		}
		for _, x := range b.tries {
			if slices.EqualFunc(l, append(slices.Clone(rest), x), same) {
				return true, true
			}
		}
	}
	return false, false
}

// append appends some record, and notes what came of it.
func (b *book) append(t *testing.T, c *chance, r *Ring) {
	t.Helper()
	x := record.Record{Seq: r.Next(), Row: c.below(256), Parts: some(c.below(1000), 1+c.below(4))}
	n, e := r.Append(x.Row, x.Parts)
	switch e {
	case api.OK:
		if n != x.Seq {
			t.Fatalf("appended as %d, not %d", n, x.Seq)
		}
		b.held, b.tries = append(b.held, x), nil
	case api.ErrOff:
		b.tries = append(b.tries, x)
	}
}

// trim trims some of the records, and notes what came of it.
func (b *book) trim(c *chance, r *Ring, slots int) {
	held := slots - r.Left()
	n := r.Next() - 1 - uint64(c.below(held+1))
	switch r.Trim(n) {
	case api.OK:
		b.held, b.marks = b.held[len(b.held)-int(r.Next()-1-n):], []uint64{n}
	case api.ErrOff:
		b.marks = append(b.marks, n)
	}
}

// P13.6: long runs: crashes at any places of Append and Trim, whatever is kept, on rings that are opened anew or go on as they are; also where numbers go round.
func TestManyCrashes(t *testing.T) {
	times := map[bool]int{}
	for one := range 200 {
		c := chance(one)
		slots := []int{1, 2, 4, 8}[c.below(4)]
		from := []uint64{0, 5, 1 << 40, math.MaxUint64 - 9, math.MaxUint64}[c.below(5)]
		d := with(t, slots, from)
		r := finds(t, d, slots, from+1)
		b := &book{marks: []uint64{from}}
		for n := range 100 {
			if c.below(4) > 0 {
				d.Off(c.below(9))
			}
			for range 1 + c.below(3) {
				if c.below(3) > 0 {
					b.append(t, &c, r)
				} else {
					b.trim(&c, r, slots)
				}
			}
			d.Crash([]uint8{uint8(c.below(4)), uint8(c.below(4)), uint8(c.below(4))})
			again, l, e := Open(d)
			answers(t, e, api.OK)
			is, more := b.fits(l)
			if !is {
				t.Fatalf("run %d, crash %d: found are %v, of %v and %v from %v on", one, n, l, b.held, b.tries, b.marks)
			}
			times[more]++
			if c.below(2) == 0 {
				r, b = again, &book{held: l, marks: []uint64{again.Next() - 1 - uint64(len(l))}}
			}
		}
	}
	if times[true] < 500 || times[false] < 500 {
		t.Errorf("one more was found %d times, none %d times alone", times[true], times[false])
	}
}
