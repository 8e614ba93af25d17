package slots

import (
	"math"
	"testing"

	"revetment/api"
	"revetment/drive"
	"revetment/super"
)

// keeps are what a crash may keep of one write, or of two.
func keeps() [][]uint8 {
	return [][]uint8{nil, {0}, {1}, {2}, {3}, {255}, {0, 1}, {1, 0}, {1, 2}, {2, 1}, {0, 0, 1}}
}

// crashes lets the power go behind so many steps of Next, then crashes; it tells what Next answered.
func crashes(t *testing.T, d *drive.Drive, s super.Super, after int, keep []uint8) (super.Super, api.Errno) {
	t.Helper()
	d.Off(after)
	told, e := Next(d, s)
	d.Crash(keep)
	return told, e
}

// P9.4: what was there is loaded, or what was saved; the latter, if Next said that it was.
func TestCrashInNext(t *testing.T) {
	for which, n := range events() {
		if n == math.MaxUint64 {
			continue
		}
		for after := range 4 {
			for _, keep := range keeps() {
				d := drive.New(2)
				if n > 0 {
					answers(t, Save(d, some(n-1, which)), api.OK)
				}
				answers(t, Save(d, some(n, which+1)), api.OK)
				there, e := Load(d)
				answers(t, e, api.OK)
				want := some(n+1, which+2)
				told, e := crashes(t, d, some(1000, which+2), after, keep)
				found, f := Load(d)
				if f != api.OK || found != there && found != want || e == api.OK && found != want {
					t.Fatalf("behind %d, %d steps, and %v: %v %d; there was %v, and %v %d was told", n, after, keep, found, f, there, told, e)
				}
			}
		}
	}
}

// P9.4: both of them are seen: what was there, if the write was not kept, and what was saved, if it was.
func TestCrashInNextByHand(t *testing.T) {
	for _, c := range []struct {
		after  int
		keep   uint8
		events uint64
		told   api.Errno
	}{
		{0, 0, 5, api.ErrOff}, {0, 1, 5, api.ErrOff}, {1, 0, 5, api.ErrOff}, {1, 1, 6, api.ErrOff}, {1, 2, 5, api.ErrOff}, {2, 0, 6, api.OK}, {2, 1, 6, api.OK}, {3, 0, 6, api.OK},
	} {
		first, second := some(4, 1), some(5, 1)
		d := with(t, &first, &second)
		told, e := crashes(t, d, some(9, 1), c.after, []uint8{c.keep})
		answers(t, e, c.told)
		if e != api.OK && told != (super.Super{}) || e == api.OK && told != some(6, 1) {
			t.Errorf("%v: %v was told", c, told)
		}
		loads(t, d, some(c.events, 1), api.OK)
		if c.events == 5 {
			has(t, d, &first, &second)
		}
	}
}

// P9.4: where there was nothing there is nothing, or what was saved.
func TestCrashInTheFirstNext(t *testing.T) {
	for n := range uint64(4) {
		for after := range 4 {
			for _, keep := range keeps() {
				d := drive.New(2)
				_, e := crashes(t, d, some(n, 1), after, keep)
				found, f := Load(d)
				nothing := found == (super.Super{}) && f == api.ErrSuper
				saved := found == some(n+1, 1) && f == api.OK
				if !saved && !nothing || e == api.OK && !saved {
					t.Fatalf("behind %d steps and %v: %v %d", after, keep, found, f)
				}
			}
		}
	}
}

// P9.4: the one ahead of it stays in its slot, as it was, wherever it crashes.
func TestCrashLeavesTheOneAhead(t *testing.T) {
	for n := range uint64(6) {
		for after := range 4 {
			for _, keep := range keeps() {
				d := drive.New(3)
				there := some(n, 1)
				answers(t, Save(d, there), api.OK)
				crashes(t, d, some(0, 2), after, keep)
				answers(t, d.Spoil(int((n+1)%2)), api.OK)
				loads(t, d, there, api.OK)
			}
		}
	}
}

// P9.4: superblocks that stand in the other's slot, or have the same Events, as nobody saved them.
func TestCrashBesideOddSlots(t *testing.T) {
	for n := range uint64(6) {
		for m := range uint64(6) {
			for after := range 4 {
				for _, keep := range keeps() {
					first, second := some(n, 1), some(m, 2)
					d := with(t, &first, &second)
					there, _ := Load(d)
					_, e := crashes(t, d, some(0, 3), after, keep)
					found, f := Load(d)
					want := some(max(n, m)+1, 3)
					if f != api.OK || found != there && found != want || e == api.OK && found != want {
						t.Fatalf("%v, %v: %v %d", first, second, found, f)
					}
				}
			}
		}
	}
}

// P9.4: with a slot that could not be read: a write that is not kept may bring back what stood there.
func TestCrashBesideASpoiltSlot(t *testing.T) {
	for n := range uint64(4) {
		for slot := range 2 {
			for after := range 4 {
				for _, keep := range keeps() {
					older, newer := some(n, 1), some(n+1, 2)
					d := drive.New(2)
					answers(t, Save(d, older), api.OK)
					answers(t, Save(d, newer), api.OK)
					answers(t, d.Spoil(slot), api.OK)
					there, _ := Load(d)
					want := some(there.Events+1, 3)
					_, e := crashes(t, d, some(0, 3), after, keep)
					found, f := Load(d)
					if f != api.OK || found != there && found != newer && found != want || e == api.OK && found != want {
						t.Fatalf("%d, slot %d, %d steps, %v: %v %d", n, slot, after, keep, found, f)
					}
				}
			}
		}
	}
}

// P9.4: with writes to other sectors that wait: they are kept or not, what is loaded is one of the two.
func TestCrashAmongOtherWrites(t *testing.T) {
	for after := range 4 {
		for a := range 4 {
			for b := range 4 {
				for c := range 4 {
					first, second := some(4, 1), some(5, 2)
					d := with(t, &first, &second)
					for range 2 {
						answers(t, d.Write(3, full("a")), api.OK)
						answers(t, d.Write(2, full("b")), api.OK)
					}
					_, e := crashes(t, d, some(0, 3), after, []uint8{uint8(a), uint8(b), uint8(c)})
					found, f := Load(d)
					if f != api.OK || found != second && found != some(6, 3) || e == api.OK && found != some(6, 3) {
						t.Fatalf("%d steps, keep %d %d %d: %v %d", after, a, b, c, found, f)
					}
				}
			}
		}
	}
}

// chance tells numbers that are the same in each run.
type chance uint64

func (c *chance) below(n int) int {
	*c = *c*6364136223846793005 + 1442695040888963407
	return int(uint64(*c)>>33) % n
}

// P9.4: crashes one behind the other, among calls that go well: Events never fall, and what is loaded is never but what was there, or what was saved.
func TestManyCrashes(t *testing.T) {
	for run := range 200 {
		c := chance(run)
		d := drive.New(2 + c.below(3))
		there, held := Load(d)
		for n := range 100 {
			s := some(uint64(c.below(1000)), n)
			want := s
			want.Events++
			if held == api.OK {
				want.Events = there.Events + 1
			}
			e := api.OK
			if c.below(2) == 0 {
				_, e = crashes(t, d, s, c.below(4), []uint8{uint8(c.below(256)), uint8(c.below(256))})
			} else {
				next(t, d, s, want, api.OK)
			}
			found, f := Load(d)
			same := found == there && f == held
			saved := found == want && f == api.OK
			if !same && !saved || e == api.OK && !saved {
				t.Fatalf("run %d, %d: %v %d, not %v %d nor %v", run, n, found, f, there, held, want)
			}
			there, held = found, f
		}
	}
}

// P9.4: at the end of all numbers what was there is there still.
func TestCrashAtTheLastNumber(t *testing.T) {
	for after := range 4 {
		for _, keep := range keeps() {
			there := some(math.MaxUint64, 1)
			d := with(t, nil, &there)
			crashes(t, d, some(0, 2), after, keep)
			loads(t, d, there, api.OK)
		}
	}
}
