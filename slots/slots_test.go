package slots

import (
	"math"
	"strconv"
	"strings"
	"testing"

	"revetment/api"
	"revetment/crc"
	"revetment/drive"
	"revetment/super"
)

// some is a superblock that may be, with so many Events; the others of its numbers are told by which.
func some(events uint64, which int) super.Super {
	s := super.Super{UUID: uint64(which)*7919 + 1, Events: events, Role: which % 4, Geo: api.Geometry{Cols: 4 + which%6, Chunk: 1 + which%4, Rows: 5 + which%200}, Clean: which%2 == 0, Built: which % 5}
	if which%3 == 0 {
		s.New, s.Grown = 10, which%6
	}
	if which%8 == 5 {
		s.Role = super.Spare
	}
	if which%8 == 7 {
		s.Role = super.Journal
	}
	return s
}

// events are numbers of Events: near and far, of both kinds, and some that have the same low bytes, or the same last bit.
func events() []uint64 {
	return []uint64{0, 1, 2, 3, 4, 5, 6, 7, 255, 256, 257, 65535, 65536, 1<<31 - 1, 1 << 31, 1<<32 - 1, 1 << 32, 1<<32 + 1, 1<<53 + 1, 1<<63 - 1, 1 << 63, 1<<63 + 1, math.MaxUint64 - 1, math.MaxUint64}
}

// wrong tells superblocks that may not be, with Events of both kinds.
func wrong() []super.Super {
	out := []super.Super{{}, {Events: 1}}
	for i, change := range []func(*super.Super){
		func(s *super.Super) { s.UUID = 0 },
		func(s *super.Super) { s.Role = -1 },
		func(s *super.Super) { s.Role = 10 },
		func(s *super.Super) { s.Role = 253 },
		func(s *super.Super) { s.Geo = api.Geometry{} },
		func(s *super.Super) { s.Geo.Cols = 3 },
		func(s *super.Super) { s.Geo.Rows = 257 },
		func(s *super.Super) { s.Built = -1 },
		func(s *super.Super) { s.Built = 250 },
		func(s *super.Super) { s.New = 4 },
		func(s *super.Super) { s.New, s.Grown = 0, 1 },
	} {
		for n := range uint64(2) {
			s := some(n, i)
			change(&s)
			out = append(out, s)
		}
	}
	return out
}

// sector is a superblock's one.
func sector(t *testing.T, s super.Super) string {
	t.Helper()
	b, e := super.Encode(s)
	if e != api.OK {
		t.Fatalf("%v may not be: %d", s, e)
	}
	return b
}

// full is a text, filled up to a sector.
func full(text string) string {
	return text + strings.Repeat(".", api.Sector-len(text))
}

// plain is a drive of so many sectors, each with a text of its own, safe; no slot has a superblock.
func plain(t *testing.T, sectors int) *drive.Drive {
	t.Helper()
	d := drive.New(sectors)
	for i := range sectors {
		put(t, d, i, full("sector "+strconv.Itoa(i)))
	}
	return d
}

// put makes a sector's bytes safe, told to nobody: what was to be written to it is gone.
func put(t *testing.T, d *drive.Drive, i int, text string) {
	t.Helper()
	answers(t, d.Change(i, text), api.OK)
}

// with is a drive of 4 sectors, whose slots have these superblocks, or a text that is none where there is nil.
func with(t *testing.T, first, second *super.Super) *drive.Drive {
	t.Helper()
	d := plain(t, 4)
	for slot, s := range []*super.Super{first, second} {
		if s != nil {
			put(t, d, slot, sector(t, *s))
		}
	}
	return d
}

func answers(t *testing.T, got, want api.Errno) {
	t.Helper()
	if got != want {
		t.Fatalf("the answer is %d, not %d", got, want)
	}
}

// stands tells whether the drive has, safe, just these sectors.
func stands(t *testing.T, d *drive.Drive, want ...string) {
	t.Helper()
	for i, text := range want {
		if b, _ := d.Safe(i); b != text {
			t.Fatalf("the sector %d is %q, not %q", i, b, text)
		}
	}
}

func pending(t *testing.T, d *drive.Drive, want int) {
	t.Helper()
	if got := d.Pending(); got != want {
		t.Fatalf("%d writes wait, not %d", got, want)
	}
}

// hasPower tells whether the drive has power for just so many flushes.
func hasPower(t *testing.T, d *drive.Drive, flushes int) {
	t.Helper()
	for range flushes {
		answers(t, d.Flush(), api.OK)
	}
	answers(t, d.Flush(), api.ErrOff)
}

// loads tells whether Load answers just that.
func loads(t *testing.T, d *drive.Drive, want super.Super, e api.Errno) {
	t.Helper()
	if s, f := Load(d); s != want || f != e {
		t.Fatalf("Load: %v %d, not %v %d", s, f, want, e)
	}
}

// has tells whether Both answers just that; nil is a slot that has none.
func has(t *testing.T, d *drive.Drive, first, second *super.Super) {
	t.Helper()
	found, is := Both(d)
	for slot, s := range []*super.Super{first, second} {
		if s == nil && (found[slot] != (super.Super{}) || is[slot]) {
			t.Fatalf("the slot %d has %v, %v, not nothing", slot, found[slot], is[slot])
		}
		if s != nil && (found[slot] != *s || !is[slot]) {
			t.Fatalf("the slot %d has %v, %v, not %v", slot, found[slot], is[slot], *s)
		}
	}
}

// next tells whether Next answers just that.
func next(t *testing.T, d *drive.Drive, s, want super.Super, e api.Errno) {
	t.Helper()
	if got, f := Next(d, s); got != want || f != e {
		t.Fatalf("Next(%v): %v %d, not %v %d", s, got, f, want, e)
	}
}

// P9.1: it stands in the slot of its Events modulo 2, safe; all else is as it was.
func TestSaveInItsSlot(t *testing.T) {
	for which, n := range events() {
		s := some(n, which)
		want := []string{full("sector 0"), full("sector 1"), full("sector 2"), full("sector 3"), full("sector 4")}
		d := plain(t, 5)
		answers(t, Save(d, s), api.OK)
		want[n%2] = sector(t, s)
		stands(t, d, want...)
		pending(t, d, 0)
		d.Crash([]uint8{0})
		stands(t, d, want...)
	}
}

// P9.1: by hand, as bytes.
func TestSaveByHand(t *testing.T) {
	d := drive.New(2)
	s := super.Super{UUID: 7, Events: 1, Role: 3, Geo: api.Geometry{Cols: 5, Chunk: 2, Rows: 100}, Clean: true, Built: 100}
	answers(t, Save(d, s), api.OK)
	head := "RVT1" + "\x07\x00\x00\x00\x00\x00\x00\x00" + "\x01\x00\x00\x00\x00\x00\x00\x00" + "\x03\x05\x02\x64\x00\x01\x64\x00\x00\x00\x00" + strings.Repeat("\x00", 29)
	if b, _ := d.Safe(1); b[:60] != head {
		t.Errorf("%q", b)
	}
	stands(t, d, strings.Repeat("\x00", 64))
}

// P9.1: what stands in the slots, or in the other one, is not asked: not whether it is newer, nor of which array it is, nor whether it can be read.
func TestSaveWhateverIsThere(t *testing.T) {
	for _, old := range []uint64{0, 1, 2, 3, 1 << 40, math.MaxUint64} {
		for _, n := range []uint64{0, 1, 2, 3, 1 << 40, math.MaxUint64} {
			first, second, s := some(old, 1), some(old, 2), some(n, 3)
			for kind := range 3 {
				d := with(t, &first, &second)
				if kind > 0 {
					answers(t, d.Spoil(0), api.OK)
				}
				if kind > 1 {
					answers(t, d.Spoil(1), api.OK)
				}
				want := []string{sector(t, first), sector(t, second), full("sector 2"), full("sector 3")}
				want[n%2] = sector(t, s)
				answers(t, Save(d, s), api.OK)
				stands(t, d, want...)
				if b, e := d.Read(int(n % 2)); b != want[n%2] || e != api.OK {
					t.Fatalf("it is read as %q %d", b, e)
				}
			}
		}
	}
}

// P9.1: the same one again, and others in whatever order.
func TestSaveAgain(t *testing.T) {
	d := drive.New(2)
	want := []string{strings.Repeat("\x00", 64), strings.Repeat("\x00", 64)}
	for which, n := range []uint64{4, 4, 3, 2, 2, 1, 1, 9, 8, 0, 1, 4, 3} {
		s := some(n, which/2)
		answers(t, Save(d, s), api.OK)
		want[n%2] = sector(t, s)
		stands(t, d, want...)
		pending(t, d, 0)
	}
}

// P9.1: the drive is flushed, as a whole.
func TestSaveFlushesTheDrive(t *testing.T) {
	d := plain(t, 5)
	for _, i := range []int{0, 1, 2, 4} {
		answers(t, d.Write(i, full("older")), api.OK)
		answers(t, d.Write(i, full("other")), api.OK)
	}
	s := some(6, 1)
	answers(t, Save(d, s), api.OK)
	pending(t, d, 0)
	d.Crash(nil)
	stands(t, d, sector(t, s), full("other"), full("other"), full("sector 3"), full("other"))
}

// P9.1: one write, and then one flush: no more is done, and no less; the error of each one is told.
func TestSaveWithoutPower(t *testing.T) {
	for n := range uint64(2) {
		s := some(n, 1)
		old := []string{full("sector 0"), full("sector 1"), full("sector 2")}
		saved := []string{full("sector 0"), full("sector 1"), full("sector 2")}
		saved[n] = sector(t, s)

		d := plain(t, 3)
		d.Off(0)
		answers(t, Save(d, s), api.ErrOff)
		pending(t, d, 0)
		stands(t, d, old...)

		d = plain(t, 3)
		d.Off(1)
		answers(t, Save(d, s), api.ErrOff)
		pending(t, d, 1)
		stands(t, d, old...)
		d.Crash([]uint8{1})
		stands(t, d, saved...)

		d = plain(t, 3)
		d.Off(2)
		answers(t, Save(d, s), api.OK)
		pending(t, d, 0)
		stands(t, d, saved...)
		answers(t, d.Flush(), api.ErrOff)

		d = plain(t, 3)
		d.Off(4)
		answers(t, Save(d, s), api.OK)
		hasPower(t, d, 2)
	}
}

// P9.1: also one that stands there already, safe or not, is written and flushed.
func TestSaveWhatIsThere(t *testing.T) {
	for n := range uint64(2) {
		for kind := range 2 {
			s := some(n, 1)
			d := plain(t, 3)
			if kind == 0 {
				put(t, d, int(n), sector(t, s))
			} else {
				answers(t, d.Write(int(n), sector(t, s)), api.OK)
			}
			d.Off(1)
			answers(t, Save(d, s), api.ErrOff)
			pending(t, d, 1+kind)
			d.Off(4)
			answers(t, Save(d, s), api.OK)
			hasPower(t, d, 2)
			b, _ := d.Safe(int(n))
			if b != sector(t, s) {
				t.Errorf("it is %q", b)
			}
		}
	}
}

// P9.1: of a dead drive.
func TestSaveOnADeadDrive(t *testing.T) {
	for n := range uint64(2) {
		d := plain(t, 2)
		d.Die()
		answers(t, Save(d, some(n, 1)), api.ErrDead)
		d.Off(0)
		answers(t, Save(d, some(n, 1)), api.ErrDead)
		pending(t, d, 0)
		stands(t, d, full("sector 0"), full("sector 1"))
	}
}

// P9.1: of a drive that has one slot only.
func TestSaveOnOneSector(t *testing.T) {
	for _, n := range events() {
		d := plain(t, 1)
		s := some(n, 1)
		if n%2 == 0 {
			answers(t, Save(d, s), api.OK)
			stands(t, d, sector(t, s))
			continue
		}
		answers(t, d.Write(0, full("other")), api.OK)
		answers(t, Save(d, s), api.ErrRange)
		stands(t, d, full("sector 0"))
		pending(t, d, 1)
	}
}

// P9.1: what may not be is asked ahead of the drive; then nothing is done with it.
func TestSaveOfWhatMayNotBe(t *testing.T) {
	for _, s := range wrong() {
		for kind := range 4 {
			d := plain(t, 4)
			if kind == 3 {
				d = plain(t, 1)
			}
			answers(t, d.Write(0, full("other")), api.OK)
			d.Off(2)
			if kind == 1 {
				d.Off(0)
			}
			if kind == 2 {
				d.Die()
			}
			answers(t, Save(d, s), api.ErrArg)
			pending(t, d, 1)
			stands(t, d, full("sector 0"))
			if kind == 0 {
				answers(t, d.Flush(), api.OK)
				answers(t, d.Flush(), api.OK)
				stands(t, d, full("other"), full("sector 1"), full("sector 2"), full("sector 3"))
			}
		}
	}
}

// P9.2: a new drive, and one whose sectors are something else.
func TestNoSuperblock(t *testing.T) {
	for _, d := range []*drive.Drive{drive.New(1), drive.New(2), drive.New(4), drive.New(4096), plain(t, 1), plain(t, 4)} {
		has(t, d, nil, nil)
		loads(t, d, super.Super{}, api.ErrSuper)
	}
}

// P9.2: one alone, in whichever slot, with whatever Events.
func TestOneSuperblock(t *testing.T) {
	for which, n := range events() {
		s := some(n, which)
		d := with(t, &s, nil)
		has(t, d, &s, nil)
		loads(t, d, s, api.OK)
		d = with(t, nil, &s)
		has(t, d, nil, &s)
		loads(t, d, s, api.OK)
	}
}

// P9.2: both, each with whatever Events; the greater one is loaded, of the same the first one.
func TestBothSuperblocks(t *testing.T) {
	for i, n := range events() {
		for k, m := range events() {
			first, second := some(n, i), some(m, 40+k)
			d := with(t, &first, &second)
			has(t, d, &first, &second)
			want := first
			if m > n {
				want = second
			}
			loads(t, d, want, api.OK)
		}
	}
}

// P9.2: the two may be of other arrays, and their other numbers in whatever order: Events alone tell.
func TestLoadGoesByEvents(t *testing.T) {
	for i := range 40 {
		for k := range 40 {
			first, second := some(8, i), some(9, k)
			loads(t, with(t, &first, &second), second, api.OK)
			first.Events = 10
			loads(t, with(t, &first, &second), first, api.OK)
			second.Events = 10
			loads(t, with(t, &first, &second), first, api.OK)
		}
	}
}

// P9.2: what is in the third sector, and behind it, is no slot.
func TestOnlyTheFirstTwo(t *testing.T) {
	s := some(3, 1)
	for i := 2; i < 6; i++ {
		d := plain(t, 6)
		put(t, d, i, sector(t, s))
		has(t, d, nil, nil)
		loads(t, d, super.Super{}, api.ErrSuper)
	}
}

// none tells sectors that are no superblocks: by their sums, or with a sum that is theirs, by their first number, or by another one.
func none(t *testing.T) []string {
	t.Helper()
	b := sector(t, some(4, 1))
	out := []string{strings.Repeat("\x00", 64), strings.Repeat("\xff", 64), full("RVT1"), b[1:] + "x"}
	for i := range 64 {
		l := []byte(b)
		l[i] ^= 0x10
		out = append(out, string(l))
	}
	for _, text := range []string{"", "RVT", "RVT1", "RVTB" + b[4:60], "RVT1" + strings.Repeat("\x00", 8) + b[12:60], b[:20] + "\x0a" + b[21:60], b[:25] + "\x02" + b[26:60], b[:59] + "\x01"} {
		sealed, is := crc.Seal(text, api.Sector)
		if !is {
			t.Fatalf("%q has no sum", text)
		}
		out = append(out, sealed)
	}
	return out
}

// P9.2: a sector that is not a superblock, for whatever reason, in one of the slots.
func TestOneThatIsNone(t *testing.T) {
	for _, text := range none(t) {
		for _, n := range []uint64{0, 4, 5} {
			other := some(n, 2)
			d := with(t, nil, &other)
			put(t, d, 0, text)
			has(t, d, nil, &other)
			loads(t, d, other, api.OK)
			d = with(t, &other, nil)
			put(t, d, 1, text)
			has(t, d, &other, nil)
			loads(t, d, other, api.OK)
		}
		d := with(t, nil, nil)
		put(t, d, 0, text)
		put(t, d, 1, text)
		has(t, d, nil, nil)
		loads(t, d, super.Super{}, api.ErrSuper)
	}
}

// P9.2: a slot that can't be read is none, whatever it had; the other one is loaded, be it the older one.
func TestOneThatCanNotBeRead(t *testing.T) {
	for _, n := range []uint64{0, 4, 5, math.MaxUint64} {
		for _, m := range []uint64{0, 4, 5, math.MaxUint64} {
			first, second := some(n, 1), some(m, 2)
			d := with(t, &first, &second)
			answers(t, d.Spoil(0), api.OK)
			has(t, d, nil, &second)
			loads(t, d, second, api.OK)
			answers(t, d.Spoil(1), api.OK)
			has(t, d, nil, nil)
			loads(t, d, super.Super{}, api.ErrSuper)
			d = with(t, &first, &second)
			answers(t, d.Spoil(1), api.OK)
			has(t, d, &first, nil)
			loads(t, d, first, api.OK)
		}
	}
}

// P9.2: of a drive of one sector there is no second slot.
func TestOneSectorHasOneSlot(t *testing.T) {
	s := some(7, 1)
	d := plain(t, 1)
	put(t, d, 0, sector(t, s))
	has(t, d, &s, nil)
	loads(t, d, s, api.OK)
}

// P9.2: what is read is what was written last, flushed or not.
func TestWhatIsNotFlushedIsLoaded(t *testing.T) {
	first, second, later := some(4, 1), some(5, 2), some(6, 3)
	d := with(t, &first, &second)
	answers(t, d.Write(0, sector(t, later)), api.OK)
	has(t, d, &later, &second)
	loads(t, d, later, api.OK)
	answers(t, d.Write(1, full("none")), api.OK)
	has(t, d, &later, nil)
	d.Crash([]uint8{0})
	has(t, d, &first, &second)
	loads(t, d, second, api.OK)
}

// P9.2: a dead drive is told to be dead, if it has superblocks or not, with power or without.
func TestLoadOfADeadDrive(t *testing.T) {
	first, second := some(4, 1), some(5, 2)
	for _, d := range []*drive.Drive{drive.New(1), drive.New(4), with(t, &first, nil), with(t, &first, &second)} {
		d.Die()
		has(t, d, nil, nil)
		loads(t, d, super.Super{}, api.ErrDead)
		d.Off(0)
		has(t, d, nil, nil)
		loads(t, d, super.Super{}, api.ErrDead)
		d.Crash(nil)
		loads(t, d, super.Super{}, api.ErrDead)
	}
}

// P9.2: of a drive without power neither slot is read.
func TestLoadWithoutPower(t *testing.T) {
	first, second := some(4, 1), some(5, 2)
	d := with(t, &first, &second)
	d.Off(0)
	has(t, d, nil, nil)
	loads(t, d, super.Super{}, api.ErrSuper)
	d.Crash(nil)
	has(t, d, &first, &second)
	loads(t, d, second, api.OK)
}

// P9.2: nothing is done to the drive, and what was loaded ahead changes nothing.
func TestLoadDoesNothing(t *testing.T) {
	first, second := some(4, 1), some(5, 2)
	d := with(t, &first, &second)
	answers(t, d.Write(3, full("waits")), api.OK)
	d.Off(1)
	for range 5 {
		has(t, d, &first, &second)
		loads(t, d, second, api.OK)
		loads(t, drive.New(2), super.Super{}, api.ErrSuper)
		pending(t, d, 1)
	}
	stands(t, d, sector(t, first), sector(t, second), full("sector 2"), full("sector 3"))
	answers(t, d.Flush(), api.OK)
	answers(t, d.Flush(), api.ErrOff)
}

// P9.3: by hand, one behind the other: Events rise by 1, whatever those of s are, and the slots take turns.
func TestNextOneByOne(t *testing.T) {
	d := drive.New(2)
	last := some(10, 0)
	next(t, d, some(9, 0), last, api.OK)
	has(t, d, &last, nil)
	for i, n := range []uint64{10, 11, 0, 1, 100, 1 << 40, math.MaxUint64, 3, 3, 3} {
		want := some(11+uint64(i), i)
		next(t, d, some(n, i), want, api.OK)
		pending(t, d, 0)
		if i%2 == 0 {
			has(t, d, &last, &want)
		} else {
			has(t, d, &want, &last)
		}
		loads(t, d, want, api.OK)
		last = want
	}
}

// P9.3: of s all but its Events is saved, not what was loaded; the other slot stays.
func TestNextKeepsAllElse(t *testing.T) {
	for i := range 30 {
		for k := range 30 {
			old, s, want := some(20, i), some(7, k), some(21, k)
			d := with(t, &old, nil)
			next(t, d, s, want, api.OK)
			stands(t, d, sector(t, old), sector(t, want), full("sector 2"), full("sector 3"))
		}
	}
}

// P9.3: what is loaded tells the Events, in whichever slot it stands.
func TestNextOfWhatIsLoaded(t *testing.T) {
	for i, n := range events() {
		for _, m := range events() {
			first, second, s := some(n, 1), some(m, 2), some(77, i)
			d := with(t, &first, &second)
			want := s
			want.Events = max(n, m) + 1
			next(t, d, s, want, api.OK)
			sectors := []string{sector(t, first), sector(t, second), full("sector 2"), full("sector 3")}
			sectors[want.Events%2] = sector(t, want)
			stands(t, d, sectors...)
			pending(t, d, 0)
		}
	}
}

// P9.3: where nothing is loaded it is 1 more than its own; behind the greatest number comes 0.
func TestNextOfNone(t *testing.T) {
	for i, n := range events() {
		for kind := range 3 {
			s, want := some(n, i), some(n+1, i)
			old := some(500, 9)
			d := with(t, &old, &old)
			if kind == 0 {
				d = drive.New(4)
			}
			if kind == 1 {
				d = plain(t, 4)
			}
			if kind == 2 {
				answers(t, d.Spoil(0), api.OK)
				answers(t, d.Spoil(1), api.OK)
			}
			next(t, d, s, want, api.OK)
			if b, e := d.Read(int(want.Events % 2)); b != sector(t, want) || e != api.OK {
				t.Fatalf("it is %q %d", b, e)
			}
			loads(t, d, want, api.OK)
		}
	}
}

// P9.3: a slot that can't be read tells nothing, and is written when it is its turn.
func TestNextBesideASpoiltOne(t *testing.T) {
	first, second := some(4, 1), some(5, 2)
	d := with(t, &first, &second)
	answers(t, d.Spoil(1), api.OK)
	want := some(5, 3)
	next(t, d, some(0, 3), want, api.OK)
	has(t, d, &first, &want)
	answers(t, d.Spoil(0), api.OK)
	again := some(6, 4)
	next(t, d, some(0, 4), again, api.OK)
	has(t, d, &again, &want)
}

// P9.3: what is not flushed as yet is loaded too.
func TestNextOfWhatIsNotFlushed(t *testing.T) {
	first, waits := some(4, 1), some(9, 2)
	d := with(t, &first, nil)
	answers(t, d.Write(1, sector(t, waits)), api.OK)
	want := some(10, 3)
	next(t, d, some(0, 3), want, api.OK)
	pending(t, d, 0)
	has(t, d, &want, &waits)
}

// P9.3: the error is that of Save, and nothing is told beside it.
func TestNextThatFails(t *testing.T) {
	old, s := some(4, 1), some(8, 2)
	for after := range 2 {
		for _, d := range []*drive.Drive{with(t, &old, nil), drive.New(2)} {
			d.Off(after)
			next(t, d, s, super.Super{}, api.ErrOff)
			pending(t, d, after)
		}
	}
	d := with(t, &old, nil)
	d.Die()
	next(t, d, s, super.Super{}, api.ErrDead)
	stands(t, d, sector(t, old), full("sector 1"))
}

// P9.3: nothing else is done to the drive but Save's write and flush, also when others wait.
func TestNextIsOneSave(t *testing.T) {
	old, s := some(4, 1), some(8, 2)
	for _, waits := range []int{0, 3} {
		for more := range 3 {
			for _, d := range []*drive.Drive{with(t, &old, nil), plain(t, 4)} {
				want := some(5, 2)
				if _, e := Load(d); e != api.OK {
					want = some(9, 2)
				}
				for range waits {
					answers(t, d.Write(3, full("waits")), api.OK)
				}
				d.Off(1)
				next(t, d, s, super.Super{}, api.ErrOff)
				pending(t, d, waits+1)
				d.Crash(nil)
				for range waits {
					answers(t, d.Write(3, full("waits")), api.OK)
				}
				d.Off(2 + more)
				next(t, d, s, want, api.OK)
				hasPower(t, d, more)
			}
		}
	}
}

// P9.3: of a drive with one slot each second one has no room.
func TestNextOnOneSector(t *testing.T) {
	d := drive.New(1)
	next(t, d, some(2, 1), super.Super{}, api.ErrRange)
	next(t, d, some(3, 1), some(4, 1), api.OK)
	next(t, d, some(3, 2), super.Super{}, api.ErrRange)
	next(t, d, some(4, 2), super.Super{}, api.ErrRange)
	loads(t, d, some(4, 1), api.OK)
}

// P9.3: what may not be is not saved, whatever the drive is.
func TestNextOfWhatMayNotBe(t *testing.T) {
	for _, s := range wrong() {
		old := some(4, 1)
		for kind := range 4 {
			d := with(t, &old, nil)
			if kind == 1 {
				d.Off(0)
			}
			if kind == 2 {
				d.Die()
			}
			if kind == 3 {
				d = drive.New(1)
			}
			next(t, d, s, super.Super{}, api.ErrArg)
			pending(t, d, 0)
			if kind < 3 {
				stands(t, d, sector(t, old), full("sector 1"), full("sector 2"), full("sector 3"))
			}
		}
	}
}

// R5: drives have nothing in common.
func TestDrivesAreTheirOwn(t *testing.T) {
	a, b := drive.New(2), drive.New(2)
	next(t, a, some(6, 1), some(7, 1), api.OK)
	loads(t, b, super.Super{}, api.ErrSuper)
	next(t, b, some(0, 2), some(1, 2), api.OK)
	loads(t, a, some(7, 1), api.OK)
	next(t, a, some(0, 3), some(8, 3), api.OK)
	next(t, b, some(0, 4), some(2, 4), api.OK)
	one, two := some(1, 2), some(2, 4)
	has(t, b, &two, &one)
}
