package drive

import (
	"math"
	"slices"
	"strings"
	"testing"

	"revetment/api"
)

// full is a text, filled up to a sector by bytes 0.
func full(s string) string {
	return s + strings.Repeat("\x00", api.Sector-len(s))
}

// made is a drive of so many sectors; of each one its safe bytes are its own letter.
func made(t *testing.T, sectors int) *Drive {
	t.Helper()
	d := New(sectors)
	for i := range sectors {
		well(t, d.Write(i, full(letter(i))))
	}
	well(t, d.Flush())
	return d
}

// letter is the one that made writes to the sector i.
func letter(i int) string {
	return string(rune('a' + i%26))
}

// well is told of a call that should have no error.
func well(t *testing.T, e api.Errno) {
	t.Helper()
	answers(t, e, api.OK)
}

func answers(t *testing.T, got, want api.Errno) {
	t.Helper()
	if got != want {
		t.Errorf("the answer is %d, not %d", got, want)
	}
}

func reads(t *testing.T, d *Drive, i int, want string) {
	t.Helper()
	if got, e := d.Read(i); got != full(want) || e != api.OK {
		t.Errorf("Read(%d) = %q, %d, not %q", i, got, e, want)
	}
}

func fails(t *testing.T, d *Drive, i int, want api.Errno) {
	t.Helper()
	if got, e := d.Read(i); got != "" || e != want {
		t.Errorf("Read(%d) = %q, %d, not nothing and %d", i, got, e, want)
	}
}

func safe(t *testing.T, d *Drive, i int, want string) {
	t.Helper()
	if got, e := d.Safe(i); got != full(want) || e != api.OK {
		t.Errorf("Safe(%d) = %q, %d, not %q", i, got, e, want)
	}
}

func pending(t *testing.T, d *Drive, want int) {
	t.Helper()
	if got := d.Pending(); got != want {
		t.Errorf("Pending() = %d, not %d", got, want)
	}
}

// strange are numbers that a drive of so many sectors has no sector of.
func strange(sectors int) []int {
	return []int{-1, sectors, sectors + 1, -sectors, 1 << 32, -1 << 32, math.MinInt, math.MaxInt}
}

// wrong are texts that are no sector.
func wrong() []string {
	return []string{"", "a", strings.Repeat("a", 63), strings.Repeat("a", 65), strings.Repeat("a", 128), strings.Repeat("a", 600)}
}

// P4.1: how many sectors there may be.
func TestNewAtItsEdges(t *testing.T) {
	for _, sectors := range []int{0, -1, 4097, 4098, 8192, 1 << 32, 1<<32 + 1, math.MinInt, math.MaxInt} {
		if New(sectors) != nil {
			t.Errorf("there is a drive of %d", sectors)
		}
	}
	for _, sectors := range []int{1, 2, 3, 64, 4095, 4096} {
		d := New(sectors)
		if d == nil {
			t.Errorf("there is no drive of %d", sectors)
			continue
		}
		if d.Sectors() != sectors || d.Dead() {
			t.Errorf("a drive of %d has %d, dead %t", sectors, d.Sectors(), d.Dead())
		}
		pending(t, d, 0)
	}
}

// P4.1: all bytes 0, safe.
func TestNewIsEmpty(t *testing.T) {
	d := New(api.MaxDrive)
	for i := range api.MaxDrive {
		reads(t, d, i, "")
		safe(t, d, i, "")
	}
	d.Crash(nil)
	reads(t, d, 0, "")
	reads(t, d, api.MaxDrive-1, "")
}

// P4.1: two drives have nothing in common.
func TestNewIsItsOwn(t *testing.T) {
	a, b := New(2), New(2)
	well(t, a.Write(0, full("x")))
	well(t, a.Flush())
	well(t, a.Spoil(1))
	a.Off(0)
	a.Die()
	reads(t, b, 0, "")
	reads(t, b, 1, "")
	pending(t, b, 0)
}

// P4.1: writes are counted one by one, those to the same sector too, and none that failed.
func TestPending(t *testing.T) {
	d := New(3)
	for count, i := range []int{0, 0, 2, 0, 1, 2} {
		pending(t, d, count)
		well(t, d.Write(i, full("x")))
	}
	pending(t, d, 6)
	answers(t, d.Write(3, full("x")), api.ErrRange)
	answers(t, d.Write(0, "x"), api.ErrArg)
	pending(t, d, 6)
	well(t, d.Spoil(0))
	pending(t, d, 6)
	well(t, d.Change(0, full("y")))
	pending(t, d, 3)
	d.Off(0)
	pending(t, d, 3)
	d.Die()
	pending(t, d, 3)
	d.Crash([]uint8{1})
	pending(t, d, 0)
	if d.Sectors() != 3 {
		t.Errorf("there are %d sectors", d.Sectors())
	}
}

// P4.2: the last write's bytes are read, the safe ones told.
func TestReadIsTheLastWrite(t *testing.T) {
	d := made(t, 4)
	for _, s := range []string{"x", "y", "", "z", strings.Repeat("\xff", 64), "x"} {
		well(t, d.Write(2, full(s)))
		reads(t, d, 2, s)
		safe(t, d, 2, "c")
	}
	for _, i := range []int{0, 1, 3} {
		reads(t, d, i, letter(i))
		safe(t, d, i, letter(i))
	}
}

// P4.2: every byte of a sector is its own, at each place.
func TestBytesAreKept(t *testing.T) {
	d := New(256)
	want := []string{}
	for i := range 256 {
		s := []byte{}
		for at := range 64 {
			s = append(s, byte(i*7+at*5))
		}
		want = append(want, string(s))
		well(t, d.Write(i, string(s)))
	}
	for i := range 256 {
		reads(t, d, i, want[i])
	}
	well(t, d.Flush())
	for i := range 256 {
		reads(t, d, i, want[i])
		safe(t, d, i, want[i])
	}
}

// P4.2: sectors that there are not.
func TestRange(t *testing.T) {
	for _, sectors := range []int{1, 5, 4096} {
		d := New(sectors)
		for _, i := range strange(sectors) {
			fails(t, d, i, api.ErrRange)
			answers(t, d.Write(i, full("x")), api.ErrRange)
			answers(t, d.Spoil(i), api.ErrRange)
			answers(t, d.Change(i, full("x")), api.ErrRange)
			if s, e := d.Safe(i); s != "" || e != api.ErrRange {
				t.Errorf("Safe(%d) = %q, %d", i, s, e)
			}
		}
		pending(t, d, 0)
		reads(t, d, 0, "")
		reads(t, d, sectors-1, "")
	}
}

// P4.2: texts that are no sector; what was there is there.
func TestLengths(t *testing.T) {
	d := made(t, 2)
	well(t, d.Write(1, full("y")))
	well(t, d.Spoil(0))
	for _, s := range wrong() {
		answers(t, d.Write(0, s), api.ErrArg)
		answers(t, d.Write(1, s), api.ErrArg)
		answers(t, d.Change(0, s), api.ErrArg)
		answers(t, d.Change(1, s), api.ErrArg)
	}
	fails(t, d, 0, api.ErrRead)
	reads(t, d, 1, "y")
	safe(t, d, 0, "a")
	safe(t, d, 1, "b")
	pending(t, d, 1)
}

// P4.2: a dead drive comes first, then the power, then the sector, then its bytes.
func TestWhichErrorIsFirst(t *testing.T) {
	states := []struct {
		name      string
		dead, off bool
		want      api.Errno
	}{
		{"dead and off", true, true, api.ErrDead}, {"dead", true, false, api.ErrDead}, {"off", false, true, api.ErrOff}, {"neither", false, false, api.OK},
	}
	for _, state := range states {
		d := made(t, 2)
		well(t, d.Spoil(1))
		if state.off {
			d.Off(0)
		}
		if state.dead {
			d.Die()
		}
		for _, i := range []int{1, 2, -1} {
			for _, s := range []string{full("x"), "x"} {
				want := state.want
				if want == api.OK && i != 1 {
					want = api.ErrRange
				}
				spoil, read := want, want
				if want == api.OK {
					read = api.ErrRead
				}
				if want == api.OK && len(s) != api.Sector {
					want = api.ErrArg
				}
				fails(t, d, i, read)
				answers(t, d.Spoil(i), spoil)
				answers(t, d.Change(i, s), want)
				fails(t, d, i, read)
				answers(t, d.Write(i, s), want)
				if want == api.OK {
					well(t, d.Spoil(i))
				}
			}
		}
		answers(t, d.Flush(), state.want)
	}
}

// P4.2: the safe bytes are told of a spoilt sector, without power, and of a dead drive.
func TestSafeIsAlwaysTold(t *testing.T) {
	d := made(t, 2)
	well(t, d.Write(1, full("x")))
	well(t, d.Spoil(1))
	safe(t, d, 1, "b")
	d.Off(0)
	safe(t, d, 1, "b")
	d.Die()
	safe(t, d, 1, "b")
	if s, e := d.Safe(2); s != "" || e != api.ErrRange {
		t.Errorf("Safe of no sector is %q, %d", s, e)
	}
	d.Crash(nil)
	safe(t, d, 1, "b")
	safe(t, d, 0, "a")
}

// P4.2: a spoilt sector is not read till it is written; no other one is spoilt.
func TestSpoil(t *testing.T) {
	d := made(t, 3)
	well(t, d.Spoil(1))
	well(t, d.Spoil(1))
	fails(t, d, 1, api.ErrRead)
	reads(t, d, 0, "a")
	reads(t, d, 2, "c")
	well(t, d.Flush())
	fails(t, d, 1, api.ErrRead)
	d.Crash([]uint8{1})
	fails(t, d, 1, api.ErrRead)
	well(t, d.Write(0, full("x")))
	fails(t, d, 1, api.ErrRead)
	well(t, d.Write(1, full("y")))
	reads(t, d, 1, "y")
	safe(t, d, 1, "b")
}

// P4.2: what is written to a spoilt sector makes it one that is read for good, also if it is lost.
func TestWriteEndsSpoil(t *testing.T) {
	d := made(t, 1)
	well(t, d.Spoil(0))
	well(t, d.Write(0, full("x")))
	d.Crash(nil)
	reads(t, d, 0, "a")
}

// P4.2: the writes of a sector that is spoilt go on: they are flushed, or kept by a crash.
func TestSpoilKeepsWrites(t *testing.T) {
	d := made(t, 2)
	for i := range 2 {
		well(t, d.Write(i, full("x")))
		well(t, d.Write(i, full("y")))
		well(t, d.Spoil(i))
		fails(t, d, i, api.ErrRead)
		safe(t, d, i, letter(i))
	}
	pending(t, d, 4)
	d.Crash([]uint8{1, 0})
	safe(t, d, 0, "x")
	safe(t, d, 1, "b")
	well(t, d.Write(1, full("z")))
	well(t, d.Spoil(1))
	well(t, d.Flush())
	safe(t, d, 1, "z")
	fails(t, d, 0, api.ErrRead)
	fails(t, d, 1, api.ErrRead)
}

// P4.2: what is changed is safe, and the sector's own writes are gone, nobody else's.
func TestChange(t *testing.T) {
	d := made(t, 3)
	for range 3 {
		well(t, d.Write(0, full("x")))
		well(t, d.Write(1, full("y")))
	}
	well(t, d.Change(1, full("lie")))
	reads(t, d, 1, "lie")
	safe(t, d, 1, "lie")
	reads(t, d, 0, "x")
	safe(t, d, 0, "a")
	pending(t, d, 3)
	d.Crash([]uint8{3, 3})
	reads(t, d, 0, "x")
	reads(t, d, 1, "lie")
	reads(t, d, 2, "c")
	well(t, d.Change(2, full("lie")))
	well(t, d.Flush())
	reads(t, d, 2, "lie")
	well(t, d.Write(2, full("z")))
	reads(t, d, 2, "z")
	safe(t, d, 2, "lie")
}

// P4.2: a change is no write, so a spoilt sector stays so.
func TestChangeOfASpoiltSector(t *testing.T) {
	d := made(t, 1)
	well(t, d.Spoil(0))
	well(t, d.Change(0, full("lie")))
	fails(t, d, 0, api.ErrRead)
	safe(t, d, 0, "lie")
	well(t, d.Write(0, full("x")))
	d.Crash(nil)
	reads(t, d, 0, "lie")
}

// P4.3: of each sector the last write is safe, and none is left.
func TestFlush(t *testing.T) {
	d := made(t, 5)
	for _, w := range []struct {
		i int
		s string
	}{{4, "x"}, {0, "y"}, {4, "z"}, {2, "u"}, {0, "v"}, {0, "w"}} {
		well(t, d.Write(w.i, full(w.s)))
	}
	well(t, d.Flush())
	pending(t, d, 0)
	for i, want := range []string{"w", "b", "u", "d", "z"} {
		safe(t, d, i, want)
		reads(t, d, i, want)
	}
	well(t, d.Flush())
	d.Crash(nil)
	for i, want := range []string{"w", "b", "u", "d", "z"} {
		safe(t, d, i, want)
		reads(t, d, i, want)
	}
}

// P4.3: a flush that fails makes nothing safe; the writes are still to be flushed.
func TestFlushThatFails(t *testing.T) {
	d := made(t, 1)
	well(t, d.Write(0, full("x")))
	d.Off(0)
	answers(t, d.Flush(), api.ErrOff)
	safe(t, d, 0, "a")
	pending(t, d, 1)
	d.Off(1)
	reads(t, d, 0, "x")
	well(t, d.Flush())
	safe(t, d, 0, "x")
	d.Off(9)
	well(t, d.Write(0, full("y")))
	d.Die()
	answers(t, d.Flush(), api.ErrDead)
	safe(t, d, 0, "x")
	pending(t, d, 1)
}

// P4.3
func TestDie(t *testing.T) {
	d := made(t, 2)
	if d.Dead() {
		t.Error("it is dead ahead of its time")
	}
	d.Die()
	d.Die()
	if !d.Dead() {
		t.Error("it is not dead")
	}
	fails(t, d, 0, api.ErrDead)
	answers(t, d.Write(0, full("x")), api.ErrDead)
	answers(t, d.Flush(), api.ErrDead)
	answers(t, d.Spoil(0), api.ErrDead)
	answers(t, d.Change(0, full("x")), api.ErrDead)
	safe(t, d, 0, "a")
	pending(t, d, 0)
	if d.Sectors() != 2 {
		t.Errorf("there are %d sectors", d.Sectors())
	}
}

// P4.3: without power it is not dead.
func TestOffIsNotDead(t *testing.T) {
	d := New(1)
	d.Off(0)
	if d.Dead() {
		t.Error("it is dead")
	}
	d.Crash(nil)
	if d.Dead() {
		t.Error("it is dead behind the crash")
	}
}

// P4.4: as many of the first writes as keep says, for every number of writes and of keep.
func TestCrashKeepsTheFirstOnes(t *testing.T) {
	for count := range 7 {
		for keep := range 256 {
			d := made(t, 1)
			for n := range count {
				well(t, d.Write(0, full(strings.Repeat("w", n+1))))
			}
			d.Crash([]uint8{uint8(keep)})
			want := "a"
			if kept := keep % (count + 1); kept > 0 {
				want = strings.Repeat("w", kept)
			}
			reads(t, d, 0, want)
			safe(t, d, 0, want)
			pending(t, d, 0)
		}
	}
}

// P4.4: more writes than keep can tell.
func TestCrashOfManyWrites(t *testing.T) {
	for _, count := range []int{254, 255, 256, 257, 511, 512} {
		for _, keep := range []int{0, 1, 127, 254, 255} {
			d := made(t, 1)
			for n := range count {
				well(t, d.Write(0, full(string([]byte{byte(n / 256), byte(n)})+"w")))
			}
			d.Crash([]uint8{uint8(keep)})
			want := "a"
			if kept := keep % (count + 1); kept > 0 {
				want = string([]byte{byte((kept - 1) / 256), byte(kept - 1)}) + "w"
			}
			reads(t, d, 0, want)
		}
	}
}

// P4.4: the k-th one is counted among those that have writes, by their numbers, not as they were written.
func TestCrashGoesByNumbers(t *testing.T) {
	d := made(t, 12)
	for _, i := range []int{11, 2, 10, 5, 1} {
		for _, s := range []string{"1", "2", "3", "4", "5"} {
			well(t, d.Write(i, full(s)))
		}
	}
	d.Crash([]uint8{1, 2, 3, 4, 5})
	for i, want := range []string{"a", "1", "2", "d", "e", "3", "g", "h", "i", "j", "4", "5"} {
		reads(t, d, i, want)
	}
}

// P4.4: all sectors of a drive, among which the map's order would be seen.
func TestCrashOfAllSectors(t *testing.T) {
	d := New(600)
	for i := 599; i >= 0; i-- {
		for _, s := range []string{"1", "2", "3"} {
			well(t, d.Write(i, full(s)))
		}
	}
	d.Crash([]uint8{0, 1, 2, 3, 7, 4, 253})
	for i := range 600 {
		reads(t, d, i, []string{"", "1", "2", "3", "3", "", "1"}[i%7])
	}
}

// P4.4: keep is gone through again when it ends; what lies behind its last sector is for nobody.
func TestCrashGoesRound(t *testing.T) {
	for _, c := range []struct {
		keep []uint8
		want string
	}{
		{nil, "abcde"}, {[]uint8{}, "abcde"}, {[]uint8{0}, "abcde"}, {[]uint8{1}, "11111"}, {[]uint8{2}, "22222"}, {[]uint8{3}, "abcde"}, {[]uint8{1, 2}, "12121"},
		{[]uint8{0, 1, 2}, "a12d1"}, {[]uint8{2, 0, 0, 0}, "2bcd2"}, {[]uint8{1, 1, 1, 1, 2}, "11112"}, {[]uint8{1, 1, 1, 1, 2, 2, 2}, "11112"}, {[]uint8{255, 254, 253}, "a21d2"},
	} {
		d := made(t, 5)
		for i := range 5 {
			well(t, d.Write(i, full("1")))
			well(t, d.Write(i, full("2")))
		}
		d.Crash(c.keep)
		for i := range 5 {
			reads(t, d, i, c.want[i:i+1])
		}
	}
}

// P4.4: a sector whose writes are gone is none that has writes.
func TestCrashLeavesOutWhatHasNone(t *testing.T) {
	d := made(t, 4)
	for i := range 4 {
		well(t, d.Write(i, full("1")))
	}
	well(t, d.Change(0, full("lie")))
	well(t, d.Change(2, full("lie")))
	d.Crash([]uint8{1, 0})
	for i, want := range []string{"lie", "1", "lie", "d"} {
		reads(t, d, i, want)
	}
	well(t, d.Write(3, full("2")))
	d.Crash([]uint8{1, 0})
	reads(t, d, 1, "1")
	reads(t, d, 3, "2")
}

// P4.4: what a crash left is safe in the next one, and what it took does not come back.
func TestCrashesOneBehindTheOther(t *testing.T) {
	d := made(t, 1)
	for _, s := range []string{"1", "2", "3"} {
		well(t, d.Write(0, full(s)))
	}
	d.Crash([]uint8{2})
	reads(t, d, 0, "2")
	d.Crash([]uint8{1})
	reads(t, d, 0, "2")
	well(t, d.Write(0, full("4")))
	d.Crash([]uint8{0})
	reads(t, d, 0, "2")
	well(t, d.Write(0, full("5")))
	reads(t, d, 0, "5")
	well(t, d.Flush())
	reads(t, d, 0, "5")
}

// P4.4: a dead drive crashes too, and stays dead.
func TestCrashOfADeadDrive(t *testing.T) {
	d := made(t, 2)
	for i := range 2 {
		well(t, d.Write(i, full("1")))
		well(t, d.Write(i, full("2")))
	}
	d.Off(0)
	d.Die()
	d.Crash([]uint8{1, 2})
	if !d.Dead() {
		t.Error("it lives")
	}
	fails(t, d, 0, api.ErrDead)
	answers(t, d.Flush(), api.ErrDead)
	safe(t, d, 0, "1")
	safe(t, d, 1, "2")
	pending(t, d, 0)
}

// P4.4: the power goes behind so many Writes and Flushes.
func TestOffCounts(t *testing.T) {
	for after := range 6 {
		for _, flushes := range []int{0, 1, 2, 3, 5, 6} {
			d := New(2)
			d.Off(after)
			for n := range after {
				fails(t, d, 2, api.ErrRange)
				if n < flushes {
					well(t, d.Flush())
				} else {
					well(t, d.Write(1, full("x")))
				}
			}
			fails(t, d, 0, api.ErrOff)
			fails(t, d, 2, api.ErrOff)
			answers(t, d.Write(0, full("x")), api.ErrOff)
			answers(t, d.Write(0, ""), api.ErrOff)
			answers(t, d.Flush(), api.ErrOff)
			answers(t, d.Spoil(0), api.ErrOff)
			answers(t, d.Change(0, full("x")), api.ErrOff)
			pending(t, d, max(after-flushes, 0))
			safe(t, d, 0, "")
		}
	}
}

// P4.4: the last one that is done is done as a whole.
func TestOffDoesTheLastOne(t *testing.T) {
	d := made(t, 1)
	d.Off(1)
	well(t, d.Write(0, full("x")))
	pending(t, d, 1)
	d.Crash([]uint8{1})
	reads(t, d, 0, "x")
	well(t, d.Write(0, full("y")))
	d.Off(1)
	well(t, d.Flush())
	safe(t, d, 0, "y")
	d.Crash(nil)
	reads(t, d, 0, "y")
}

// P4.4: what is neither a Write nor a Flush is not counted, and none that was not done.
func TestOffCountsNothingElse(t *testing.T) {
	d := made(t, 2)
	d.Off(2)
	for range 5 {
		reads(t, d, 0, "a")
		safe(t, d, 0, "a")
		well(t, d.Spoil(1))
		fails(t, d, 1, api.ErrRead)
		well(t, d.Change(1, full("lie")))
		answers(t, d.Write(2, full("x")), api.ErrRange)
		answers(t, d.Write(0, "x"), api.ErrArg)
		pending(t, d, 0)
	}
	well(t, d.Write(0, full("x")))
	reads(t, d, 0, "x")
	well(t, d.Write(0, full("y")))
	fails(t, d, 0, api.ErrOff)
}

// P4.4: below 0 is 0.
func TestOffBelow(t *testing.T) {
	for _, after := range []int{0, -1, -2, -300, math.MinInt} {
		d := New(1)
		d.Off(after)
		fails(t, d, 0, api.ErrOff)
		answers(t, d.Write(0, full("x")), api.ErrOff)
		answers(t, d.Flush(), api.ErrOff)
		d.Crash(nil)
		reads(t, d, 0, "")
	}
}

// P4.4: Off counts from now on: the power is there again, and what was told ahead of it is told no more.
func TestOffAnew(t *testing.T) {
	d := made(t, 1)
	d.Off(0)
	fails(t, d, 0, api.ErrOff)
	d.Off(2)
	reads(t, d, 0, "a")
	well(t, d.Write(0, full("x")))
	d.Off(3)
	for range 3 {
		well(t, d.Flush())
	}
	fails(t, d, 0, api.ErrOff)
	d.Off(100)
	well(t, d.Flush())
	d.Off(1)
	well(t, d.Flush())
	answers(t, d.Flush(), api.ErrOff)
	safe(t, d, 0, "x")
	d.Off(math.MaxInt)
	for range 300 {
		well(t, d.Write(0, full("y")))
	}
}

// P4.4: the writes of a drive without power wait for the crash.
func TestOffKeepsWrites(t *testing.T) {
	d := made(t, 1)
	well(t, d.Write(0, full("1")))
	well(t, d.Write(0, full("2")))
	d.Off(0)
	pending(t, d, 2)
	d.Off(5)
	reads(t, d, 0, "2")
	d.Off(0)
	d.Crash([]uint8{1})
	reads(t, d, 0, "1")
}

// P4.4: behind a crash the power is there as in a new drive, also if it was only told to go.
func TestCrashBringsThePower(t *testing.T) {
	for _, after := range []int{-1, 0, 1, 2, 5} {
		d := New(1)
		d.Off(after)
		for range min(after, 2) {
			well(t, d.Flush())
		}
		d.Crash(nil)
		for range 300 {
			well(t, d.Write(0, full("x")))
			well(t, d.Flush())
		}
		reads(t, d, 0, "x")
	}
}

// P4.4: a new drive's power never goes.
func TestPowerOfANewDrive(t *testing.T) {
	d := New(1)
	for range 3000 {
		well(t, d.Write(0, full("x")))
		well(t, d.Flush())
	}
	reads(t, d, 0, "x")
}

// P4.5: the example of the chapter, and what is flushed ahead of each kind of end.
func TestWhatIsFlushedOutlivesAnyCrash(t *testing.T) {
	for keep := range 256 {
		d := New(2)
		well(t, d.Write(0, full("a")))
		well(t, d.Flush())
		well(t, d.Write(1, full("b")))
		d.Off(0)
		d.Crash([]uint8{uint8(keep), 1, 255})
		reads(t, d, 0, "a")
	}
	d := New(1)
	well(t, d.Write(0, full("a")))
	well(t, d.Flush())
	well(t, d.Write(0, full("b")))
	d.Crash([]uint8{})
	reads(t, d, 0, "a")
}

// R3: what a crash keeps by is neither changed nor kept, what lies behind its length neither.
func TestKeepIsNeitherChangedNorKept(t *testing.T) {
	all := []uint8{1, 2, 3, 4}
	d := made(t, 4)
	crash := func() {
		for i := range 4 {
			for _, s := range []string{"1", "2", "3", "4"} {
				well(t, d.Write(i, full(s)))
			}
		}
		d.Crash(all[:2])
	}
	crash()
	if !slices.Equal(all, []uint8{1, 2, 3, 4}) {
		t.Errorf("keep became %v", all)
	}
	all[0], all[1] = 3, 4
	for i, want := range []string{"1", "2", "1", "2"} {
		reads(t, d, i, want)
	}
	crash()
	for i, want := range []string{"3", "4", "3", "4"} {
		reads(t, d, i, want)
	}
}

// R3: what was told stays as it was told.
func TestAnswersStay(t *testing.T) {
	d := made(t, 1)
	read, _ := d.Read(0)
	told, _ := d.Safe(0)
	well(t, d.Write(0, full("x")))
	written, _ := d.Read(0)
	well(t, d.Change(0, full("y")))
	well(t, d.Write(0, full("z")))
	well(t, d.Flush())
	if read != full("a") || told != full("a") || written != full("x") {
		t.Errorf("what was told became %q, %q, %q", read, told, written)
	}
}
