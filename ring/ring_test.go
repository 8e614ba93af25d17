package ring

import (
	"encoding/binary"
	"hash/crc32"
	"math"
	"slices"
	"strconv"
	"strings"
	"testing"

	"revetment/api"
	"revetment/drive"
	"revetment/record"
)

// chance tells numbers that are the same in each run.
type chance uint64

func (c *chance) below(n int) int {
	*c = *c*6364136223846793005 + 1442695040888963407
	return int(uint64(*c)>>33) % n
}

// checksum is the sum of a text, as it is told by others than this project.
func checksum(s string) uint32 {
	return crc32.Checksum([]byte(s), crc32.MakeTable(crc32.Castagnoli))
}

// sealed is a sector of these bytes, filled up, and their sum.
func sealed(text string) string {
	body := make([]byte, 60)
	copy(body, text)
	return string(binary.LittleEndian.AppendUint32(body, checksum(string(body))))
}

// stamp is a mark's sector as the chapter says it, without asking any layer.
func stamp(n uint64) string {
	return sealed(string(binary.LittleEndian.AppendUint64([]byte("RVTM"), n)))
}

// texts are the Data of all parts, in order.
func texts(l []record.Part) []string {
	out := []string{}
	for _, p := range l {
		out = append(out, p.Data)
	}
	return out
}

// block is a record's head as its chapter says it, without asking any layer.
func block(r record.Record) string {
	b := binary.LittleEndian.AppendUint64([]byte("RVTJ"), r.Seq)
	b = append(binary.LittleEndian.AppendUint16(b, uint16(r.Row)), byte(len(r.Parts)))
	b = binary.LittleEndian.AppendUint32(b, checksum(strings.Join(texts(r.Parts), "")))
	for _, p := range r.Parts {
		b = append(b, byte(4*p.Col+p.Off))
	}
	return sealed(string(b))
}

// whole are a record's sectors: its head, and its load.
func whole(r record.Record) []string {
	return append([]string{block(r)}, texts(r.Parts)...)
}

// data is a sector's bytes, told by which; each is another one. Some look like what a ring puts beside them.
func data(which int) string {
	switch which {
	case 0:
		return strings.Repeat("\x00", 64)
	case 1:
		return strings.Repeat("\xff", 64)
	case 2:
		return strings.Repeat("\xc3\xa9", 32)
	case 3:
		return stamp(9)
	case 4:
		return block(record.Record{Seq: 1, Row: 1, Parts: []record.Part{{Col: 1, Data: strings.Repeat("\x00", 64)}}})
	}
	c := chance(which)
	b := make([]byte, 64)
	for i := range b {
		b[i] = byte(c.below(256))
	}
	return string(b)
}

// some are so many parts that may be a record's, told by which: their places are mixed.
func some(which, count int) []record.Part {
	c := chance(1000*which + count)
	places := make([]int, 40)
	for i := range places {
		k := c.below(i + 1)
		places[i], places[k] = places[k], i
	}
	l := []record.Part{}
	for _, n := range places[:count] {
		l = append(l, record.Part{Col: n / 4, Off: n % 4, Data: data(c.below(300))})
	}
	return l
}

// of is the record n, of so many parts; its row and parts are told by its number.
func of(n uint64, count int) record.Record {
	return record.Record{Seq: n, Row: int(n*37) & 255, Parts: some(int(n&0xffff), count)}
}

// full is a text, filled up to a sector.
func full(text string) string {
	return text + strings.Repeat(".", api.Sector-len(text))
}

// plain is a drive of so many sectors, each with a text of its own, safe; none is a mark, or a head.
func plain(t *testing.T, sectors int) *drive.Drive {
	t.Helper()
	d := drive.New(sectors)
	for i := range sectors {
		lay(t, d, i, full("sector "+strconv.Itoa(i)))
	}
	return d
}

// room is how many sectors a drive of so many slots has, and some more that are no slot.
func room(slots int) int {
	return 4 + 41*slots + slots%41
}

// lay makes sectors' bytes safe, from the sector i on, told to nobody.
func lay(t *testing.T, d *drive.Drive, i int, l ...string) {
	t.Helper()
	for k, text := range l {
		answers(t, d.Change(i+k, text), api.OK)
	}
}

// slot is the first sector of the slot of the number n, of so many.
func slot(n uint64, slots int) int {
	return 4 + 41*int(n%uint64(slots))
}

// with is a drive of so many slots with that mark, and these records where they stand; it has not been formatted.
func with(t *testing.T, slots int, trimmed uint64, l ...record.Record) *drive.Drive {
	t.Helper()
	d := plain(t, room(slots))
	lay(t, d, 3, stamp(trimmed))
	for _, r := range l {
		lay(t, d, slot(r.Seq, slots), whole(r)...)
	}
	return d
}

// run are so many records, one behind the other, the first of them of the number from.
func run(from uint64, count int) []record.Record {
	l := []record.Record{}
	for i := range count {
		l = append(l, of(from+uint64(i), 1+(i*7+int(from&7))%40))
	}
	return l
}

// shot is what all sectors of a drive have, safe.
func shot(d *drive.Drive) []string {
	l := []string{}
	for i := range d.Sectors() {
		s, _ := d.Safe(i)
		l = append(l, s)
	}
	return l
}

// stands tells whether all sectors of the drive are these, safe.
func stands(t *testing.T, d *drive.Drive, want []string) {
	t.Helper()
	for i, s := range shot(d) {
		if s != want[i] {
			t.Fatalf("the sector %d is %q, not %q", i, s, want[i])
		}
	}
}

// laid are the sectors after some of them, from the sector i on, are others.
func laid(l []string, i int, by ...string) []string {
	l = slices.Clone(l)
	copy(l[i:i+len(by)], by)
	return l
}

func answers(t *testing.T, got, want api.Errno) {
	t.Helper()
	if got != want {
		t.Fatalf("the answer is %d, not %d", got, want)
	}
}

func pending(t *testing.T, d *drive.Drive, want int) {
	t.Helper()
	if got := d.Pending(); got != want {
		t.Fatalf("%d writes wait, not %d", got, want)
	}
}

// hasPower tells whether the drive has power for just so many flushes.
func hasPower(t *testing.T, d *drive.Drive, flushes int) {
	t.Helper()
	for range flushes {
		answers(t, d.Flush(), api.OK)
	}
	answers(t, d.Flush(), api.ErrOff)
}

// same tells whether both records are the same.
func same(a, b record.Record) bool {
	return a.Seq == b.Seq && a.Row == b.Row && slices.Equal(a.Parts, b.Parts)
}

// says tells whether the ring tells just that of itself.
func says(t *testing.T, r *Ring, left int, next uint64) {
	t.Helper()
	if r.Left() != left || r.Next() != next {
		t.Fatalf("left are %d, next is %d, not %d and %d", r.Left(), r.Next(), left, next)
	}
}

// finds tells whether Open finds just these records, and what then is left, and next; it hands out the ring. Open neither writes nor flushes.
func finds(t *testing.T, d *drive.Drive, left int, next uint64, want ...record.Record) *Ring {
	t.Helper()
	r, l, e := Open(d)
	if e != api.OK || r == nil {
		t.Fatalf("it is not opened: %d", e)
	}
	if !slices.EqualFunc(l, want, same) {
		t.Fatalf("found are %v, not %v", l, want)
	}
	says(t, r, left, next)
	return r
}

// fails tells whether Open answers nothing but that error.
func fails(t *testing.T, d *drive.Drive, e api.Errno) {
	t.Helper()
	if r, l, f := Open(d); r != nil || len(l) != 0 || f != e {
		t.Fatalf("Open: %v %v %d, not %d", r, l, f, e)
	}
}

// appends tells whether Append answers just that.
func appends(t *testing.T, r *Ring, row int, parts []record.Part, want uint64, e api.Errno) {
	t.Helper()
	if n, f := r.Append(row, parts); n != want || f != e {
		t.Fatalf("Append: %d %d, not %d %d", n, f, want, e)
	}
}

// puts appends a record that goes well.
func puts(t *testing.T, r *Ring, x record.Record) {
	t.Helper()
	appends(t, r, x.Row, x.Parts, x.Seq, api.OK)
}

// numbers are marks' numbers: near and far, those at the end of some bytes, and of all.
func numbers() []uint64 {
	return []uint64{0, 1, 2, 127, 128, 255, 256, 258, 65535, 65536, 1<<31 - 1, 1 << 31, 1<<32 - 1, 1 << 32, 1<<40 + 5, 1<<53 + 1, 1<<63 - 2, 1<<63 - 1, 1 << 63, 0x0102030405060708, math.MaxUint64 - 2, math.MaxUint64 - 1, math.MaxUint64}
}

// P13.1: by hand, and what is below.
func TestSlotsByHand(t *testing.T) {
	for sectors, want := range map[int]int{
		math.MinInt: 0, math.MinInt + 1: 0, math.MinInt + 3: 0, math.MinInt + 44: 0, -1 << 32: 0, -45: 0, -41: 0, -38: 0, -37: 0, -36: 0, -1: 0,
		0: 0, 1: 0, 3: 0, 4: 0, 5: 0, 40: 0, 41: 0, 44: 0, 45: 1, 46: 1, 85: 1, 86: 2, 126: 2, 127: 3, 4095: 99, 4096: 99, 4104: 100,
		math.MaxInt: (math.MaxInt - 4) / 41,
	} {
		if got := Slots(sectors); got != want {
			t.Errorf("%d: %d, not %d", sectors, got, want)
		}
	}
}

// P13.1: all numbers of sectors, one by one: one slot more behind each 41.
func TestSlots(t *testing.T) {
	for sectors := -500; sectors < 9000; sectors++ {
		want := 0
		for end := 45; end <= sectors; end += 41 {
			want++
		}
		if got := Slots(sectors); got != want {
			t.Fatalf("%d: %d, not %d", sectors, got, want)
		}
	}
}

// P13.1: by hand, as bytes: a mark; the sum was told by another program.
func TestMarkByHand(t *testing.T) {
	d := plain(t, 45)
	answers(t, Format(d), api.OK)
	if s, _ := d.Safe(3); s != "RVTM"+strings.Repeat("\x00", 56)+"\xf0\x24\xe8\x2d" {
		t.Errorf("%q", s)
	}
	lay(t, d, 3, stamp(0x0102030405060707))
	r := finds(t, d, 1, 0x0102030405060708)
	puts(t, r, of(0x0102030405060708, 1))
	answers(t, r.Trim(0x0102030405060708), api.OK)
	if s, _ := d.Safe(3); s != "RVTM"+"\x08\x07\x06\x05\x04\x03\x02\x01"+strings.Repeat("\x00", 48)+"\x84\x30\xe6\xca" {
		t.Errorf("%q", s)
	}
}

// P13.1: each record stands in the slot of its number, its head first, its load behind it; nothing else is written.
func TestWhereRecordsStand(t *testing.T) {
	for slots := 1; slots <= 7; slots++ {
		d := plain(t, room(slots))
		answers(t, Format(d), api.OK)
		r := finds(t, d, slots, 1)
		want := shot(d)
		for _, x := range run(1, 3*slots+2) {
			puts(t, r, x)
			want = laid(want, slot(x.Seq, slots), whole(x)...)
			stands(t, d, want)
			answers(t, r.Trim(x.Seq), api.OK)
			want = laid(want, 3, stamp(x.Seq))
			stands(t, d, want)
		}
	}
}

// P13.1: by hand: of two slots the record 1 stands in the one that begins at the sector 45, the record 2 in the one at 4.
func TestSlotsByHandOnADrive(t *testing.T) {
	d := plain(t, 86)
	answers(t, Format(d), api.OK)
	r := finds(t, d, 2, 1)
	puts(t, r, of(1, 40))
	puts(t, r, of(2, 40))
	for i, x := range map[int]string{45: block(of(1, 40)), 46: of(1, 40).Parts[0].Data, 85: of(1, 40).Parts[39].Data, 4: block(of(2, 40)), 5: of(2, 40).Parts[0].Data, 44: of(2, 40).Parts[39].Data, 3: stamp(0), 2: full("sector 2")} {
		if s, _ := d.Safe(i); s != x {
			t.Errorf("the sector %d is %q, not %q", i, s, x)
		}
	}
}

// P13.1: a drive of as many sectors as may be, with all of its slots.
func TestGreatestDrive(t *testing.T) {
	d := plain(t, api.MaxDrive)
	answers(t, Format(d), api.OK)
	r := finds(t, d, 99, 1)
	l := run(1, 99)
	want := shot(d)
	for i, x := range l {
		says(t, r, 99-i, x.Seq)
		puts(t, r, x)
		want = laid(want, slot(x.Seq, 99), whole(x)...)
	}
	stands(t, d, want)
	appends(t, r, 1, some(1, 1), 0, api.ErrBusy)
	finds(t, d, 0, 100, l...)
	answers(t, r.Trim(98), api.OK)
	finds(t, d, 98, 100, l[98])
}

// P13.1: numbers go round: behind the greatest one comes 0, which is a record's number as any other then.
func TestNumbersGoRound(t *testing.T) {
	for _, slots := range []int{1, 2, 4, 8, 16} {
		for back := range uint64(slots + 2) {
			from := math.MaxUint64 - back
			d := with(t, slots, from)
			r := finds(t, d, slots, from+1)
			l := run(from+1, slots)
			for i, x := range l {
				says(t, r, slots-i, x.Seq)
				puts(t, r, x)
			}
			appends(t, r, 1, some(1, 1), 0, api.ErrBusy)
			finds(t, d, 0, from+1+uint64(slots), l...)
			for i, x := range l {
				answers(t, r.Trim(x.Seq), api.OK)
				says(t, r, i+1, from+1+uint64(slots))
				finds(t, d, i+1, from+1+uint64(slots), l[i+1:]...)
			}
			answers(t, r.Trim(from), api.ErrArg)
		}
	}
}

// P13.1, P13.4: as the words have it, of other numbers of slots, two numbers about the end may stand in the same slot: of three slots the greatest one, and 0. The later one is written, and is not found, as the one ahead of it is not.
func TestNumbersGoRoundInThreeSlots(t *testing.T) {
	d := with(t, 3, math.MaxUint64-1)
	r := finds(t, d, 3, math.MaxUint64)
	puts(t, r, of(math.MaxUint64, 2))
	finds(t, d, 2, 0, of(math.MaxUint64, 2))
	puts(t, r, of(0, 1))
	says(t, r, 1, 1)
	if s, _ := d.Safe(4); s != block(of(0, 1)) {
		t.Errorf("%q", s)
	}
	finds(t, d, 3, math.MaxUint64)
	answers(t, r.Trim(math.MaxUint64), api.OK)
	finds(t, d, 2, 1, of(0, 1))
}

// P13.2: each slot's first sector has bytes 0, and the mark is that of 0; all else stays; all is safe.
func TestFormat(t *testing.T) {
	for slots := 1; slots <= 99; slots++ {
		for _, sectors := range []int{4 + 41*slots, min(4+41*slots+40, api.MaxDrive)} {
			d := plain(t, sectors)
			want := laid(shot(d), 3, stamp(0))
			for k := range slots {
				want[4+41*k] = data(0)
			}
			answers(t, Format(d), api.OK)
			stands(t, d, want)
			pending(t, d, 0)
			finds(t, d, slots, 1)
		}
	}
}

// P13.2: a drive without a slot: nothing is written, or flushed; whatever else the drive is.
func TestFormatNoSlot(t *testing.T) {
	for sectors := 1; sectors <= 44; sectors++ {
		for kind := range 4 {
			d := plain(t, sectors)
			want := shot(d)
			answers(t, d.Write(0, full("waits")), api.OK)
			if kind&1 != 0 {
				d.Die()
			}
			if kind&2 != 0 {
				d.Off(0)
			}
			answers(t, Format(d), api.ErrArg)
			stands(t, d, want)
			pending(t, d, 1)
		}
	}
	answers(t, Format(&drive.Drive{}), api.ErrArg)
}

// P13.2: a drive with a slot that is dead, or without power: that is the answer, and nothing is another one.
func TestFormatFails(t *testing.T) {
	for _, sectors := range []int{45, 86, 4096} {
		for kind, e := range []api.Errno{api.OK, api.ErrDead, api.ErrOff, api.ErrDead} {
			d := plain(t, sectors)
			want := shot(d)
			if kind&1 != 0 {
				d.Die()
			}
			if kind&2 != 0 {
				d.Off(0)
			}
			answers(t, Format(d), e)
			if e != api.OK {
				stands(t, d, want)
				pending(t, d, 0)
			}
		}
	}
}

// P13.2: with the power gone at each place: the slots are written rising, then the mark, then it is flushed, once.
func TestFormatStepByStep(t *testing.T) {
	for slots := 1; slots <= 5; slots++ {
		for after := range slots + 5 {
			for keep := range uint8(2) {
				d := with(t, slots, 7, run(8, slots)...)
				want := shot(d)
				kept := laid(want, 0)
				for k := range min(after, slots) {
					kept[4+41*k] = data(0)
				}
				if after > slots {
					kept[3] = stamp(0)
				}
				if keep == 1 || after > slots+1 {
					want = kept
				}
				d.Off(after)
				if after < slots+2 {
					answers(t, Format(d), api.ErrOff)
					pending(t, d, min(after, slots+1))
				} else {
					answers(t, Format(d), api.OK)
					hasPower(t, d, after-slots-2)
				}
				d.Crash([]uint8{keep})
				stands(t, d, want)
			}
		}
	}
}

// P13.2: what stood there is found no more, also where the mark, or a slot, could not be read; other writes that wait are flushed, too.
func TestFormatEnds(t *testing.T) {
	for slots := 1; slots <= 6; slots++ {
		for _, trimmed := range numbers() {
			d := with(t, slots, trimmed, run(trimmed+1, slots)...)
			for i := 3; i < d.Sectors(); i += 1 + slots {
				answers(t, d.Spoil(i), api.OK)
			}
			answers(t, d.Write(1, full("waits")), api.OK)
			answers(t, Format(d), api.OK)
			finds(t, d, slots, 1)
			d.Crash(nil)
			r := finds(t, d, slots, 1)
			if s, _ := d.Safe(1); s != full("waits") {
				t.Fatalf("%q", s)
			}
			puts(t, r, of(1, 40))
			finds(t, d, slots-1, 2, of(1, 40))
		}
	}
}
