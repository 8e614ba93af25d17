package ring

import (
	"encoding/binary"
	"math"
	"slices"
	"strings"
	"testing"

	"revetment/api"
	"revetment/drive"
	"revetment/pages"
	"revetment/record"
)

// taken is what P13.3 says of a number's record, told by the bytes' places, without asking any layer but the drive.
func taken(d *drive.Drive, n uint64) (record.Record, bool) {
	at := slot(n, (d.Sectors()-4)/41)
	b, e := d.Read(at)
	if e != api.OK || b != sealed(b[:60]) || b[:4] != "RVTJ" {
		return record.Record{}, false
	}
	l := []byte(b)
	r := record.Record{Seq: binary.LittleEndian.Uint64(l[4:]), Row: int(binary.LittleEndian.Uint16(l[12:]))}
	count, sum := int(l[14]), binary.LittleEndian.Uint32(l[15:])
	if r.Seq != n || r.Row > 255 || count == 0 || count > 40 || strings.Trim(b[19+count:60], "\x00") != "" {
		return record.Record{}, false
	}
	for i, place := range l[19 : 19+count] {
		if place > 39 || slices.Contains(l[19:19+i], place) {
			return record.Record{}, false
		}
		s, e := d.Read(at + 1 + i)
		if e != api.OK {
			return record.Record{}, false
		}
		r.Parts = append(r.Parts, record.Part{Col: int(place) / 4, Off: int(place) % 4, Data: s})
	}
	return r, checksum(strings.Join(texts(r.Parts), "")) == sum
}

// opened is what P13.3 says of Open: the trimmed number, and the records.
func opened(d *drive.Drive) (uint64, []record.Record, api.Errno) {
	b, e := d.Read(3)
	if e != api.OK {
		return 0, nil, e
	}
	slots := (d.Sectors() - 4) / 41
	if b != sealed(b[:12]) || b[:4] != "RVTM" || slots < 1 {
		return 0, nil, api.ErrJournal
	}
	trimmed := binary.LittleEndian.Uint64([]byte(b[4:]))
	var l []record.Record
	for range slots {
		r, is := taken(d, trimmed+1+uint64(len(l)))
		if !is {
			break
		}
		l = append(l, r)
	}
	return trimmed, l, api.OK
}

// agrees tells whether Open answers what P13.3 says.
func agrees(t *testing.T, d *drive.Drive) (int, *Ring) {
	t.Helper()
	trimmed, l, e := opened(d)
	if e != api.OK {
		fails(t, d, e)
		return 0, nil
	}
	return len(l), finds(t, d, (d.Sectors()-4)/41-len(l), trimmed+1+uint64(len(l)), l...)
}

// P13.3: the error of reading the mark, also of a drive that has no slot, or is too small for a mark.
func TestOpenCantRead(t *testing.T) {
	for sectors := 1; sectors < 100; sectors++ {
		for kind := range 8 {
			d := plain(t, sectors)
			e := api.ErrJournal
			if sectors < 4 {
				e = api.ErrRange
			}
			if sectors > 3 && kind&1 != 0 {
				lay(t, d, 3, stamp(5))
				answers(t, d.Spoil(3), api.OK)
				e = api.ErrRead
			}
			if kind&2 != 0 {
				d.Off(0)
				e = api.ErrOff
			}
			if kind&4 != 0 {
				d.Die()
				e = api.ErrDead
			}
			fails(t, d, e)
		}
	}
	fails(t, &drive.Drive{}, api.ErrRange)
}

// P13.3: a good mark, but no slot.
func TestOpenNoSlot(t *testing.T) {
	for sectors := 4; sectors <= 44; sectors++ {
		for _, n := range numbers() {
			d := plain(t, sectors)
			lay(t, d, 3, stamp(n))
			fails(t, d, api.ErrJournal)
		}
	}
}

// P13.3: a sector that is no mark: of a new drive, of another sum, each bit of it turned.
func TestOpenNoMark(t *testing.T) {
	fails(t, drive.New(86), api.ErrJournal)
	for _, n := range []uint64{0, 9, math.MaxUint64} {
		d := with(t, 2, n, run(n+1, 2)...)
		for bit := range 512 {
			l := []byte(stamp(n))
			l[bit/8] ^= 1 << (bit % 8)
			lay(t, d, 3, string(l))
			fails(t, d, api.ErrJournal)
		}
		lay(t, d, 3, stamp(n))
		finds(t, d, 0, n+3, run(n+1, 2)...)
	}
	d := with(t, 2, 1, run(2, 2)...)
	page, e := pages.Encode(pages.Page{Events: 1, Bits: "\x00\x00\x00\x00\x00\x00\x00\x00"})
	answers(t, e, api.OK)
	for _, s := range []string{full("RVTM"), full("RVTM\x01"), strings.Repeat("\xff", 64), strings.Repeat("RVTM", 16), block(of(1, 1)), page, stamp(1)[:60] + "\x00\x00\x00\x00"} {
		lay(t, d, 3, s)
		fails(t, d, api.ErrJournal)
	}
}

// P13.3: bytes that begin by something else, with their own sum.
func TestOpenOtherMagic(t *testing.T) {
	d := with(t, 2, 1, run(2, 2)...)
	rest := "\x01" + strings.Repeat("\x00", 7)
	for i := range 4 {
		for to := range 256 {
			l := []byte("RVTM" + rest)
			if l[i] != byte(to) {
				l[i] = byte(to)
				lay(t, d, 3, sealed(string(l)))
				fails(t, d, api.ErrJournal)
			}
		}
	}
	for _, s := range []string{"", "RVT", "rvtm" + rest, " RVTM" + rest, "\x00RVTM" + rest, "MTVR" + rest, "RVTRVTM" + rest, "VTM" + rest, rest + "RVTM"} {
		lay(t, d, 3, sealed(s))
		fails(t, d, api.ErrJournal)
	}
}

// P13.3: a bit that is 1 somewhere behind the number, with the sum that is then theirs.
func TestOpenBehindTheNumber(t *testing.T) {
	for _, n := range []uint64{0, 1, 300, math.MaxUint64} {
		d := with(t, 3, n, run(n+1, 2)...)
		for bit := 8 * 12; bit < 8*60; bit++ {
			l := []byte(stamp(n)[:60])
			l[bit/8] ^= 1 << (bit % 8)
			lay(t, d, 3, sealed(string(l)))
			fails(t, d, api.ErrJournal)
		}
		lay(t, d, 3, sealed(stamp(n)[:12]+strings.Repeat("x", 48)))
		fails(t, d, api.ErrJournal)
	}
}

// P13.3: each number of a mark, with none to all records that have room behind it.
func TestOpen(t *testing.T) {
	for slots := 1; slots <= 5; slots++ {
		for _, n := range numbers() {
			if slots&(slots-1) != 0 && n+uint64(slots) < n {
				continue
			}
			for count := range slots + 1 {
				d := with(t, slots, n, run(n+1, count)...)
				want := shot(d)
				answers(t, d.Write(0, full("waits")), api.OK)
				d.Off(1)
				finds(t, d, slots-count, n+1+uint64(count), run(n+1, count)...)
				pending(t, d, 1)
				hasPower(t, d, 1)
				d.Crash(nil)
				stands(t, d, laid(want, 0, full("waits")))
			}
		}
	}
}

// P13.3: each bit of a mark's number, and each count of parts.
func TestOpenEachBit(t *testing.T) {
	for bit := range 64 {
		n := uint64(1) << bit
		finds(t, with(t, 2, n), 2, n+1)
		finds(t, with(t, 2, n, of(n+1, 1+bit%40), of(n+2, 40-bit%40)), 0, n+3, of(n+1, 1+bit%40), of(n+2, 40-bit%40))
	}
}

// P13.3: what is written is read, flushed or not.
func TestOpenOfWhatIsNotFlushed(t *testing.T) {
	d := with(t, 2, 4, of(5, 2))
	at := slot(6, 2)
	for i, s := range whole(of(6, 3)) {
		answers(t, d.Write(at+i, s), api.OK)
	}
	finds(t, d, 0, 7, of(5, 2), of(6, 3))
	answers(t, d.Write(3, stamp(5)), api.OK)
	finds(t, d, 1, 7, of(6, 3))
	d.Crash([]uint8{0, 1})
	finds(t, d, 1, 6, of(5, 2))
}

// ends tells whether the records are found up to that of the number n alone, which something was done to.
func ends(t *testing.T, d *drive.Drive, from, n uint64, slots int) {
	t.Helper()
	count := int(n - from)
	finds(t, d, slots-count, n, run(from, count)...)
}

// P13.3: the first record whose head can't be read, or is none, ends it, whatever is behind it; a sector that nobody wrote does, too.
func TestOpenEndsAtAHead(t *testing.T) {
	for _, from := range []uint64{1, 6, math.MaxUint64 - 1} {
		for i := range uint64(4) {
			n := from + i
			fresh := func() *drive.Drive { return with(t, 4, from-1, run(from, 4)...) }
			x := run(from, 4)[i]
			d := fresh()
			answers(t, d.Spoil(slot(n, 4)), api.OK)
			ends(t, d, from, n, 4)
			head := block(x)
			for _, s := range []string{data(0), data(1), full(""), full("RVTJ"), stamp(n), sealed("RVTX" + head[4:60]), sealed(head[:12] + "\x00\x01" + head[14:60]), sealed(head[:14] + "\x00" + head[15:60]), sealed(head[:14] + "\x29" + head[15:60]), sealed(head[:19] + "\x28" + head[20:60]), sealed(head[:59] + "\x01"), sealed(head[:14] + "\x02" + head[15:19] + "\x07\x07" + head[21:60])} {
				d := fresh()
				lay(t, d, slot(n, 4), s)
				ends(t, d, from, n, 4)
			}
			for bit := range 512 {
				l := []byte(head)
				l[bit/8] ^= 1 << (bit % 8)
				lay(t, d, slot(n, 4), string(l))
				ends(t, d, from, n, 4)
			}
			lay(t, d, slot(n, 4), head)
			ends(t, d, from, n, 4) // it is spoilt still
		}
	}
}

// P13.3: a head of just that number: not of one near it, nor of another round of its slot, though head and load are good.
func TestOpenEndsAtAnotherNumber(t *testing.T) {
	for slots := 1; slots <= 5; slots++ {
		from := uint64(1000)
		for i := range uint64(slots) {
			n := from + i
			d := with(t, slots, from-1, run(from, slots)...)
			for _, by := range []uint64{1, 2, 3, uint64(slots), 2 * uint64(slots), 256, 1 << 32, 1 << 40, 1 << 63} {
				for _, other := range []uint64{n - by, n + by} {
					lay(t, d, slot(n, slots), whole(of(other, 3))...)
					ends(t, d, from, n, slots)
				}
			}
			lay(t, d, slot(n, slots), whole(run(from, slots)[i])...)
			finds(t, d, 0, from+uint64(slots), run(from, slots)...)
		}
	}
}

// P13.3: a load of which a sector can't be read, or is another one, or stands elsewhere, ends it.
func TestOpenEndsAtALoad(t *testing.T) {
	for _, count := range []int{1, 2, 3, 17, 40} {
		for i := range count {
			fresh := func() *drive.Drive { return with(t, 3, 8, of(9, 4), of(10, count), of(11, 1)) }
			at := slot(10, 3) + 1 + i
			d := fresh()
			finds(t, d, 0, 12, of(9, 4), of(10, count), of(11, 1))
			answers(t, d.Spoil(at), api.OK)
			finds(t, d, 2, 10, of(9, 4))
			d = fresh()
			text := of(10, count).Parts[i].Data
			for bit := range 512 {
				l := []byte(text)
				l[bit/8] ^= 1 << (bit % 8)
				lay(t, d, at, string(l))
				finds(t, d, 2, 10, of(9, 4))
			}
			lay(t, d, at, text)
			finds(t, d, 0, 12, of(9, 4), of(10, count), of(11, 1))
			if i > 0 && of(10, count).Parts[i].Data != of(10, count).Parts[i-1].Data {
				d := fresh()
				lay(t, d, at-1, of(10, count).Parts[i].Data, of(10, count).Parts[i-1].Data)
				finds(t, d, 2, 10, of(9, 4))
			}
		}
	}
}

// P13.3: what stands behind a load, in its slot and behind all slots, does not matter; nor do the sectors ahead of the mark.
func TestOpenLeavesOut(t *testing.T) {
	for count := 1; count <= 40; count++ {
		d := with(t, 2, 8, of(9, count), of(10, count))
		used := map[int]bool{3: true}
		for _, n := range []uint64{9, 10} {
			for i := range count + 1 {
				used[slot(n, 2)+i] = true
			}
		}
		for i := range d.Sectors() {
			if !used[i] {
				answers(t, d.Spoil(i), api.OK)
			}
		}
		finds(t, d, 0, 11, of(9, count), of(10, count))
	}
}

// P13.3: a good record in a slot that is not its own is not found, and ends nothing but its slot's.
func TestOpenOfAnotherSlot(t *testing.T) {
	d := with(t, 4, 0)
	for n := uint64(1); n <= 4; n++ {
		lay(t, d, slot(n+1, 4), whole(of(n, 2))...)
	}
	finds(t, d, 4, 1)
	lay(t, d, slot(1, 4), whole(of(1, 2))...)
	finds(t, d, 3, 2, of(1, 2))
}

// P13.3: a record that is missing hides those behind it; once it is appended they are found again, if they stand there still.
func TestOpenGap(t *testing.T) {
	d := with(t, 4, 10, of(11, 1), of(13, 2), of(14, 3))
	finds(t, d, 3, 12, of(11, 1))
	lay(t, d, 3, stamp(12))
	finds(t, d, 2, 15, of(13, 2), of(14, 3))
	lay(t, d, 3, stamp(14))
	finds(t, d, 4, 15)
	lay(t, d, 3, stamp(9))
	finds(t, d, 4, 10)
}

// P13.3: no more than there are slots, also where the numbers go round and the slots' order is another one.
func TestOpenAboutTheEnd(t *testing.T) {
	for slots := 1; slots <= 13; slots++ {
		for back := range uint64(2*slots + 3) {
			d := with(t, slots, math.MaxUint64-back)
			for i := range uint64(3 * slots) {
				lay(t, d, slot(math.MaxUint64-back+1+i, slots), whole(of(math.MaxUint64-back+1+i, 1))...)
				agrees(t, d)
			}
		}
	}
}

// P13.3: what is answered is new memory, and each ring is its own.
func TestOpenSharesNothing(t *testing.T) {
	d := with(t, 3, 4, of(5, 3), of(6, 2))
	r, l, e := Open(d)
	answers(t, e, api.OK)
	for i := range l {
		for k := range l[i].Parts {
			l[i].Parts[k] = record.Part{}
		}
		_ = append(l[i].Parts, record.Part{Col: 9})
		l[i] = record.Record{}
	}
	other := finds(t, d, 1, 7, of(5, 3), of(6, 2))
	puts(t, r, of(7, 1))
	says(t, r, 0, 8)
	says(t, other, 1, 7)
	finds(t, d, 0, 8, of(5, 3), of(6, 2), of(7, 1))
}

// hurt does something to a sector of a drive, or to its mark.
func hurt(t *testing.T, c *chance, d *drive.Drive, slots int) {
	t.Helper()
	n := uint64(c.below((1+c.below(3))*slots) + 1)
	at := slot(n, slots)
	switch c.below(14) {
	case 0:
		lay(t, d, 3, stamp(uint64(c.below(2*slots+1))))
	case 1:
		answers(t, d.Spoil(at+c.below(6)), api.OK)
	case 2:
		lay(t, d, at+c.below(6), data(c.below(300)))
	case 3:
		lay(t, d, at, block(of(n, 1+c.below(4))))
	case 4:
		b, _ := d.Safe(at)
		l := []byte(b)
		l[12+c.below(12)] = byte(c.below(45))
		lay(t, d, at, sealed(string(l[:60])))
	default:
		for i, s := range whole(of(n, 1+c.below(4))) {
			answers(t, d.Write(at+i, s), api.OK)
		}
	}
}

// P13.3: long runs of drives on which anything may stand answer what the chapter says.
func TestOpenRuns(t *testing.T) {
	seen := map[int]int{}
	for one := range 150 {
		c := chance(one)
		slots := 1 + c.below(5)
		d := with(t, slots, uint64(c.below(slots)))
		for range 120 {
			hurt(t, &c, d, slots)
			count, _ := agrees(t, d)
			seen[count]++
		}
	}
	for count := range 5 {
		if seen[count] < 25 {
			t.Errorf("%d records were found %d times alone", count, seen[count])
		}
	}
}
