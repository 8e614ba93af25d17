package ring

import (
	"math"
	"slices"
	"strings"
	"testing"

	"revetment/api"
	"revetment/drive"
	"revetment/record"
)

// wrongRows are numbers that are no rows; some have a low byte, or two, that might be.
func wrongRows() []int {
	return []int{math.MinInt, -1 << 32, -65536, -256, -2, -1, 256, 257, 511, 65535, 65536, 65537, 1<<32 + 1, 1<<62 + 2, math.MaxInt}
}

// changed are the parts after one of them is another one.
func changed(l []record.Part, i int, by func(*record.Part)) []record.Part {
	l = slices.Clone(l)
	by(&l[i])
	return l
}

// wrongParts are parts of which no record may be.
func wrongParts() [][]record.Part {
	out := [][]record.Part{nil, {}, {{}}, make([]record.Part, 41), append(some(1, 40), some(2, 1)...), append(some(3, 40), some(4, 40)...)}
	for _, count := range []int{1, 2, 7, 40} {
		l := some(count, count)
		for i := range l {
			for _, n := range []int{math.MinInt, -256, -1, 10, 11, 255, 256, 1 << 32, math.MaxInt} {
				out = append(out, changed(l, i, func(p *record.Part) { p.Col = n }))
			}
			for _, n := range []int{math.MinInt, -256, -1, 4, 5, 255, 256, 1 << 32, math.MaxInt} {
				out = append(out, changed(l, i, func(p *record.Part) { p.Off = n }))
			}
			for _, n := range []int{0, 1, 63, 65, 128, 320} {
				out = append(out, changed(l, i, func(p *record.Part) { p.Data = strings.Repeat("a", n) }))
			}
			if i > 0 {
				out = append(out, changed(l, i, func(p *record.Part) { p.Col, p.Off = l[0].Col, l[0].Off }))
			}
		}
	}
	return out
}

// refuses tells whether nothing that may not be is appended, with that error, and nothing has changed.
func refuses(t *testing.T, d *drive.Drive, r *Ring, e api.Errno) {
	t.Helper()
	want, waits, left, next := shot(d), d.Pending(), r.Left(), r.Next()
	for i, l := range wrongParts() {
		appends(t, r, i%256, l, 0, e)
	}
	for i, row := range wrongRows() {
		appends(t, r, row, some(i, 1+i), 0, e)
		appends(t, r, row, nil, 0, e)
	}
	says(t, r, left, next)
	stands(t, d, want)
	pending(t, d, waits)
}

// P13.4: all rows, and all counts of parts; each is found, and its number is told.
func TestAppend(t *testing.T) {
	for row := range 256 {
		d := with(t, 3, 6)
		r := finds(t, d, 3, 7)
		want := []record.Record{}
		for i := range 3 {
			x := record.Record{Seq: 7 + uint64(i), Row: (row + 85*i) % 256, Parts: some(row, 1+(row+i)%40)}
			puts(t, r, x)
			says(t, r, 2-i, x.Seq+1)
			pending(t, d, 0)
			want = append(want, x)
			finds(t, d, 2-i, x.Seq+1, want...)
		}
	}
}

// P13.4: each place of a row, by itself; and all of them together, in order or not.
func TestAppendEachPlace(t *testing.T) {
	d := with(t, 1, 0)
	r := finds(t, d, 1, 1)
	next := uint64(1)
	put := func(l []record.Part) {
		x := record.Record{Seq: next, Row: 255, Parts: l}
		puts(t, r, x)
		finds(t, d, 0, next+1, x)
		answers(t, r.Trim(next), api.OK)
		next++
	}
	all := []record.Part{}
	for col := range 10 {
		for off := range 4 {
			p := record.Part{Col: col, Off: off, Data: data(4*col + off)}
			put([]record.Part{p})
			all = append(all, p)
		}
	}
	put(all)
	slices.Reverse(all)
	put(all)
}

// P13.4: by hand: what stands in the slot.
func TestAppendByHand(t *testing.T) {
	d := with(t, 2, 256)
	r := finds(t, d, 2, 257)
	l := []record.Part{{Col: 3, Off: 1, Data: strings.Repeat("a", 64)}, {Col: 9, Off: 3, Data: strings.Repeat("b", 64)}}
	want := shot(d)
	appends(t, r, 255, l, 257, api.OK)
	stands(t, d, laid(want, 45, sealed("RVTJ"+"\x01\x01\x00\x00\x00\x00\x00\x00"+"\xff\x00"+"\x02"+string(sumOf("a", "b"))+"\x0d\x27"), l[0].Data, l[1].Data))
}

// sumOf are the bytes of the sum of sectors that are full of these.
func sumOf(l ...string) []byte {
	n := checksum(strings.Repeat(l[0], 64) + strings.Repeat(l[1], 64))
	return []byte{byte(n), byte(n >> 8), byte(n >> 16), byte(n >> 24)}
}

// P13.4: a record that may not be: whatever the ring holds, as long as there is room, and whatever the drive is.
func TestAppendWrong(t *testing.T) {
	for held := range 3 {
		for kind := range 4 {
			d := with(t, 3, 6, run(7, held)...)
			r := finds(t, d, 3-held, 7+uint64(held), run(7, held)...)
			answers(t, d.Write(1, full("waits")), api.OK)
			if kind&1 != 0 {
				d.Die()
			}
			if kind&2 != 0 {
				d.Off(0)
			}
			refuses(t, d, r, api.ErrArg)
		}
	}
}

// P13.4: n is more than Slots above the trimmed one: that is told first, of what may be and of what may not, whatever the drive is.
func TestAppendBusy(t *testing.T) {
	for slots := 1; slots <= 5; slots++ {
		for _, trimmed := range []uint64{0, 1, 6, 255, 1<<32 - 2, 1 << 63} {
			for kind := range 4 {
				d := with(t, slots, trimmed)
				r := finds(t, d, slots, trimmed+1)
				l := run(trimmed+1, slots)
				for _, x := range l {
					puts(t, r, x)
				}
				if kind&1 != 0 {
					d.Die()
				}
				if kind&2 != 0 {
					d.Off(0)
				}
				want := shot(d)
				appends(t, r, 1, some(1, 1), 0, api.ErrBusy)
				refuses(t, d, r, api.ErrBusy)
				says(t, r, 0, trimmed+1+uint64(slots))
				stands(t, d, want)
				if kind == 0 {
					finds(t, d, 0, trimmed+1+uint64(slots), l...)
				}
			}
		}
	}
}

// P13.4: a drive that is dead, or without power: that is the answer; the next number stays, and then it goes on.
func TestAppendFails(t *testing.T) {
	for kind := 1; kind < 4; kind++ {
		d := with(t, 2, 6)
		r := finds(t, d, 2, 7)
		e := api.ErrOff
		if kind&2 != 0 {
			d.Off(0)
		}
		if kind&1 != 0 {
			d.Die()
			e = api.ErrDead
		}
		want := shot(d)
		for range 3 {
			appends(t, r, 5, some(1, 2), 0, e)
			answers(t, r.Trim(6), e)
			says(t, r, 2, 7)
		}
		stands(t, d, want)
		pending(t, d, 0)
		if e == api.ErrOff {
			d.Crash(nil)
			puts(t, r, of(7, 2))
			finds(t, d, 1, 8, of(7, 2))
		}
	}
}

// P13.4: with the power gone at each place: the load is written, in order, and flushed, then the head, and flushed; no more.
func TestAppendStepByStep(t *testing.T) {
	for count := 1; count <= 40; count++ {
		for after := range count + 6 {
			for keep := range uint8(2) {
				d := with(t, 2, 6, of(5, 40), of(6, 40))
				x := of(7, count)
				want, at := shot(d), slot(7, 2)
				if after > count || keep == 1 {
					want = laid(want, at+1, texts(x.Parts)[:min(after, count)]...)
				}
				if after > count+2 || after == count+2 && keep == 1 {
					want = laid(want, at, block(x))
				}
				r := finds(t, d, 2, 7)
				d.Off(after)
				if after < count+3 {
					appends(t, r, x.Row, x.Parts, 0, api.ErrOff)
					says(t, r, 2, 7)
				} else {
					puts(t, r, x)
					says(t, r, 1, 8)
					hasPower(t, d, after-count-3)
				}
				d.Crash([]uint8{keep})
				stands(t, d, want)
			}
		}
	}
}

// P13.4: a record that failed on its way leaves its number to the next one that is appended, as often as it takes.
func TestAppendAgain(t *testing.T) {
	for after := range 5 {
		for keep := range uint8(3) {
			d := with(t, 3, 6, of(7, 3))
			r := finds(t, d, 2, 8, of(7, 3))
			for i := range 3 {
				d.Off(after)
				appends(t, r, 9+i, some(i, 2), 0, api.ErrOff)
				d.Crash([]uint8{keep, 1})
			}
			says(t, r, 2, 8)
			puts(t, r, of(8, 1))
			puts(t, r, of(9, 2))
			finds(t, d, 0, 10, of(7, 3), of(8, 1), of(9, 2))
		}
	}
}

// P13.4: slots and mark that can't be read are written all the same; nothing of them is asked for.
func TestAppendOverSpoilt(t *testing.T) {
	d := with(t, 2, 6)
	r := finds(t, d, 2, 7)
	for i := range d.Sectors() {
		answers(t, d.Spoil(i), api.OK)
	}
	puts(t, r, of(7, 40))
	puts(t, r, of(8, 40))
	fails(t, d, api.ErrRead)
	answers(t, r.Trim(7), api.OK)
	finds(t, d, 1, 9, of(8, 40))
}

// P13.4: what is handed in is neither changed nor kept, nor what lies behind it.
func TestAppendKeepsNothing(t *testing.T) {
	behind := some(99, 40)
	copy(behind, of(7, 5).Parts)
	before := slices.Clone(behind)
	d := with(t, 2, 6)
	r := finds(t, d, 2, 7)
	appends(t, r, of(7, 5).Row, behind[:5], 7, api.OK)
	if !slices.Equal(behind, before) {
		t.Error("what was handed in has changed")
	}
	for i := range behind {
		behind[i] = record.Part{Col: -1}
	}
	finds(t, d, 1, 8, of(7, 5))
	puts(t, r, of(8, 1))
	finds(t, d, 0, 9, of(7, 5), of(8, 1))
}

// P13.5: from the trimmed number to the next one less 1, and none below or above.
func TestTrim(t *testing.T) {
	for slots := 1; slots <= 5; slots++ {
		for held := range slots + 1 {
			for _, from := range []uint64{0, 1, 5, 255, 256, 1<<32 - 1, 1 << 63} {
				for to := range uint64(held + 1) {
					d := with(t, slots, from, run(from+1, held)...)
					r := finds(t, d, slots-held, from+1+uint64(held), run(from+1, held)...)
					for _, by := range []uint64{1, 2, 3, 41, 255, 256, 1 << 31, 1 << 32, 1 << 62, 1 << 63} {
						answers(t, r.Trim(from-by), api.ErrArg)
						answers(t, r.Trim(from+uint64(held)+by), api.ErrArg)
					}
					want := laid(shot(d), 3, stamp(from+to))
					answers(t, r.Trim(from+to), api.OK)
					stands(t, d, want)
					pending(t, d, 0)
					says(t, r, slots-held+int(to), from+1+uint64(held))
					finds(t, d, slots-held+int(to), from+1+uint64(held), run(from+1, held)[to:]...)
					answers(t, r.Trim(from+to-1), api.ErrArg)
					answers(t, r.Trim(from+uint64(held)), api.OK)
					says(t, r, slots, from+1+uint64(held))
				}
			}
		}
	}
}

// P13.5: about the end of all numbers, too; all that is near is tried.
func TestTrimAboutTheEnd(t *testing.T) {
	for back := range uint64(6) {
		for held := range 5 {
			from := math.MaxUint64 - back
			for by := range uint64(20) {
				d := with(t, 4, from, run(from+1, held)...)
				r := finds(t, d, 4-held, from+1+uint64(held), run(from+1, held)...)
				to, e := from-10+by, api.ErrArg
				if by >= 10 && by <= 10+uint64(held) {
					e = api.OK
				}
				answers(t, r.Trim(to), e)
				if e == api.OK {
					says(t, r, 4-held+int(by)-10, from+1+uint64(held))
				} else {
					says(t, r, 4-held, from+1+uint64(held))
				}
			}
		}
	}
}

// P13.5: a number that may not be is told ahead of what the drive says, and writes nothing.
func TestTrimWrong(t *testing.T) {
	for kind := range 4 {
		d := with(t, 3, 6, run(7, 2)...)
		r := finds(t, d, 1, 9, run(7, 2)...)
		answers(t, d.Write(1, full("waits")), api.OK)
		if kind&1 != 0 {
			d.Die()
		}
		if kind&2 != 0 {
			d.Off(0)
		}
		want := shot(d)
		for _, n := range append(numbers(), 3, 4, 5, 9, 10, 11, 12) {
			answers(t, r.Trim(n), api.ErrArg)
		}
		says(t, r, 1, 9)
		stands(t, d, want)
		pending(t, d, 1)
	}
}

// P13.5: the drive's error; then the trimmed number is what it was.
func TestTrimFails(t *testing.T) {
	for kind := 1; kind < 4; kind++ {
		for to := uint64(6); to <= 8; to++ {
			d := with(t, 2, 6, run(7, 2)...)
			r := finds(t, d, 0, 9, run(7, 2)...)
			want, e := shot(d), api.ErrOff
			if kind&2 != 0 {
				d.Off(0)
			}
			if kind&1 != 0 {
				d.Die()
				e = api.ErrDead
			}
			answers(t, r.Trim(to), e)
			says(t, r, 0, 9)
			appends(t, r, 1, some(1, 1), 0, api.ErrBusy)
			stands(t, d, want)
			pending(t, d, 0)
		}
	}
}

// P13.5: with the power gone at each place: the mark is written, and flushed; no more. It is trimmed if both went well.
func TestTrimStepByStep(t *testing.T) {
	for to := uint64(6); to <= 8; to++ {
		for after := range 5 {
			for keep := range uint8(2) {
				d := with(t, 2, 6, run(7, 2)...)
				r := finds(t, d, 0, 9, run(7, 2)...)
				want := shot(d)
				if after > 1 || after == 1 && keep == 1 {
					want = laid(want, 3, stamp(to))
				}
				d.Off(after)
				if after < 2 {
					answers(t, r.Trim(to), api.ErrOff)
					says(t, r, 0, 9)
				} else {
					answers(t, r.Trim(to), api.OK)
					says(t, r, int(to-6), 9)
					hasPower(t, d, after-2)
				}
				d.Crash([]uint8{keep})
				stands(t, d, want)
				answers(t, r.Trim(8), api.OK)
				finds(t, d, 2, 9)
			}
		}
	}
}

// P13.5: Left is how often Append goes well ahead of a Trim, and Next what it then tells.
func TestLeft(t *testing.T) {
	for slots := 1; slots <= 6; slots++ {
		c := chance(slots)
		d := with(t, slots, 40)
		r := finds(t, d, slots, 41)
		next, trimmed := uint64(41), uint64(40)
		for range 30 {
			for left := slots - int(next-1-trimmed); left > 0; left-- {
				says(t, r, left, next)
				puts(t, r, of(next, 1+c.below(3)))
				next++
			}
			appends(t, r, 1, some(1, 1), 0, api.ErrBusy)
			says(t, r, 0, next)
			trimmed += uint64(c.below(slots + 1))
			answers(t, r.Trim(trimmed), api.OK)
		}
	}
}

// P13.5: what a drive does that is dead, or without power, does not matter to Left and Next.
func TestLeftOfADeadDrive(t *testing.T) {
	d := with(t, 3, 6, of(7, 1))
	r := finds(t, d, 2, 8, of(7, 1))
	d.Off(0)
	says(t, r, 2, 8)
	d.Die()
	says(t, r, 2, 8)
}

// R1: a ring that nobody opened has no slot: nothing is appended, or trimmed.
func TestRingThatWasNotOpened(t *testing.T) {
	r := &Ring{}
	if r.Left() != 0 {
		t.Errorf("left are %d", r.Left())
	}
	for i, n := range numbers() {
		answers(t, r.Trim(n), api.ErrArg)
		answers(t, r.Trim(r.Next()-1), api.ErrArg)
		appends(t, r, i, some(i, 1), 0, api.ErrBusy)
		appends(t, r, -1, nil, 0, api.ErrBusy)
	}
}
