package pages

import (
	"encoding/binary"
	"hash/crc32"
	"math"
	"slices"
	"strconv"
	"strings"
	"testing"

	"revetment/api"
	"revetment/crc"
	"revetment/drive"
	"revetment/super"
)

// nothing are the bits of no region.
const nothing = "\x00\x00\x00\x00\x00\x00\x00\x00"

// sealed is a sector of these bytes, filled up, and their sum, as it is told by others than this project.
func sealed(text string) string {
	body := make([]byte, 60)
	copy(body, text)
	return string(binary.LittleEndian.AppendUint32(body, crc32.Checksum(body, crc32.MakeTable(crc32.Castagnoli))))
}

// block is a page's sector as the chapter says it, without asking any layer.
func block(p Page) string {
	return sealed(string(binary.LittleEndian.AppendUint64([]byte("RVTB"), p.Events)) + p.Bits)
}

// events are numbers of Events: near and far, those at the end of some bytes, and of all.
func events() []uint64 {
	return []uint64{0, 1, 2, 3, 127, 128, 255, 256, 257, 65535, 65536, 1<<24 + 1, 1<<31 - 1, 1 << 31, 1<<32 - 1, 1 << 32, 1<<32 + 1, 1<<40 + 5, 1<<48 + 1, 1<<53 + 1, 1<<56 - 1, 1 << 56, 1<<63 - 1, 1 << 63, 1<<63 + 1, 0x0102030405060708, math.MaxUint64 - 1, math.MaxUint64}
}

// bits are some regions' bits: none, all, the first and the last one, and each byte another one.
func bits() []string {
	return []string{nothing, strings.Repeat("\xff", 8), "\x01" + nothing[1:], nothing[1:] + "\x80", "abcdefgh", "\x80\x40\x20\x10\x08\x04\x02\x01", "RVTBRVTB", "\xc3\xa9\xff\xfe\x00\xc3\x28\xed"}
}

// one are the bits of one region alone.
func one(region int) string {
	b := []byte(nothing)
	b[region/8] = 1 << (region % 8)
	return string(b)
}

// or are the bits of both, as one number of 64 of them.
func or(a, b string) string {
	n := binary.LittleEndian.Uint64([]byte(a)) | binary.LittleEndian.Uint64([]byte(b))
	return string(binary.LittleEndian.AppendUint64(nil, n))
}

// some is a page, told by which.
func some(which int) Page {
	return Page{events()[which%len(events())], bits()[which%len(bits())]}
}

// wrong are Bits of which there may be no page.
func wrong() []string {
	out := []string{"\xc3\xa9\xc3\xa9\xc3\xa9\xc3\xa9\xc3\xa9\xc3\xa9\xc3\xa9\xc3\xa9", block(some(1))}
	for n := range 200 {
		if n != 8 {
			out = append(out, strings.Repeat("\x00", n), strings.Repeat("b", n))
		}
	}
	return append(out, strings.Repeat("b", 4096), strings.Repeat("b", 256+8), strings.Repeat("b", 65536+8))
}

// full is a text, filled up to a sector.
func full(text string) string {
	return text + strings.Repeat(".", api.Sector-len(text))
}

// plain is a drive of so many sectors, each with a text of its own, safe; none is a page.
func plain(t *testing.T, sectors int) *drive.Drive {
	t.Helper()
	d := drive.New(sectors)
	for i := range sectors {
		lay(t, d, i, full("sector "+strconv.Itoa(i)))
	}
	return d
}

// lay makes a sector's bytes safe, told to nobody.
func lay(t *testing.T, d *drive.Drive, i int, text string) {
	t.Helper()
	answers(t, d.Change(i, text), api.OK)
}

// with is a drive of 4 sectors that has this page.
func with(t *testing.T, p Page) *drive.Drive {
	t.Helper()
	d := plain(t, 4)
	lay(t, d, 2, block(p))
	return d
}

// failing are drives on which nothing can be saved, and of which nothing can be loaded, though each has a page (if it has room): each with the error of both.
func failing(t *testing.T, p Page) (l []*drive.Drive, e []api.Errno) {
	t.Helper()
	dead, off, both := with(t, p), with(t, p), with(t, p)
	dead.Die()
	both.Die()
	off.Off(0)
	both.Off(0)
	return []*drive.Drive{dead, off, both, plain(t, 1), plain(t, 2), {}}, []api.Errno{api.ErrDead, api.ErrOff, api.ErrDead, api.ErrRange, api.ErrRange, api.ErrRange}
}

func answers(t *testing.T, got, want api.Errno) {
	t.Helper()
	if got != want {
		t.Fatalf("the answer is %d, not %d", got, want)
	}
}

// stands tells whether the drive has, safe, these sectors from 0 on.
func stands(t *testing.T, d *drive.Drive, want ...string) {
	t.Helper()
	for i, text := range want {
		if b, _ := d.Safe(i); b != text {
			t.Fatalf("the sector %d is %q, not %q", i, b, text)
		}
	}
}

// texts tells whether the drive has all its texts still, safe, but for this page; nil is none.
func texts(t *testing.T, d *drive.Drive, p *Page) {
	t.Helper()
	for i := range d.Sectors() {
		want := full("sector " + strconv.Itoa(i))
		if i == 2 && p != nil {
			want = block(*p)
		}
		if b, _ := d.Safe(i); b != want {
			t.Fatalf("the sector %d is %q, not %q", i, b, want)
		}
	}
}

func pending(t *testing.T, d *drive.Drive, want int) {
	t.Helper()
	if got := d.Pending(); got != want {
		t.Fatalf("%d writes wait, not %d", got, want)
	}
}

// hasPower tells whether the drive has power for just so many flushes.
func hasPower(t *testing.T, d *drive.Drive, flushes int) {
	t.Helper()
	for range flushes {
		answers(t, d.Flush(), api.OK)
	}
	answers(t, d.Flush(), api.ErrOff)
}

// decodes tells whether Decode answers just that.
func decodes(t *testing.T, b string, want Page, e api.Errno) {
	t.Helper()
	if p, f := Decode(b); p != want || f != e {
		t.Fatalf("Decode(%q): %v %d, not %v %d", b, p, f, want, e)
	}
}

// loads tells whether Load answers just that.
func loads(t *testing.T, d *drive.Drive, want Page, e api.Errno) {
	t.Helper()
	if p, f := Load(d); p != want || f != e {
		t.Fatalf("Load: %v %d, not %v %d", p, f, want, e)
	}
}

// all tells whether All answers just that.
func all(t *testing.T, l []*drive.Drive, p Page, want int, e api.Errno) {
	t.Helper()
	if n, f := All(l, p); n != want || f != e {
		t.Fatalf("All: %d %d, not %d %d", n, f, want, e)
	}
}

// joins tells whether Join answers just that.
func joins(t *testing.T, l []*drive.Drive, events uint64, want string, is bool) {
	t.Helper()
	if b, found := Join(l, events); b != want || found != is {
		t.Fatalf("Join from %d on: %q %v, not %q %v", events, b, found, want, is)
	}
}

// P11.1: by hand, as bytes; the sums were told by another program.
func TestEncodeByHand(t *testing.T) {
	for _, c := range []struct {
		p    Page
		want string
	}{
		{Page{258, "abcdefgh"}, "RVTB" + "\x02\x01\x00\x00\x00\x00\x00\x00" + "abcdefgh" + strings.Repeat("\x00", 40) + "\xa0\x81\x9a\x54"},
		{Page{0x0102030405060708, "\xff\x00\x00\x00\x00\x00\x00\x80"}, "RVTB" + "\x08\x07\x06\x05\x04\x03\x02\x01" + "\xff\x00\x00\x00\x00\x00\x00\x80" + strings.Repeat("\x00", 40) + "\xe1\x51\x06\x46"},
	} {
		if b, e := Encode(c.p); b != c.want || e != api.OK {
			t.Errorf("%v: %q %d", c.p, b, e)
		}
		decodes(t, c.want, c.p, api.OK)
	}
}

// P11.1: each number of Events, with each of the Bits, against what is told without any layer.
func TestEncode(t *testing.T) {
	for _, n := range events() {
		for _, b := range bits() {
			p := Page{n, b}
			if got, e := Encode(p); got != block(p) || e != api.OK {
				t.Fatalf("%v: %q %d, not %q", p, got, e, block(p))
			}
		}
	}
}

// P11.1: each bit of both has its place.
func TestEncodeEachBit(t *testing.T) {
	for bit := range 64 {
		for _, p := range []Page{{1 << bit, nothing}, {0, one(bit)}, {1 << bit, one(63 - bit)}} {
			if got, e := Encode(p); got != block(p) || e != api.OK {
				t.Fatalf("%v: %q %d, not %q", p, got, e, block(p))
			}
			decodes(t, block(p), p, api.OK)
		}
	}
}

// P11.1: Bits of another length, whatever Events are; runes do not count.
func TestEncodeWrong(t *testing.T) {
	for i, b := range wrong() {
		if got, e := Encode(Page{events()[i%len(events())], b}); got != "" || e != api.ErrArg {
			t.Fatalf("%q: %q %d", b, got, e)
		}
	}
	if got, e := Encode(Page{}); got != "" || e != api.ErrArg {
		t.Errorf("%q %d", got, e)
	}
}

// P11.1: what is encoded is decoded; two pages have the same sector only if they are the same.
func TestDecode(t *testing.T) {
	seen := map[string]bool{}
	for _, n := range events() {
		for _, b := range bits() {
			p := Page{n, b}
			decodes(t, block(p), p, api.OK)
			s, e := Encode(p)
			answers(t, e, api.OK)
			decodes(t, s, p, api.OK)
			if seen[s] {
				t.Fatalf("%v has another one's sector", p)
			}
			seen[s] = true
		}
	}
}

// P11.1: too few bytes, or too many, whatever their sum.
func TestDecodeOtherLengths(t *testing.T) {
	s := block(some(4))
	for n := range 300 {
		if n == 64 {
			continue
		}
		decodes(t, (s + s + s + s + s)[:n], Page{}, api.ErrShort)
		if other, is := crc.Seal("RVTB"+nothing+nothing, n); is {
			decodes(t, other, Page{}, api.ErrShort)
		}
	}
	decodes(t, s+"\x00", Page{}, api.ErrShort)
	decodes(t, s[1:], Page{}, api.ErrShort)
}

// P11.1: of another sum: each bit of a sector turned, and sectors that were none.
func TestDecodeOtherSum(t *testing.T) {
	for which := range 5 {
		s := block(some(which))
		for bit := range 8 * len(s) {
			l := []byte(s)
			l[bit/8] ^= 1 << (bit % 8)
			decodes(t, string(l), Page{}, api.ErrSum)
		}
		decodes(t, s[:60]+string([]byte{s[63], s[62], s[61], s[60]}), Page{}, api.ErrSum)
		decodes(t, s[:60]+"\x00\x00\x00\x00", Page{}, api.ErrSum)
	}
	for _, s := range []string{strings.Repeat("\x00", 64), strings.Repeat("\xff", 64), full("RVTB"), full("RVTX"), full("")} {
		decodes(t, s, Page{}, api.ErrSum)
	}
}

// P11.1: bytes that begin by something else, with their own sum; also where there is something behind Bits.
func TestDecodeOtherMagic(t *testing.T) {
	rest := strings.Repeat("\x00", 8) + "abcdefgh"
	for i := range 4 {
		for to := range 256 {
			l := []byte("RVTB" + rest)
			if l[i] == byte(to) {
				continue
			}
			l[i] = byte(to)
			decodes(t, sealed(string(l)), Page{}, api.ErrMagic)
			decodes(t, sealed(string(l)+"x"), Page{}, api.ErrMagic)
		}
	}
	for _, s := range []string{"", "BTVR" + rest, "RVT", "RVT1" + rest, "rvtb" + rest, " RVTB" + rest, "\x00RVTB" + rest, "VTBR" + rest, "RVTRVTB"} {
		decodes(t, sealed(s), Page{}, api.ErrMagic)
	}
	s, e := super.Encode(super.Super{UUID: 7, Geo: api.Geometry{Cols: 4, Chunk: 1, Rows: 8}})
	answers(t, e, api.OK)
	decodes(t, s, Page{}, api.ErrMagic)
}

// P11.1: a bit that is 1 somewhere behind Bits, with the sum that is then theirs; all bytes there may be others.
func TestDecodeBehindBits(t *testing.T) {
	for which := range 6 {
		p := some(which)
		for bit := 8 * 20; bit < 8*60; bit++ {
			l := []byte(block(p)[:60])
			l[bit/8] ^= 1 << (bit % 8)
			decodes(t, sealed(string(l)), Page{}, api.ErrArg)
		}
		for _, behind := range []string{strings.Repeat("\xff", 40), strings.Repeat("0", 40), " ", "\x00\x00\x01", strings.Repeat("\x00", 39) + "\xff", "RVTB", "\xc0\x80", "\xef\xbf\xbd"} {
			decodes(t, sealed(block(p)[:20]+behind), Page{}, api.ErrArg)
		}
	}
}

// P11.1: where several errors apply, the one that is named first: length, sum, beginning, what is behind.
func TestDecodeOrder(t *testing.T) {
	s := sealed("RVTX" + strings.Repeat("x", 56))
	decodes(t, s, Page{}, api.ErrMagic)
	decodes(t, s[:63]+string([]byte{s[63] ^ 1}), Page{}, api.ErrSum)
	decodes(t, s[:63], Page{}, api.ErrShort)
	decodes(t, s+"x", Page{}, api.ErrShort)
	s = sealed("RVTB" + strings.Repeat("x", 56))
	decodes(t, s, Page{}, api.ErrArg)
	decodes(t, "RVTB"+strings.Repeat("x", 60), Page{}, api.ErrSum)
}

// P11.2: it stands in the third sector, safe; all else is as it was.
func TestSave(t *testing.T) {
	for which := range 60 {
		p := some(which)
		for _, sectors := range []int{3, 4, 5, 9} {
			d := plain(t, sectors)
			answers(t, Save(d, p), api.OK)
			texts(t, d, &p)
			pending(t, d, 0)
			d.Crash([]uint8{0})
			texts(t, d, &p)
			loads(t, d, p, api.OK)
		}
	}
}

// P11.2: whatever stands there: a page, newer or not, safe or not, a sector that can't be read; nothing of it is left.
func TestSaveWhateverIsThere(t *testing.T) {
	for a := range 10 {
		for b := range 10 {
			old, p := some(a), some(b)
			for kind := range 3 {
				d := with(t, old)
				switch kind {
				case 1:
					answers(t, d.Spoil(2), api.OK)
				case 2:
					answers(t, d.Write(2, full("waits")), api.OK)
				}
				answers(t, Save(d, p), api.OK)
				texts(t, d, &p)
				pending(t, d, 0)
				loads(t, d, p, api.OK)
			}
		}
	}
}

// P11.2: the drive is flushed, as a whole.
func TestSaveFlushesTheDrive(t *testing.T) {
	d := plain(t, 5)
	for _, i := range []int{0, 2, 4, 4} {
		answers(t, d.Write(i, full("other")), api.OK)
	}
	p := some(5)
	answers(t, Save(d, p), api.OK)
	pending(t, d, 0)
	d.Crash(nil)
	stands(t, d, full("other"), full("sector 1"), block(p), full("sector 3"), full("other"))
}

// P11.2: one write, and then one flush: no more is done, and no less, also if it stands there already; the error of each one is told.
func TestSaveWithoutPower(t *testing.T) {
	for which := range 12 {
		p := some(which)
		for _, there := range []bool{false, true} {
			made := func(power int) *drive.Drive {
				d := plain(t, 4)
				if there {
					d = with(t, p)
				}
				d.Off(power)
				return d
			}
			old := full("sector 2")
			if there {
				old = block(p)
			}
			d := made(0)
			answers(t, Save(d, p), api.ErrOff)
			pending(t, d, 0)
			stands(t, d, full("sector 0"), full("sector 1"), old, full("sector 3"))

			d = made(1)
			answers(t, Save(d, p), api.ErrOff)
			pending(t, d, 1)
			stands(t, d, full("sector 0"), full("sector 1"), old, full("sector 3"))
			d.Crash([]uint8{1})
			texts(t, d, &p)

			d = made(2)
			answers(t, Save(d, p), api.OK)
			pending(t, d, 0)
			texts(t, d, &p)
			answers(t, d.Flush(), api.ErrOff)

			d = made(5)
			answers(t, Save(d, p), api.OK)
			hasPower(t, d, 3)
		}
	}
}

// P11.2: the write's error, of drives on which nothing can be written; nothing has changed.
func TestSaveOnFailingDrives(t *testing.T) {
	for which := range 10 {
		l, e := failing(t, some(3))
		for i, d := range l {
			answers(t, Save(d, some(which)), e[i])
			pending(t, d, 0)
			if d.Sectors() > 0 {
				there := some(3)
				texts(t, d, &there)
			}
		}
	}
}

// P11.2: a page that may not be is told of ahead of the drive's errors; nothing is done with the drive.
func TestSaveOfWhatMayNotBe(t *testing.T) {
	for _, b := range wrong()[:60] {
		p := Page{9, b}
		d := plain(t, 4)
		answers(t, d.Write(0, full("waits")), api.OK)
		d.Off(3)
		answers(t, Save(d, p), api.ErrArg)
		pending(t, d, 1)
		texts(t, d, nil)
		hasPower(t, d, 3)
		l, _ := failing(t, some(3))
		for _, d := range l {
			answers(t, Save(d, p), api.ErrArg)
		}
	}
}

// P11.2: what is read as the third sector, flushed or not; pages elsewhere are none.
func TestLoad(t *testing.T) {
	for which := range 40 {
		p, later := some(which), some(which+3)
		d := with(t, p)
		loads(t, d, p, api.OK)
		answers(t, d.Write(2, block(later)), api.OK)
		loads(t, d, later, api.OK)
		d.Crash(nil)
		loads(t, d, p, api.OK)
		for _, i := range []int{0, 1, 3} {
			d := plain(t, 4)
			lay(t, d, i, block(p))
			loads(t, d, Page{}, api.ErrSum)
			lay(t, d, 2, block(later))
			loads(t, d, later, api.OK)
		}
	}
}

// P11.2: each error of Decode, of a sector that is read; a new drive has ErrSum.
func TestLoadOfOtherSectors(t *testing.T) {
	for _, c := range []struct {
		text string
		e    api.Errno
	}{{full("none"), api.ErrSum}, {sealed("RVT1"), api.ErrMagic}, {sealed(""), api.ErrMagic}, {sealed("RVTB" + nothing + nothing + "x"), api.ErrArg}} {
		d := with(t, some(1))
		lay(t, d, 2, c.text)
		loads(t, d, Page{}, c.e)
	}
	for _, sectors := range []int{3, 4, 4096} {
		loads(t, drive.New(sectors), Page{}, api.ErrSum)
	}
}

// P11.2: each error of the drive.
func TestLoadOfFailingDrives(t *testing.T) {
	l, e := failing(t, some(3))
	for i, d := range l {
		loads(t, d, Page{}, e[i])
	}
	d := with(t, some(3))
	answers(t, d.Spoil(2), api.OK)
	loads(t, d, Page{}, api.ErrRead)
	d.Off(0)
	loads(t, d, Page{}, api.ErrOff)
	d.Crash(nil)
	loads(t, d, Page{}, api.ErrRead)
	answers(t, Save(d, some(4)), api.OK)
	loads(t, d, some(4), api.OK)
	for _, i := range []int{0, 1, 3} {
		answers(t, d.Spoil(i), api.OK)
	}
	loads(t, d, some(4), api.OK)
}

// P11.2, P11.4: nothing is done to a drive by loading and joining, and what was loaded ahead changes nothing.
func TestLoadDoesNothing(t *testing.T) {
	d := with(t, some(3))
	answers(t, d.Write(0, full("waits")), api.OK)
	d.Off(1)
	for range 5 {
		loads(t, d, some(3), api.OK)
		loads(t, with(t, some(4)), some(4), api.OK)
		joins(t, []*drive.Drive{d, nil, d}, 0, some(3).Bits, true)
		joins(t, []*drive.Drive{d}, math.MaxUint64, nothing, false)
		pending(t, d, 1)
	}
	there := some(3)
	texts(t, d, &there)
	hasPower(t, d, 1)
}

// P11.3: on each drive that it can be, wherever others that fail, and such as are none, stand among them.
func TestAll(t *testing.T) {
	for which := range 20 {
		p := some(which)
		bad, _ := failing(t, some(3))
		good := []*drive.Drive{plain(t, 3), with(t, some(which+5)), plain(t, 9), with(t, p)}
		l := []*drive.Drive{nil, bad[0], good[0], nil, bad[1], bad[2], good[1], good[2], bad[3], nil, nil, bad[4], good[3], bad[5], nil}
		all(t, l, p, 4, api.OK)
		for _, d := range good {
			texts(t, d, &p)
			pending(t, d, 0)
		}
		there := some(3)
		for _, d := range bad[:5] {
			texts(t, d, &there)
			pending(t, d, 0)
		}
		all(t, good, p, 4, api.OK)
		all(t, append(bad, good[0]), p, 1, api.OK)
		all(t, append(good[:1:1], bad...), p, 1, api.OK)
	}
}

// P11.3: on none: there are none, or they are nil, or all fail.
func TestAllOnNone(t *testing.T) {
	p := some(4)
	all(t, nil, p, 0, api.ErrLost)
	all(t, []*drive.Drive{}, p, 0, api.ErrLost)
	all(t, []*drive.Drive{nil}, p, 0, api.ErrLost)
	all(t, make([]*drive.Drive, 300), p, 0, api.ErrLost)
	bad, _ := failing(t, some(3))
	all(t, bad, p, 0, api.ErrLost)
	for _, d := range bad {
		all(t, []*drive.Drive{d}, p, 0, api.ErrLost)
		all(t, []*drive.Drive{nil, d, nil}, p, 0, api.ErrLost)
	}
}

// P11.3: a page that may not be, with drives and without: ErrArg is named first; nothing has changed.
func TestAllOfWhatMayNotBe(t *testing.T) {
	for _, b := range wrong()[:60] {
		p := Page{9, b}
		bad, _ := failing(t, some(3))
		d := plain(t, 4)
		d.Off(2)
		for _, l := range [][]*drive.Drive{nil, {nil}, bad, {d}, append(bad, d)} {
			all(t, l, p, 0, api.ErrArg)
		}
		texts(t, d, nil)
		hasPower(t, d, 2)
	}
}

// P11.3: each one is a Save: where the power goes ahead of the flush it did not go well, and those behind it are saved all the same.
func TestAllWithoutPower(t *testing.T) {
	for power := range 4 {
		for place := range 3 {
			p := some(place)
			l := []*drive.Drive{plain(t, 3), plain(t, 3), plain(t, 3)}
			l[place].Off(power)
			want := 3
			if power < 2 {
				want = 2
			}
			all(t, l, p, want, api.OK)
			for i, d := range l {
				if i != place || power >= 2 {
					texts(t, d, &p)
					pending(t, d, 0)
				} else {
					texts(t, d, nil)
					pending(t, d, power)
				}
			}
			all(t, l[place:place+1], p, 0, api.ErrLost)
		}
	}
}

// P11.3: a drive that is there twice is saved on twice, in order: the power may be gone by then.
func TestAllOnTheSameDrive(t *testing.T) {
	for power, want := range []int{0, 0, 1, 1, 2, 2, 3, 3} {
		p := some(power)
		d := plain(t, 3)
		d.Off(power)
		e := api.OK
		if want == 0 {
			e = api.ErrLost
		}
		all(t, []*drive.Drive{d, nil, d, d}, p, want, e)
	}
	d := plain(t, 3)
	all(t, []*drive.Drive{d, d, nil, d}, some(2), 3, api.OK)
}

// P11.3, P11.4: the drives of a list are told in order, without what is none, and no more of them than are asked for.
func TestDrives(t *testing.T) {
	a, b := drive.New(1), drive.New(2)
	for asked, want := range [][]*drive.Drive{1: {a}, 2: {a, b}, 3: {a, b, a}, 4: {a, b, a}} {
		var got []*drive.Drive
		for d := range drives([]*drive.Drive{nil, a, nil, nil, b, a, nil}) {
			got = append(got, d)
			if len(got) == asked {
				break
			}
		}
		if asked > 0 && !slices.Equal(got, want) {
			t.Errorf("%d asked for: %d were told", asked, len(got))
		}
	}
}

// P11.3, P11.4: lists of some hundreds.
func TestLongLists(t *testing.T) {
	l := make([]*drive.Drive, 600)
	count := 0
	for i := range l {
		if i%3 == 1 {
			l[i] = drive.New(3)
			count++
		}
	}
	all(t, l, Page{7, "abcdefgh"}, count, api.OK)
	joins(t, l, 7, "abcdefgh", true)
	joins(t, l, 8, nothing, false)
	answers(t, Save(l[1], Page{8, one(63)}), api.OK)
	answers(t, Save(l[598], Page{9, one(3)}), api.OK)
	joins(t, l, 8, or(one(63), one(3)), true)
	joins(t, l, 0, or("abcdefgh", or(one(63), one(3))), true)
}

// P11.3, P11.4: the list is as it was, and what lies behind its length is no drive of it.
func TestListIsLeft(t *testing.T) {
	behind := with(t, Page{9, one(5)})
	first := plain(t, 3)
	whole := []*drive.Drive{first, nil, behind, nil, behind}
	was := slices.Clone(whole)
	all(t, whole[:2], Page{8, one(1)}, 1, api.OK)
	joins(t, whole[:2], 0, one(1), true)
	joins(t, whole[1:2], 0, nothing, false)
	loads(t, behind, Page{9, one(5)}, api.OK)
	if !slices.Equal(whole, was) {
		t.Error("the list is another one")
	}
}

// P11.4: none at all, or none that has a page so new.
func TestJoinNone(t *testing.T) {
	bad, _ := failing(t, some(3))
	spoilt := with(t, some(3))
	answers(t, spoilt.Spoil(2), api.OK)
	for _, n := range []uint64{0, 1, 1 << 63, math.MaxUint64} {
		for _, l := range [][]*drive.Drive{nil, {}, {nil}, {nil, nil, nil}, bad, {spoilt}, {drive.New(3)}, {plain(t, 4), drive.New(1), nil}} {
			joins(t, l, n, nothing, false)
		}
	}
}

// P11.4: of one drive: its Bits, if its Events are so many or more; the numbers are held against each other as they are, without a sign.
func TestJoinOne(t *testing.T) {
	for _, n := range events() {
		for _, from := range events() {
			for _, b := range bits() {
				want := nothing
				if n >= from {
					want = b
				}
				joins(t, []*drive.Drive{with(t, Page{n, b})}, from, want, n >= from)
			}
		}
	}
}

// P11.4: by hand: the edges of events, and a page of no region, which is one all the same.
func TestJoinByHand(t *testing.T) {
	l := []*drive.Drive{with(t, Page{5, one(0)}), nil, with(t, Page{6, one(9)}), with(t, Page{7, nothing}), with(t, Page{6, one(63)})}
	joins(t, l, 0, "\x01\x02\x00\x00\x00\x00\x00\x80", true)
	joins(t, l, 5, "\x01\x02\x00\x00\x00\x00\x00\x80", true)
	joins(t, l, 6, "\x00\x02\x00\x00\x00\x00\x00\x80", true)
	joins(t, l, 7, nothing, true)
	joins(t, l, 8, nothing, false)
}

// P11.4: bits are joined by inclusive or: a region that two drives tell stays told; the order does not matter.
func TestJoinIsOr(t *testing.T) {
	for _, a := range bits() {
		for _, b := range bits() {
			for _, c := range bits() {
				l := []*drive.Drive{with(t, Page{1, a}), with(t, Page{2, b}), with(t, Page{3, c})}
				want := or(a, or(b, c))
				joins(t, l, 1, want, true)
				slices.Reverse(l)
				joins(t, l, 1, want, true)
				joins(t, append(l, l...), 1, want, true)
				joins(t, l, 2, or(b, c), true)
			}
		}
	}
}

// P11.4: each region, told by a drive of its own.
func TestJoinEachBit(t *testing.T) {
	var l []*drive.Drive
	want := nothing
	for region := range 64 {
		l = append(l, with(t, Page{uint64(region), one(region)}))
		want = or(want, one(region))
		joins(t, l, 0, want, true)
		joins(t, l, uint64(region), one(region), true)
		joins(t, l, uint64(region)+1, nothing, false)
	}
	if want != strings.Repeat("\xff", 8) {
		t.Errorf("%q", want)
	}
}

// P11.4: drives of which no page is loaded, for whatever reason, are left out, and those behind them are not.
func TestJoinLeavesOut(t *testing.T) {
	every := strings.Repeat("\xff", 8)
	bad, _ := failing(t, Page{9, every})
	spoilt := with(t, Page{9, every})
	answers(t, spoilt.Spoil(2), api.OK)
	bad = append(bad, nil, spoilt, drive.New(3), with(t, Page{3, every}))
	for _, text := range []string{full("RVTB"), sealed("RVT1" + nothing + every), sealed("RVTB" + "\x09" + nothing[1:] + every + "x")} {
		d := plain(t, 3)
		lay(t, d, 2, text)
		bad = append(bad, d)
	}
	for place := range len(bad) + 1 {
		l := slices.Insert(slices.Clone(bad), place, with(t, Page{4, one(place)}))
		joins(t, l, 4, one(place), true)
		l = slices.Insert(l, len(l)-place, with(t, Page{5, one(40)}))
		joins(t, l, 4, or(one(place), one(40)), true)
		joins(t, l, 5, one(40), true)
	}
}

// P11.4: what is joined is what is read, flushed or not.
func TestJoinOfWhatIsNotFlushed(t *testing.T) {
	d := with(t, Page{4, one(1)})
	answers(t, d.Write(2, block(Page{5, one(2)})), api.OK)
	l := []*drive.Drive{d, with(t, Page{4, one(7)})}
	joins(t, l, 4, or(one(2), one(7)), true)
	joins(t, l, 5, one(2), true)
	d.Crash(nil)
	joins(t, l, 4, or(one(1), one(7)), true)
	joins(t, l, 5, nothing, false)
}
