package gf

import (
	"math"
	"strings"
	"sync"
	"testing"
)

// byBits multiplies as P1.1 says it: polynomials, then modulo x^8 + x^4 + x^3 + x^2 + 1.
func byBits(a, b byte) byte {
	product := 0
	for i := range 8 {
		if b>>i&1 == 1 {
			product ^= int(a) << i
		}
	}
	for i := 14; i >= 8; i-- {
		if product>>i&1 == 1 {
			product ^= 0x11d << (i - 8)
		}
	}
	return byte(product)
}

// step multiplies p by a, n times.
func step(p, a byte, n int) byte {
	for range n {
		p = byBits(p, a)
	}
	return p
}

// allBytes is a text of each byte, from 0 on.
func allBytes() string {
	out := make([]byte, 256)
	for i := range out {
		out[i] = byte(i)
	}
	return string(out)
}

// P1.1
func TestMulIsTheProductOfPolynomials(t *testing.T) {
	for a := range 256 {
		for b := range 256 {
			if got, want := Mul(byte(a), byte(b)), byBits(byte(a), byte(b)); got != want {
				t.Fatalf("Mul(%#x, %#x) = %#x, not %#x", a, b, got, want)
			}
		}
	}
}

// P1.1: by hand, so that they stand without the reference above.
func TestMulByHand(t *testing.T) {
	for _, c := range []struct{ a, b, want byte }{
		{2, 0x80, 0x1d}, {0, 0, 0}, {0, 0xff, 0}, {0xff, 0, 0}, {1, 1, 1}, {1, 0xff, 0xff}, {0xff, 1, 0xff},
		{3, 3, 5}, {3, 7, 9}, {0x80, 0x80, 0x13}, {0x10, 0x10, 0x1d},
	} {
		if got := Mul(c.a, c.b); got != c.want {
			t.Errorf("Mul(%#x, %#x) = %#x, not %#x", c.a, c.b, got, c.want)
		}
	}
}

// P1.2
func TestInv(t *testing.T) {
	for a := 1; a < 256; a++ {
		if inverse, is := Inv(byte(a)); !is || byBits(byte(a), inverse) != 1 {
			t.Errorf("Inv(%#x) = %#x, %v", a, inverse, is)
		}
	}
	if inverse, is := Inv(1); inverse != 1 || !is {
		t.Errorf("Inv(1) = %#x, %v", inverse, is)
	}
	if inverse, is := Inv(2); inverse != 0x8e || !is {
		t.Errorf("Inv(2) = %#x, %v", inverse, is)
	}
}

// P1.2
func TestInvOfNought(t *testing.T) {
	if inverse, is := Inv(0); inverse != 0 || is {
		t.Errorf("Inv(0) = %#x, %v", inverse, is)
	}
}

// P1.2
func TestDiv(t *testing.T) {
	for a := range 256 {
		for b := 1; b < 256; b++ {
			if got, is := Div(byte(a), byte(b)); !is || byBits(got, byte(b)) != byte(a) {
				t.Fatalf("Div(%#x, %#x) = %#x, %v", a, b, got, is)
			}
		}
	}
	if got, is := Div(0, 5); got != 0 || !is {
		t.Errorf("Div(0, 5) = %#x, %v", got, is)
	}
}

// P1.2
func TestDivByNought(t *testing.T) {
	for a := range 256 {
		if got, is := Div(byte(a), 0); got != 0 || is {
			t.Errorf("Div(%#x, 0) = %#x, %v", a, got, is)
		}
	}
}

// P1.3
func TestPowCountsUpAndDown(t *testing.T) {
	for a := 1; a < 256; a++ {
		inverse, _ := Inv(byte(a))
		up, down := byte(1), byte(1)
		for n := range 600 {
			if got := Pow(byte(a), n); got != up {
				t.Fatalf("Pow(%#x, %d) = %#x, not %#x", a, n, got, up)
			}
			if got := Pow(byte(a), -n); got != down {
				t.Fatalf("Pow(%#x, %d) = %#x, not %#x", a, -n, got, down)
			}
			up, down = byBits(up, byte(a)), byBits(down, inverse)
		}
	}
}

// P1.3: 1 of n 0, also of a 0; else 0 of a 0.
func TestPowOfNoughts(t *testing.T) {
	for a := range 256 {
		if got := Pow(byte(a), 0); got != 1 {
			t.Errorf("Pow(%#x, 0) = %#x", a, got)
		}
	}
	for _, n := range []int{1, 2, 5, 254, 255, 256, -1, -2, -255, math.MaxInt, math.MinInt} {
		if got := Pow(0, n); got != 0 {
			t.Errorf("Pow(0, %d) = %#x", n, got)
		}
	}
}

// P1.3: the greatest and the least n. 2^63 = 2^(7 * 8 + 7), and 2^8 is 1 modulo 255, so it is 128 there.
func TestPowOfTheFarthestN(t *testing.T) {
	if math.MaxInt != 1<<63-1 {
		t.Skip("the numbers below are those of 64 bits")
	}
	for a := 1; a < 256; a++ {
		inverse, _ := Inv(byte(a))
		if got, want := Pow(byte(a), math.MaxInt), step(1, byte(a), 127); got != want {
			t.Errorf("Pow(%#x, MaxInt) = %#x, not %#x", a, got, want)
		}
		if got, want := Pow(byte(a), math.MinInt), step(1, inverse, 128); got != want {
			t.Errorf("Pow(%#x, MinInt) = %#x, not %#x", a, got, want)
		}
	}
}

// P1.3
func TestExp(t *testing.T) {
	for n := -600; n <= 600; n++ {
		want := step(1, 2, n)
		if n < 0 {
			want = step(1, 0x8e, -n)
		}
		if got := Exp(n); got != want {
			t.Errorf("Exp(%d) = %#x, not %#x", n, got, want)
		}
	}
	for _, n := range []int{math.MaxInt, math.MinInt} {
		if got, want := Exp(n), Pow(2, n); got != want {
			t.Errorf("Exp(%d) = %#x, not %#x", n, got, want)
		}
	}
}

// P1.3: the least n, so none below it will do.
func TestLog(t *testing.T) {
	for a := 1; a < 256; a++ {
		want, power := 0, byte(1)
		for power != byte(a) {
			want, power = want+1, byBits(power, 2)
		}
		if got, is := Log(byte(a)); got != want || !is {
			t.Errorf("Log(%#x) = %d, %v, not %d", a, got, is, want)
		}
	}
	for a, want := range map[byte]int{1: 0, 2: 1, 3: 25, 0x1d: 8, 0x8e: 254} {
		if got, is := Log(a); got != want || !is {
			t.Errorf("Log(%#x) = %d, %v, not %d", a, got, is, want)
		}
	}
}

// P1.3
func TestLogOfNought(t *testing.T) {
	if n, is := Log(0); n != 0 || is {
		t.Errorf("Log(0) = %d, %v", n, is)
	}
}

// P1.4
func TestTimesGoesByteByByte(t *testing.T) {
	s := allBytes() + "revetment" + strings.Repeat("\xff\x00", 40)
	for by := range 256 {
		want := make([]byte, len(s))
		for i := range want {
			want[i] = byBits(s[i], byte(by))
		}
		if got := Times(s, byte(by)); got != string(want) {
			t.Fatalf("Times by %#x = %x, not %x", by, got, want)
		}
	}
}

// P1.4
func TestTimesAtItsEdges(t *testing.T) {
	for _, c := range []struct {
		s    string
		by   byte
		want string
	}{
		{"", 0, ""}, {"", 9, ""}, {"ab", 0, "\x00\x00"}, {"ab", 1, "ab"}, {"\x00", 0xff, "\x00"}, {"\x01\x80\x00", 2, "\x02\x1d\x00"},
	} {
		if got := Times(c.s, c.by); got != c.want {
			t.Errorf("Times(%x, %#x) = %x, not %x", c.s, c.by, got, c.want)
		}
	}
}

// P1.4
func TestXor(t *testing.T) {
	all := allBytes()
	for _, c := range []struct{ a, b, want string }{
		{"", "", ""}, {"xy", "", "xy"}, {"", "xy", "xy"}, {"ab", "a", "\x00b"}, {"a", "ab", "\x00b"},
		{"\x0f\xf0", "\xff\xff", "\xf0\x0f"}, {all, all, strings.Repeat("\x00", 256)},
		{all, strings.Repeat("\x00", 300), all + strings.Repeat("\x00", 44)}, {"a", "\x00\x00", "a\x00"}, {"\x00\x00", "a", "a\x00"},
	} {
		if got := Xor(c.a, c.b); got != c.want {
			t.Errorf("Xor(%x, %x) = %x, not %x", c.a, c.b, got, c.want)
		}
	}
}

// P1.4: of every two bytes.
func TestXorOfEachTwoBytes(t *testing.T) {
	all := allBytes()
	for by := range 256 {
		want := make([]byte, 256)
		for i := range want {
			want[i] = byte(i ^ by)
		}
		if got := Xor(all, strings.Repeat(string([]byte{byte(by)}), 256)); got != string(want) {
			t.Errorf("Xor by %#x = %x", by, got)
		}
	}
}

// P1.5: products hang on no order, and go through sums. They are kept here, since each one is asked for often.
func TestProductsHangOnNoOrderAndGoThroughSums(t *testing.T) {
	var mul [256][256]byte
	for a := range mul {
		for b := range mul[a] {
			mul[a][b] = Mul(byte(a), byte(b))
		}
	}
	for i := range 1 << 24 {
		a, b, c := byte(i>>16), byte(i>>8), byte(i)
		ab, ac := mul[a][b], mul[a][c]
		if ab != mul[b][a] || mul[ab][c] != mul[a][mul[b][c]] || ab^ac != mul[a][b^c] {
			t.Fatalf("of %#x, %#x, %#x", a, b, c)
		}
	}
}

// P1.5: also of whole texts.
func TestTimesGoesThroughXor(t *testing.T) {
	a, b := allBytes(), "of another length"
	for by := range 256 {
		if Times(Xor(a, b), byte(by)) != Xor(Times(a, byte(by)), Times(b, byte(by))) {
			t.Errorf("by %#x", by)
		}
	}
}

// P1.5: each number but 0 is a power of 2, of which there are 255.
func TestPowersOfTwoAreAllNumbersButNought(t *testing.T) {
	seen := map[byte]bool{}
	for n := range 255 {
		seen[Exp(n)] = true
	}
	if len(seen) != 255 || seen[0] {
		t.Errorf("%d powers, nought among them: %v", len(seen), seen[0])
	}
	if Exp(255) != 1 || Exp(-255) != 1 {
		t.Errorf("Exp(255) = %#x, Exp(-255) = %#x", Exp(255), Exp(-255))
	}
	for a := 1; a < 256; a++ {
		if n, is := Log(byte(a)); !is || n < 0 || n > 254 || Exp(n) != byte(a) {
			t.Errorf("Log(%#x) = %d, %v", a, n, is)
		}
	}
}

// However many ask at once for tables that nobody has asked for yet: they are made once, and filled for all.
func TestTablesAreMadeOnce(t *testing.T) {
	var fresh tables
	var group sync.WaitGroup
	var answers [50]int
	for i := range answers {
		group.Go(func() { answers[i] = fresh.ready().place(0x1d) })
	}
	group.Wait()
	for i, answer := range answers {
		if answer != 8 {
			t.Errorf("call %d: %d", i, answer)
		}
	}
	if made := fresh.made.Load(); made != 1 {
		t.Errorf("made %d times", made)
	}
}

// However often the calls are made, the tables beside them are made once.
func TestCallsShareTheTables(t *testing.T) {
	for n := range 10 {
		Mul(3, 7)
		Inv(3)
		Div(9, 7)
		Exp(n)
		Log(3)
		Times("revetment", 3)
	}
	if made := field.made.Load(); made != 1 {
		t.Errorf("made %d times", made)
	}
}

// The tables hold just the powers and logarithms that the calls answer.
func TestTablesSayWhatTheCallsAnswer(t *testing.T) {
	var fresh tables
	fresh.fill()
	for n, power := range fresh.powers {
		if power != step(1, 2, n) || int(fresh.logs[power]) != n || fresh.place(power) != n {
			t.Errorf("power %d is %#x, of which the logarithm is %d, and the place %d", n, power, fresh.logs[power], fresh.place(power))
		}
	}
	if n := fresh.place(0); n != 0 {
		t.Errorf("0 has the place %d", n)
	}
}

// Tables that are empty, or wrong, have no places, rather than wrong ones.
func TestTablesThatDisagreeHaveNoPlaces(t *testing.T) {
	var empty, wrong tables
	wrong.fill()
	for a := range wrong.logs {
		wrong.logs[a]++
	}
	for a := 1; a < 256; a++ {
		if n, m := empty.place(byte(a)), wrong.place(byte(a)); n != 0 || m != 0 {
			t.Errorf("%#x has the places %d, %d", a, n, m)
		}
	}
}

// A logarithm hangs on no table: it is the same one from wherever it is counted, and 0 of 0.
func TestLogarithmHangsOnNoStart(t *testing.T) {
	for a := range 256 {
		want, _ := Log(byte(a))
		for start := -256; start <= 512; start++ {
			if got := logarithm(byte(a), start); got != want {
				t.Fatalf("%#x, counted from %d: %d, not %d", a, start, got, want)
			}
		}
	}
}
