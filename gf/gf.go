// Package gf is layer 1: see shared/doc/01-gf.md.
package gf

import (
	"sync"
	"sync/atomic"
)

const (
	modulus = 0x1d // what x^8 is: the modulus without its highest bit
	order   = 255  // how many powers of 2 there are, until they come round
)

// tables has the powers of 2, and which power each number but 0 is.
type tables struct {
	once   sync.Once
	made   atomic.Int32
	powers [order]byte
	logs   [order + 1]byte
}

// field outlives the calls, since its tables are made but once. No answer hangs on it: it spares logarithm its steps.
var field tables

// ready hands the tables on filled, whichever call is the first one.
func (t *tables) ready() *tables {
	t.once.Do(t.fill)
	return t
}

func (t *tables) fill() {
	t.made.Add(1)
	power := byte(1)
	for n := range order {
		t.powers[n] = power
		t.logs[power] = byte(n)
		power = double(power)
	}
}

// place is the power of 2 that a is, as far as both tables say the same of it; else 0.
func (t *tables) place(a byte) int {
	n := int(t.logs[a])
	if n < order && t.powers[n] == a {
		return n
	}
	return 0
}

func double(a byte) byte {
	if a&0x80 != 0 {
		return a<<1 ^ modulus
	}
	return a << 1
}

// product adds a up, doubled as often as each bit of b that is set says.
func product(a, b byte) byte {
	sum := byte(0)
	for ; b != 0; b >>= 1 {
		if b&1 == 1 {
			sum ^= a
		}
		a = double(a)
	}
	return sum
}

func power(a byte, n int) byte {
	switch {
	case n == 0:
		return 1
	case a == 0:
		return 0
	}
	out := byte(1)
	for left := around(n); left > 0; left >>= 1 {
		if left&1 == 1 {
			out = product(out, a)
		}
		a = product(a, a)
	}
	return out
}

// around is n modulo order, from 0 on. It never takes -n: the least int has none.
func around(n int) int {
	return (n%order + order) % order
}

// logarithm counts on from a start, and round, until it comes to the power of 2 that a is; so its answer hangs on no start. It is 0 of 0, which is no power.
func logarithm(a byte, start int) int {
	n := around(start)
	p := power(2, n)
	for range order {
		if p == a {
			return n
		}
		n, p = around(n+1), double(p)
	}
	return 0
}

// Mul is the product of both.
func Mul(a, b byte) byte {
	return product(a, b)
}

// Inv is the number that times a is 1; of 0 there is none.
func Inv(a byte) (byte, bool) {
	if a == 0 {
		return 0, false
	}
	return power(a, -1), true
}

// Div is a times the Inv of b, if there is one.
func Div(a, b byte) (byte, bool) {
	inverse, is := Inv(b)
	if !is {
		return 0, false
	}
	return Mul(a, inverse), true
}

// Pow is a times itself, n times; of n below 0 that of its Inv.
func Pow(a byte, n int) byte {
	return power(a, n)
}

// Exp is the power n of 2.
func Exp(n int) byte {
	return Pow(2, n)
}

// Log is the least n from 0 on for which Exp is a; of 0 there is none.
func Log(a byte) (int, bool) {
	if a == 0 {
		return 0, false
	}
	return logarithm(a, field.ready().place(a)), true
}

// Times is Mul by one number, byte by byte.
func Times(s string, by byte) string {
	out := make([]byte, len(s))
	for i := range out {
		out[i] = product(s[i], by)
	}
	return string(out)
}

// Xor adds both, byte by byte, and is as long as the longer one.
func Xor(a, b string) string {
	if len(a) < len(b) {
		a, b = b, a
	}
	out := []byte(a)
	for i := range len(b) {
		out[i] ^= b[i]
	}
	return string(out)
}
