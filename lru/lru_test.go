package lru

import (
	"math"
	"slices"
	"testing"

	"revetment/api"
)

// far are numbers near and far, of both signs; some have the same low bits as others.
func far() []int {
	return []int{math.MinInt, math.MinInt + 1, math.MinInt + 64, -1 << 32, -1<<32 + 1, -1 << 31, -65, -64, -63, -2, -1, 0, 1, 2, 63, 64, 65, 66, 127, 128, 255, 256, 257, 320, 65536, 65537, 1<<31 - 1, 1 << 31, 1 << 32, 1<<32 + 1, 1<<32 + 64, 1 << 62, 1<<62 + 1, math.MaxInt - 1, math.MaxInt}
}

// made is a list with room for so many, in which these keys were put, one behind the other.
func made(t *testing.T, room int, keys ...int) *List {
	t.Helper()
	l := New(room)
	if l == nil {
		t.Fatalf("no list with room for %d", room)
	}
	for _, key := range keys {
		puts(t, l, key)
	}
	return l
}

// upTo are the numbers 1 to n.
func upTo(n int) []int {
	var out []int
	for i := range n {
		out = append(out, i+1)
	}
	return out
}

// first is a list with a key put first in it; the others stay in order.
func first(key int, l []int) []int {
	return append([]int{key}, without(key, l)...)
}

// without is a list, less a key.
func without(key int, l []int) []int {
	return slices.DeleteFunc(slices.Clone(l), func(k int) bool { return k == key })
}

// reversed is a list, the last one first.
func reversed(l []int) []int {
	out := slices.Clone(l)
	slices.Reverse(out)
	return out
}

// puts puts a key for which none has to go.
func puts(t *testing.T, l *List, key int) {
	t.Helper()
	if gone, is, e := l.Put(key); gone != 0 || is || e != api.OK {
		t.Fatalf("Put(%d) answers %d, %v, %d", key, gone, is, e)
	}
}

// putsFor puts a key for which another one goes.
func putsFor(t *testing.T, l *List, key, want int) {
	t.Helper()
	if gone, is, e := l.Put(key); gone != want || !is || e != api.OK {
		t.Fatalf("Put(%d) answers %d, %v, %d, not %d", key, gone, is, e, want)
	}
}

// busy puts a key for which there is no room.
func busy(t *testing.T, l *List, key int) {
	t.Helper()
	if gone, is, e := l.Put(key); gone != 0 || is || e != api.ErrBusy {
		t.Fatalf("Put(%d) answers %d, %v, %d", key, gone, is, e)
	}
}

func answers(t *testing.T, got, want api.Errno) {
	t.Helper()
	if got != want {
		t.Fatalf("the answer is %d, not %d", got, want)
	}
}

// pins pins a key so many times.
func pins(t *testing.T, l *List, key, n int) {
	t.Helper()
	for range n {
		answers(t, l.Pin(key), api.OK)
	}
}

// unpins takes so many pins of a key back.
func unpins(t *testing.T, l *List, key, n int) {
	t.Helper()
	for range n {
		answers(t, l.Unpin(key), api.OK)
	}
}

// has tells whether just these are the keys, in that order.
func has(t *testing.T, l *List, keys ...int) {
	t.Helper()
	if got := l.Keys(); !slices.Equal(got, keys) {
		t.Fatalf("the keys are %v, not %v", got, keys)
	}
}

// pinned tells whether a key is pinned so often.
func pinned(t *testing.T, l *List, key, want int) {
	t.Helper()
	if got := l.Pinned(key); got != want {
		t.Fatalf("%d is pinned %d times, not %d", key, got, want)
	}
}

// counts are how often each key of a list is pinned, in their order.
func counts(l *List) []int {
	var out []int
	for _, key := range l.Keys() {
		out = append(out, l.Pinned(key))
	}
	return out
}

// unchanged tells whether a list is as it was ahead of a call that takes nothing and wants nothing.
func unchanged(t *testing.T, l *List, call func()) {
	t.Helper()
	keys, pins := l.Keys(), counts(l)
	call()
	if !slices.Equal(l.Keys(), keys) || !slices.Equal(counts(l), pins) {
		t.Fatalf("the keys are %v, pinned %v; they were %v, pinned %v", l.Keys(), counts(l), keys, pins)
	}
}

// P14.1: there is a list with room for 1 to 64, and for no others.
func TestNewRoom(t *testing.T) {
	for _, room := range far() {
		if (New(room) != nil) != (room >= 1 && room <= 64) {
			t.Errorf("a list with room for %d: %v", room, New(room) != nil)
		}
	}
	for room := -300; room <= 600; room++ {
		if (New(room) != nil) != (room >= 1 && room <= 64) {
			t.Errorf("a list with room for %d: %v", room, New(room) != nil)
		}
	}
}

// P14.1: a new list has no keys, whatever its room.
func TestNewHasNoKeys(t *testing.T) {
	for room := 1; room <= 64; room++ {
		l := made(t, room)
		has(t, l)
		for _, key := range append(far(), room) {
			pinned(t, l, key, 0)
			if l.Get(key) {
				t.Errorf("room %d: the key %d is there", room, key)
			}
		}
	}
}

// P14.1: a list has just the room that it was made with: as many keys are there together, and one more is not.
func TestNewHasItsRoom(t *testing.T) {
	for room := 1; room <= 64; room++ {
		l := made(t, room, upTo(room)...)
		has(t, l, reversed(upTo(room))...)
		putsFor(t, l, 100, 1)
		if n := len(l.Keys()); n != room {
			t.Errorf("room %d: %d keys", room, n)
		}
	}
}

// P14.1: a list has nothing of one that was made before, nor the other way.
func TestNewIsAnother(t *testing.T) {
	a := made(t, 3, 1, 2)
	pins(t, a, 2, 2)
	b := made(t, 3)
	has(t, b)
	pinned(t, b, 2, 0)
	for _, key := range []int{2, 7, 8, 9} {
		b.Put(key)
	}
	pins(t, b, 8, 1)
	has(t, a, 2, 1)
	pinned(t, a, 2, 2)
	pinned(t, a, 8, 0)
	has(t, b, 9, 8, 7)
}

// P14.1: Keys, by hand: the one that was wanted last first.
func TestKeysByHand(t *testing.T) {
	l := made(t, 4, 5, -6, 7)
	has(t, l, 7, -6, 5)
	puts(t, l, -6)
	has(t, l, -6, 7, 5)
	if !l.Get(5) {
		t.Error("5 is not there")
	}
	has(t, l, 5, -6, 7)
	puts(t, l, 0)
	has(t, l, 0, 5, -6, 7)
	answers(t, l.Drop(5), api.OK)
	has(t, l, 0, -6, 7)
}

// P14.1: whatever number is a key: the first and the last ones, 0, and those that look alike but for their high bits, are each one of its own.
func TestKeysOfAllNumbers(t *testing.T) {
	l := made(t, 64, far()...)
	has(t, l, reversed(far())...)
	for i, key := range far() {
		if !l.Get(key) {
			t.Errorf("%d is not there", key)
		}
		pins(t, l, key, i)
	}
	for i, key := range far() {
		pinned(t, l, key, i)
	}
	has(t, l, reversed(far())...)
}

// P14.1: being told wants no key: Keys are the same again.
func TestKeysChangesNothing(t *testing.T) {
	l := made(t, 5, 1, 2, 3)
	pins(t, l, 2, 2)
	for range 5 {
		has(t, l, 3, 2, 1)
		pinned(t, l, 2, 2)
		pinned(t, l, 1, 0)
	}
}

// P14.1: Keys are new memory each time: what is done to them does nothing to the list, nor what is done to the list to them.
func TestKeysAreNew(t *testing.T) {
	l := made(t, 4, 1, 2, 3)
	was, other := l.Keys(), l.Keys()
	for i := range was {
		was[i] = 50 + i
	}
	_ = append(was, 60)
	slices.Reverse(was)
	has(t, l, 3, 2, 1)
	l.Get(1)
	puts(t, l, 4)
	putsFor(t, l, 5, 2)
	answers(t, l.Drop(3), api.OK)
	if !slices.Equal(other, []int{3, 2, 1}) || !slices.Equal(was, []int{52, 51, 50}) {
		t.Errorf("what was told is now %v and %v", other, was)
	}
}

// P14.2: Get tells whether a key is there, and wants it: each one of lists of each length, with room behind them and without.
func TestGetOfEach(t *testing.T) {
	for n := 1; n <= 64; n++ {
		for _, room := range []int{n, min(n+1, 64), 64} {
			l, want := made(t, room, upTo(n)...), reversed(upTo(n))
			for i := range n {
				key := (i*37+n)%n + 1
				if !l.Get(key) {
					t.Fatalf("room %d: %d is not there", room, key)
				}
				want = first(key, want)
				has(t, l, want...)
			}
		}
	}
}

// P14.2: Get of a key that is not there wants none, and brings none.
func TestGetOfNone(t *testing.T) {
	for _, keys := range [][]int{nil, {1}, {1, 2, 3}, {3, 2, 1, 4}} {
		l := made(t, 4, keys...)
		for _, key := range append(far(), 5, 6) {
			if slices.Contains(keys, key) {
				continue
			}
			unchanged(t, l, func() {
				if l.Get(key) {
					t.Errorf("%v: %d is there", keys, key)
				}
			})
		}
	}
}

// P14.2: a key that was wanted by Get is not the next one to go.
func TestGetKeeps(t *testing.T) {
	l := made(t, 3, 1, 2, 3)
	l.Get(1)
	putsFor(t, l, 4, 2)
	l.Get(3)
	putsFor(t, l, 5, 1)
	has(t, l, 5, 3, 4)
	if l.Get(1) || l.Get(2) || !l.Get(4) {
		t.Error("Get tells what went to be there, or what is there not to be")
	}
}

// P14.2: Get of a pinned key wants it too, and leaves it pinned.
func TestGetOfPinned(t *testing.T) {
	l := made(t, 3, 1, 2, 3)
	pins(t, l, 1, 2)
	if !l.Get(1) {
		t.Error("1 is not there")
	}
	has(t, l, 1, 3, 2)
	pinned(t, l, 1, 2)
}

// P14.2: Put of a key that is there wants it, whether there is room or not, and none goes.
func TestPutOfThere(t *testing.T) {
	for n := 1; n <= 64; n++ {
		for _, room := range []int{n, min(n+1, 64)} {
			l, want := made(t, room, upTo(n)...), reversed(upTo(n))
			for i := range n {
				key := (i*41+2*n)%n + 1
				puts(t, l, key)
				want = first(key, want)
				has(t, l, want...)
			}
		}
	}
}

// P14.2: Put of a key that is there is OK also if all keys are pinned, and no pin goes by it.
func TestPutOfPinned(t *testing.T) {
	l := made(t, 3, 1, 2, 3)
	for key := 1; key <= 3; key++ {
		pins(t, l, key, key)
	}
	puts(t, l, 2)
	has(t, l, 2, 3, 1)
	puts(t, l, 1)
	has(t, l, 1, 2, 3)
	puts(t, l, 1)
	has(t, l, 1, 2, 3)
	for key := 1; key <= 3; key++ {
		pinned(t, l, key, key)
	}
}

// P14.2: as long as there is room none goes, and the new key is the first one, not pinned.
func TestPutIntoRoom(t *testing.T) {
	l, want := made(t, 64), []int(nil)
	for i := range 64 {
		key := i*i - 20*i
		if slices.Contains(want, key) {
			key += 5000
		}
		puts(t, l, key)
		want = first(key, want)
		has(t, l, want...)
		pinned(t, l, key, 0)
		if i%3 == 0 {
			pins(t, l, key, 1)
		}
	}
}

// P14.2: the chapter's example, and on from there: with room for one the one that is there goes, also 0 and those below it.
func TestPutWithRoomForOne(t *testing.T) {
	l := made(t, 1, 1)
	putsFor(t, l, 2, 1)
	has(t, l, 2)
	was := 2
	for _, key := range slices.DeleteFunc(far(), func(k int) bool { return k == 2 }) {
		putsFor(t, l, key, was)
		has(t, l, key)
		puts(t, l, key)
		was = key
	}
}

// P14.2: the one that goes is the last one of Keys, in lists of each room, and it is there no more.
func TestPutTakesTheLast(t *testing.T) {
	for room := 1; room <= 64; room++ {
		l, want := made(t, room, upTo(room)...), reversed(upTo(room))
		for i := range 2*room + 3 {
			if i%2 == 1 {
				key := want[(i*7)%room]
				l.Get(key)
				want = first(key, want)
			}
			last := want[room-1]
			putsFor(t, l, 100+i, last)
			want = first(100+i, without(last, want))
			has(t, l, want...)
			pinned(t, l, last, 0)
			answers(t, l.Pin(last), api.ErrNone)
			answers(t, l.Drop(last), api.ErrNone)
		}
	}
}

// P14.2: pinned keys are gone by: of each choice of pinned ones the last of the others goes; if there is no other it is ErrBusy, and all is as it was.
func TestPutTakesTheLastThatIsNotPinned(t *testing.T) {
	for room := 1; room <= 7; room++ {
		for choice := range 1 << room {
			l, keys, want := made(t, room, upTo(room)...), reversed(upTo(room)), 0
			for i, key := range keys {
				if choice>>i&1 == 1 {
					pins(t, l, key, 1+i%3)
				} else {
					want = key
				}
			}
			if want == 0 {
				unchanged(t, l, func() { busy(t, l, 100) })
				continue
			}
			putsFor(t, l, 100, want)
			has(t, l, first(100, without(want, keys))...)
			for i, key := range keys {
				pinned(t, l, key, choice>>i&1*(1+i%3))
			}
		}
	}
}

// P14.2: of all keys pinned but one that one goes, wherever it stands; the new one is not pinned, and goes next.
func TestPutTakesTheOnlyOne(t *testing.T) {
	for _, room := range []int{1, 2, 3, 17, 63, 64} {
		for one := 1; one <= room; one++ {
			l := made(t, room, upTo(room)...)
			for key := 1; key <= room; key++ {
				if key != one {
					pins(t, l, key, 1)
				}
			}
			putsFor(t, l, 0, one)
			has(t, l, first(0, without(one, reversed(upTo(room))))...)
			putsFor(t, l, -1, 0)
			pins(t, l, -1, 1)
			unchanged(t, l, func() { busy(t, l, 0) })
		}
	}
}

// P14.2: ErrBusy is told again as often as it is asked for; one key unpinned, or dropped, is room again.
func TestPutIsBusy(t *testing.T) {
	l := made(t, 3, 1, 2, 3)
	for key := 1; key <= 3; key++ {
		pins(t, l, key, 2)
	}
	for _, key := range []int{4, 0, -1, math.MaxInt, math.MinInt, 4} {
		unchanged(t, l, func() { busy(t, l, key) })
		if l.Get(key) {
			t.Errorf("%d is there", key)
		}
	}
	unpins(t, l, 2, 1)
	unchanged(t, l, func() { busy(t, l, 4) })
	unpins(t, l, 2, 1)
	putsFor(t, l, 4, 2)
	has(t, l, 4, 3, 1)
	pins(t, l, 4, 1)
	busy(t, l, 5)
	unpins(t, l, 3, 2)
	answers(t, l.Drop(3), api.OK)
	puts(t, l, 5)
	has(t, l, 5, 4, 1)
}

// P14.2: a key that went comes back as any other one: wanted last, and not pinned.
func TestPutAgain(t *testing.T) {
	l := made(t, 2, 1, 2)
	pins(t, l, 1, 1)
	unpins(t, l, 1, 1)
	putsFor(t, l, 3, 1)
	putsFor(t, l, 1, 2)
	has(t, l, 1, 3)
	pinned(t, l, 1, 0)
	putsFor(t, l, 4, 3)
	putsFor(t, l, 5, 1)
	has(t, l, 5, 4)
}

// P14.2: what is told of Pin, Unpin, Pinned, Drop and Keys wants no key: the same one goes, whatever was pinned meanwhile.
func TestOthersWantNone(t *testing.T) {
	l := made(t, 4, 1, 2, 3, 4)
	pins(t, l, 1, 3)
	has(t, l, 4, 3, 2, 1)
	answers(t, l.Drop(1), api.ErrState)
	has(t, l, 4, 3, 2, 1)
	unpins(t, l, 1, 3)
	has(t, l, 4, 3, 2, 1)
	answers(t, l.Unpin(1), api.ErrState)
	pinned(t, l, 1, 0)
	has(t, l, 4, 3, 2, 1)
	putsFor(t, l, 5, 1)
}

// P14.3: pins are counted, each key's by itself.
func TestPinCounts(t *testing.T) {
	for _, n := range []int{1, 2, 3, 100, 127, 128, 255, 256, 257, 32768, 65535, 65536, 65537} {
		l := made(t, 3, 1, 2, 3)
		pins(t, l, 1, 1)
		for i := range n {
			pinned(t, l, 2, i)
			answers(t, l.Pin(2), api.OK)
		}
		pinned(t, l, 1, 1)
		pinned(t, l, 3, 0)
		for i := range n {
			pinned(t, l, 2, n-i)
			answers(t, l.Drop(2), api.ErrState)
			answers(t, l.Unpin(2), api.OK)
		}
		pinned(t, l, 2, 0)
		unchanged(t, l, func() { answers(t, l.Unpin(2), api.ErrState) })
		pinned(t, l, 1, 1)
		has(t, l, 3, 2, 1)
	}
}

// P14.3: what is not there is ErrNone, for each call that names a key, and pinned 0 times; nothing is changed, and the key is not there by it.
func TestOfNone(t *testing.T) {
	empty, some, full := made(t, 3), made(t, 3, 7, 8), made(t, 3, 7, 8, 9)
	pins(t, some, 8, 2)
	for key := 7; key <= 9; key++ {
		pins(t, full, key, 1)
	}
	for i, l := range []*List{empty, some, full} {
		for _, key := range append(far(), 10, 6, -7) {
			unchanged(t, l, func() {
				for what, e := range []api.Errno{l.Pin(key), l.Unpin(key), l.Drop(key)} {
					if e != api.ErrNone {
						t.Errorf("list %d, key %d: call %d answers %d", i, key, what, e)
					}
				}
				pinned(t, l, key, 0)
			})
		}
	}
}

// P14.3: Unpin of a key that is not pinned is ErrState, again and again; it takes no pin, of whichever key.
func TestUnpinOfNotPinned(t *testing.T) {
	l := made(t, 4, 1, 2, 3)
	pins(t, l, 1, 1)
	pins(t, l, 3, 2)
	for range 3 {
		unchanged(t, l, func() { answers(t, l.Unpin(2), api.ErrState) })
	}
	pins(t, l, 2, 1)
	pinned(t, l, 2, 1)
	unpins(t, l, 2, 1)
	answers(t, l.Unpin(2), api.ErrState)
	pinned(t, l, 2, 0)
	answers(t, l.Drop(2), api.OK)
}

// P14.3: Drop takes just that key, wherever it stands in lists of each length; the others stay as they are.
func TestDropOfEach(t *testing.T) {
	for n := 1; n <= 64; n++ {
		for one := 1; one <= n; one++ {
			l := made(t, n, upTo(n)...)
			for key := 1; key <= n; key += 5 {
				if key != one {
					pins(t, l, key, 1+key%2)
				}
			}
			answers(t, l.Drop(one), api.OK)
			has(t, l, without(one, reversed(upTo(n)))...)
			for key := 1; key <= n; key++ {
				want := 0
				if key%5 == 1 && key != one {
					want = 1 + key%2
				}
				pinned(t, l, key, want)
			}
			if l.Get(one) || l.Drop(one) != api.ErrNone || l.Pin(one) != api.ErrNone || l.Unpin(one) != api.ErrNone {
				t.Fatalf("%d of %d is still there", one, n)
			}
		}
	}
}

// P14.3: all keys can be dropped, in whatever order, and as many put again.
func TestDropAll(t *testing.T) {
	for _, n := range []int{1, 2, 3, 4, 5, 31, 64} {
		for _, step := range []int{1, n - 1, 7, 37} {
			l, left := made(t, n, upTo(n)...), reversed(upTo(n))
			for i := 0; len(left) > 0; i += step {
				key := left[i%len(left)]
				answers(t, l.Drop(key), api.OK)
				left = without(key, left)
				has(t, l, left...)
			}
			for _, key := range upTo(n) {
				puts(t, l, key)
			}
			has(t, l, reversed(upTo(n))...)
			putsFor(t, l, 0, 1)
		}
	}
}

// P14.3: a pinned key is not dropped, and stays as it is; it is, as soon as it is unpinned as often as it was pinned.
func TestDropOfPinned(t *testing.T) {
	for _, n := range []int{1, 2, 5} {
		l := made(t, 3, 1, 2, 3)
		pins(t, l, 2, n)
		for i := range n {
			unchanged(t, l, func() { answers(t, l.Drop(2), api.ErrState) })
			pinned(t, l, 2, n-i)
			unpins(t, l, 2, 1)
		}
		answers(t, l.Drop(2), api.OK)
		has(t, l, 3, 1)
	}
}

// P14.3: a key that was dropped makes room for one more, none goes for it; put again it is wanted last, and not pinned.
func TestDropMakesRoom(t *testing.T) {
	l := made(t, 3, 1, 2, 3)
	pins(t, l, 2, 2)
	unpins(t, l, 2, 2)
	answers(t, l.Drop(2), api.OK)
	puts(t, l, 4)
	has(t, l, 4, 3, 1)
	putsFor(t, l, 2, 1)
	has(t, l, 2, 4, 3)
	pinned(t, l, 2, 0)
	answers(t, l.Unpin(2), api.ErrState)
	answers(t, l.Drop(2), api.OK)
	puts(t, l, 2)
	has(t, l, 2, 4, 3)
}

// P14.3: a key that is pinned while others come and go has its pins still, and is the same one when it is wanted.
func TestPinsStay(t *testing.T) {
	l := made(t, 3, 1, 2, 3)
	pins(t, l, 1, 2)
	for key := 4; key < 200; key++ {
		l.Put(key)
		if key%3 == 0 {
			l.Get(1)
		}
		pinned(t, l, 1, 2)
		pinned(t, l, key, 0)
	}
	unpins(t, l, 1, 2)
	answers(t, l.Unpin(1), api.ErrState)
	answers(t, l.Drop(1), api.OK)
	has(t, l, 199, 198)
}

// R1: a list that nobody made has room for none: no call panics, and none brings a key.
func TestListThatNobodyMade(t *testing.T) {
	for _, key := range far() {
		var l List
		busy(t, &l, key)
		if l.Get(key) {
			t.Errorf("%d is there", key)
		}
		answers(t, l.Pin(key), api.ErrNone)
		answers(t, l.Unpin(key), api.ErrNone)
		answers(t, l.Drop(key), api.ErrNone)
		pinned(t, &l, key, 0)
		has(t, &l)
	}
}
