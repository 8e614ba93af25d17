package lru

import (
	"slices"
	"strconv"
	"testing"

	"revetment/api"
)

// shelf is a list as the chapter says it, word by word: its keys in order, and how often each one is pinned.
type shelf struct {
	room int
	keys []int
	pins map[int]int
}

func bare(room int) *shelf {
	return &shelf{room: room, pins: map[int]int{}}
}

func (s *shelf) has(key int) bool {
	return slices.Contains(s.keys, key)
}

func (s *shelf) Get(key int) bool {
	if !s.has(key) {
		return false
	}
	s.keys = first(key, s.keys)
	return true
}

func (s *shelf) Put(key int) (int, bool, api.Errno) {
	if s.Get(key) {
		return 0, false, api.OK
	}
	gone, is := 0, false
	if len(s.keys) == s.room {
		for _, k := range s.keys {
			if s.pins[k] == 0 {
				gone, is = k, true
			}
		}
		if !is {
			return 0, false, api.ErrBusy
		}
		s.keys = without(gone, s.keys)
	}
	s.keys = first(key, s.keys)
	return gone, is, api.OK
}

func (s *shelf) Pin(key int) api.Errno {
	if !s.has(key) {
		return api.ErrNone
	}
	s.pins[key]++
	return api.OK
}

func (s *shelf) Unpin(key int) api.Errno {
	if !s.has(key) {
		return api.ErrNone
	}
	if s.pins[key] == 0 {
		return api.ErrState
	}
	s.pins[key]--
	return api.OK
}

func (s *shelf) Drop(key int) api.Errno {
	if !s.has(key) {
		return api.ErrNone
	}
	if s.pins[key] != 0 {
		return api.ErrState
	}
	s.keys = without(key, s.keys)
	return api.OK
}

// chance tells numbers that are the same in each run.
type chance uint64

func (c *chance) below(n int) int {
	*c = *c*6364136223846793005 + 1442695040888963407
	return int(uint64(*c)>>33) % n
}

const (
	getting = iota
	putting
	pinning
	unpinning
	dropping
	kinds
)

// call is something that is done to a list with a key.
type call struct{ kind, key int }

func (c call) String() string {
	return []string{"Get", "Put", "Pin", "Unpin", "Drop"}[c.kind] + " " + strconv.Itoa(c.key)
}

// asked is what a List and a shelf have both.
type asked interface {
	Get(key int) bool
	Put(key int) (int, bool, api.Errno)
	Pin(key int) api.Errno
	Unpin(key int) api.Errno
	Drop(key int) api.Errno
}

// answer is what a call answers; what it does not tell is zero.
type answer struct {
	key int
	is  bool
	e   api.Errno
}

// to calls, and tells the answer.
func (c call) to(l asked) (a answer) {
	switch c.kind {
	case getting:
		a.is = l.Get(c.key)
	case putting:
		a.key, a.is, a.e = l.Put(c.key)
	case pinning:
		a.e = l.Pin(c.key)
	case unpinning:
		a.e = l.Unpin(c.key)
	case dropping:
		a.e = l.Drop(c.key)
	}
	return
}

// agrees tells whether both tell the same of their keys, and of these pins.
func agrees(l *List, s *shelf, keys int) bool {
	for key := -1; key <= keys; key++ {
		if l.Pinned(key) != s.pins[key] {
			return false
		}
	}
	return slices.Equal(l.Keys(), s.keys)
}

// each tells all calls with so many keys.
func each(keys int) []call {
	var out []call
	for kind := range kinds {
		for key := range keys {
			out = append(out, call{kind, key})
		}
	}
	return out
}

// redone is a list, and a shelf, to which all of that was done.
func redone(t *testing.T, room int, done []call) (*List, *shelf) {
	t.Helper()
	l, s := made(t, room), bare(room)
	for _, c := range done {
		if c.to(l) != c.to(s) {
			t.Fatalf("room %d: %v: the last one answers another one", room, done)
		}
	}
	return l, s
}

// state is all that a shelf keeps, as a text.
func (s *shelf) state() string {
	out := ""
	for _, key := range s.keys {
		out += strconv.Itoa(key) + ":" + strconv.Itoa(s.pins[key]) + " "
	}
	return out
}

// P14.1 to P14.3: all that can be reached with few keys, none pinned more than twice: from each state each call answers what the chapter says, and leaves what it says.
func TestEachState(t *testing.T) {
	for _, x := range []struct{ room, keys int }{{1, 2}, {1, 3}, {2, 3}, {2, 4}, {3, 4}, {4, 3}} {
		ways, seen := [][]call{nil}, map[string]bool{"": true}
		for len(ways) > 0 {
			way := ways[0]
			ways = ways[1:]
			for _, c := range each(x.keys) {
				longer := append(slices.Clone(way), c)
				l, s := redone(t, x.room, longer)
				if !agrees(l, s, x.keys) {
					t.Fatalf("room %d: %v leaves %v, pinned %v, not %v", x.room, longer, l.Keys(), counts(l), s.state())
				}
				if !seen[s.state()] && s.pins[c.key] <= 2 {
					seen[s.state()] = true
					ways = append(ways, longer)
				}
			}
		}
	}
}

// some is a call, more often one that brings keys and pins than one that takes them, if so much more is asked for.
func (c *chance) some(keys, more int) call {
	kind := c.below(kinds + more)
	if kind >= kinds {
		kind = putting + (kind-kinds)%2
	}
	return call{kind, c.below(keys)}
}

// P14.1 to P14.3: long runs of mixed calls, on lists of each room, answer what the chapter says.
func TestRuns(t *testing.T) {
	c := chance(1)
	for room := 1; room <= 64; room++ {
		for _, keys := range []int{room + 1, 2*room + 3} {
			l, s := made(t, room), bare(room)
			for n := range 40*room + 300 {
				x := c.some(keys, 4*(n/50%2))
				if x.to(l) != x.to(s) {
					t.Fatalf("room %d, step %d: %v answers another one", room, n, x)
				}
				if n%(room+3) == 0 && !agrees(l, s, keys) {
					t.Fatalf("room %d, step %d: the keys are %v, pinned %v, not %v", room, n, l.Keys(), counts(l), s.state())
				}
			}
		}
	}
}

// P14.4: there are never more keys than there is room for, whatever is called; and none is there twice.
func TestNeverMoreThanRoom(t *testing.T) {
	c := chance(2)
	for room := 1; room <= 64; room++ {
		l, top := made(t, room), 0
		for n := range 20*room + 500 {
			c.some(3*room, 2).to(l)
			keys := l.Keys()
			top = max(top, len(keys))
			slices.Sort(keys)
			if len(keys) > room || len(slices.Compact(keys)) != len(keys) {
				t.Fatalf("room %d, step %d: the keys are %v", room, n, l.Keys())
			}
		}
		if top != room {
			t.Errorf("room %d: never more than %d keys", room, top)
		}
	}
}

// P14.4: a pinned key never goes: whatever is called but its own Unpin, it is there, and pinned as often as it was.
func TestPinnedNeverGoes(t *testing.T) {
	c := chance(3)
	for room := 1; room <= 64; room++ {
		l, held := made(t, room), map[int]int{}
		for n := range 20*room + 500 {
			x := c.some(2*room+2, 3)
			switch e := x.to(l).e; {
			case x.kind == pinning && e == api.OK:
				held[x.key]++
			case x.kind == unpinning && e == api.OK:
				held[x.key]--
			}
			keys := l.Keys()
			for key, pins := range held {
				if pins > 0 && (!slices.Contains(keys, key) || l.Pinned(key) != pins) {
					t.Fatalf("room %d, step %d: behind %v %d is pinned %d times, not %d, and the keys are %v", room, n, x, key, l.Pinned(key), pins, keys)
				}
			}
		}
	}
}

// P14.4: of what Put tells to be gone none was pinned, and just that one is gone; when none can go it tells none.
func TestPutTellsWhatWent(t *testing.T) {
	c := chance(4)
	for room := 1; room <= 64; room++ {
		l := made(t, room)
		for n := range 20*room + 500 {
			if x := c.some(2*room+2, 3); x.kind != putting {
				x.to(l)
				continue
			}
			key, keys, pins := c.below(2*room+2), l.Keys(), counts(l)
			gone, is, e := l.Put(key)
			there := slices.Contains(keys, key)
			full := len(keys) == room && !there
			stuck := full && !slices.Contains(pins, 0)
			if is != (full && !stuck) || (e == api.ErrBusy) != stuck || l.Get(key) == stuck {
				t.Fatalf("room %d, step %d: Put(%d) answers %d, %v, %d; the keys were %v, pinned %v", room, n, key, gone, is, e, keys, pins)
			}
			if i := slices.Index(keys, gone); is && (i < 0 || pins[i] > 0 || slices.Contains(l.Keys(), gone)) {
				t.Fatalf("room %d, step %d: for %d goes %d; the keys were %v, pinned %v", room, n, key, gone, keys, pins)
			}
			if want := min(len(keys)+1, room); !there && len(l.Keys()) != want {
				t.Fatalf("room %d, step %d: %d keys, not %d", room, n, len(l.Keys()), want)
			}
		}
	}
}

// P14.4: however long all the others come and go, what is pinned stays; with all pinned nothing comes.
func TestPinnedAmongMany(t *testing.T) {
	for _, room := range []int{1, 2, 3, 10, 64} {
		l := made(t, room, upTo(room)...)
		for n := 1; n <= room; n++ {
			pins(t, l, n, 1)
			for key := 100; key < 100+3*room; key++ {
				l.Put(key)
				l.Drop(n)
			}
			keys := l.Keys()
			for key := 1; key <= n; key++ {
				if !slices.Contains(keys, key) {
					t.Fatalf("room %d: %d is gone, with 1 to %d pinned", room, key, n)
				}
			}
			for key := n + 1; key <= room; key++ { // those that are not pinned come back
				l.Put(key)
			}
		}
		keys := l.Keys()
		slices.Sort(keys)
		if !slices.Equal(keys, upTo(room)) {
			t.Fatalf("room %d: the keys are %v", room, keys)
		}
		for key := 100; key < 110; key++ {
			busy(t, l, key)
		}
	}
}

// R5: the same calls to two lists make them tell the same, and neither has anything of a third one.
func TestTwoLists(t *testing.T) {
	c, d, other := chance(5), chance(5), chance(6)
	l, m, stranger, s := made(t, 9), made(t, 9), made(t, 9), bare(9)
	for n := range 3000 {
		x := c.some(14, 2)
		other.some(14, 2).to(stranger)
		if x.to(l) != x.to(s) {
			t.Fatalf("step %d: %v answers another one", n, x)
		}
		d.some(14, 2).to(m)
		if !slices.Equal(l.Keys(), m.Keys()) || !slices.Equal(counts(l), counts(m)) || !agrees(l, s, 14) {
			t.Fatalf("step %d: %v, pinned %v, and %v, pinned %v", n, l.Keys(), counts(l), m.Keys(), counts(m))
		}
	}
}
