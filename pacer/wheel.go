package pacer

import (
	"cmp"
	"math/bits"
	"slices"

	"pacer/chain"
)

// A time is read as digits of digitBits bits: a level for each digit, and a slot for each value of it. A time has 63 bits, so levels times digitBits is at least that.
const (
	digitBits = 6
	slotCount = 1 << digitBits
	levels    = 11
)

// waiter is an id that waits till a time.
type waiter struct {
	links  chain.Links[*waiter]
	id, at int
}

// Links are the waiter's links in the list in which it stands.
func (x *waiter) Links() *chain.Links[*waiter] { return &x.links }

type waiters = chain.List[*waiter]

// Wheel finds what is due. Make it by NewWheel.
//
// What waits till a time above now stands on the level of the highest digit in which that time and now differ, in the slot of the time's digit there. So all of a lower level come before all of a higher one, and those of the same time are always in the same slot, in the order in which they were inserted.
type Wheel struct {
	now   int
	byID  map[int]*waiter
	over  waiters // their times are not above now
	slots [levels][slotCount]waiters
	used  [levels]uint64 // a bit for each slot that is not empty
}

// NewWheel makes a wheel (P4).
func NewWheel() *Wheel { return &Wheel{byID: map[int]*waiter{}} }

// Insert lets id wait till at (P4).
func (w *Wheel) Insert(id int, at int) Errno {
	if id < 0 || at < 0 {
		return ErrArg
	}
	if w.byID[id] != nil {
		return ErrTwice
	}
	x := &waiter{id: id, at: at}
	w.byID[id] = x
	w.place(x)
	return OK
}

// Cancel lets id wait no more (P4).
func (w *Wheel) Cancel(id int) Errno {
	x := w.byID[id]
	if x == nil {
		return ErrNone
	}
	delete(w.byID, id)
	w.displace(x)
	return OK
}

// Advance turns the wheel and tells what is due (P4).
func (w *Wheel) Advance(now int) []int {
	w.turn(now)
	return w.takeOver()
}

// Next is the least time till which something waits (P4).
func (w *Wheel) Next() int {
	if !w.over.Empty() {
		return earliest(&w.over).at
	}
	level, slot, found := w.firstSlot()
	if !found {
		return -1
	}
	return earliest(&w.slots[level][slot]).at
}

// Len is how many wait (P4).
func (w *Wheel) Len() int { return len(w.byID) }

// place puts a waiter into the list in which it belongs at the wheel's time.
func (w *Wheel) place(x *waiter) {
	if x.at <= w.now {
		w.over.Push(x)
		return
	}
	level, slot := w.slotOf(x.at)
	w.slots[level][slot].Push(x)
	w.used[level] |= 1 << slot
}

// displace takes a waiter out of the list into which place has put it.
func (w *Wheel) displace(x *waiter) {
	if x.at <= w.now {
		w.over.Remove(x)
		return
	}
	level, slot := w.slotOf(x.at)
	w.slots[level][slot].Remove(x)
	if w.slots[level][slot].Empty() {
		w.used[level] &^= 1 << slot
	}
}

// slotOf is the level and the slot of a time above the wheel's.
func (w *Wheel) slotOf(at int) (level int, slot int) {
	level = (bits.Len64(uint64(at^w.now)) - 1) / digitBits
	return level, at >> (level * digitBits) % slotCount
}

// startOf is the least time that a slot can hold: the wheel's higher digits, the slot, and zeros.
func (w *Wheel) startOf(level int, slot int) int {
	shift := level * digitBits
	return (w.now>>(shift+digitBits)<<digitBits | slot) << shift
}

// firstSlot is the slot that holds the least times above the wheel's.
func (w *Wheel) firstSlot() (level int, slot int, found bool) {
	for i, used := range w.used {
		if used != 0 {
			return i, bits.TrailingZeros64(used), true
		}
	}
	return 0, 0, false
}

// turn makes now the wheel's time, if that is above it; what is due by that is over, but waits on.
func (w *Wheel) turn(now int) {
	for {
		level, slot, found := w.firstSlot()
		if !found || w.startOf(level, slot) > now {
			break
		}
		w.open(level, slot)
	}
	// Whatever still waits starts above now, so its level and slot stay the same.
	w.now = max(w.now, now)
}

// open turns the wheel to the start of its first slot. All in it come to lower levels or are over: so turning ends, and the slot is empty.
func (w *Wheel) open(level int, slot int) {
	w.now = w.startOf(level, slot)
	w.used[level] &^= 1 << slot
	list := &w.slots[level][slot]
	for !list.Empty() {
		w.place(list.Pop())
	}
}

// takeOver ends the waiting of all whose time is over, and tells them in order.
func (w *Wheel) takeOver() []int {
	var due []*waiter
	for !w.over.Empty() {
		due = append(due, w.over.Pop())
	}
	// Turning brings them in order, but not those whose time was over when they were inserted.
	slices.SortStableFunc(due, func(x, y *waiter) int { return cmp.Compare(x.at, y.at) })
	ids := make([]int, 0, len(due))
	for _, x := range due {
		delete(w.byID, x.id)
		ids = append(ids, x.id)
	}
	return ids
}

// takeFirst ends the waiting of the one alone that takeOver would tell first, and answers its time too.
func (w *Wheel) takeFirst() (id int, at int, found bool) {
	x := earliest(&w.over)
	if x == nil {
		return 0, 0, false
	}
	w.over.Remove(x)
	delete(w.byID, x.id)
	return x.id, x.at, true
}

// earliest is the first of those with the least time; nil, if the list is empty.
func earliest(list *waiters) *waiter {
	var first *waiter
	for x := range list.All() {
		if first == nil || x.at < first.at {
			first = x
		}
	}
	return first
}
