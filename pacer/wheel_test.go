package pacer_test

import (
	"math"
	"math/rand"
	"slices"
	"testing"

	"pacer/pacer"
)

// plainWheel does what P4 says in the plainest way: what waits, in the order of insertion.
type plainWheel struct {
	now     int
	waiting [][2]int // id and time
}

func (w *plainWheel) find(id int) int {
	return slices.IndexFunc(w.waiting, func(x [2]int) bool { return x[0] == id })
}

func (w *plainWheel) Insert(id, at int) pacer.Errno {
	if id < 0 || at < 0 {
		return pacer.ErrArg
	}
	if w.find(id) >= 0 {
		return pacer.ErrTwice
	}
	w.waiting = append(w.waiting, [2]int{id, at})
	return pacer.OK
}

func (w *plainWheel) Cancel(id int) pacer.Errno {
	i := w.find(id)
	if i < 0 {
		return pacer.ErrNone
	}
	w.waiting = slices.Delete(w.waiting, i, i+1)
	return pacer.OK
}

func (w *plainWheel) Advance(now int) []int {
	w.now = max(w.now, now)
	var out []int
	for {
		best := -1
		for i, x := range w.waiting {
			if x[1] <= w.now && (best < 0 || x[1] < w.waiting[best][1]) {
				best = i
			}
		}
		if best < 0 {
			return out
		}
		out = append(out, w.waiting[best][0])
		w.waiting = slices.Delete(w.waiting, best, best+1)
	}
}

func (w *plainWheel) Next() int {
	next := -1
	for _, x := range w.waiting {
		if next < 0 || x[1] < next {
			next = x[1]
		}
	}
	return next
}

func checkState(t *testing.T, w *pacer.Wheel, next, length int) {
	t.Helper()
	if w.Next() != next || w.Len() != length {
		t.Fatalf("Next %d, Len %d, want %d, %d", w.Next(), w.Len(), next, length)
	}
}

func checkAdvance(t *testing.T, w *pacer.Wheel, now int, want ...int) {
	t.Helper()
	if got := w.Advance(now); !slices.Equal(got, want) {
		t.Fatalf("Advance(%d) = %v, want %v", now, got, want)
	}
}

func checkInsert(t *testing.T, w *pacer.Wheel, id, at int, want pacer.Errno) {
	t.Helper()
	if got := w.Insert(id, at); got != want {
		t.Fatalf("Insert(%d, %d) = %d, want %d", id, at, got, want)
	}
}

func checkCancel(t *testing.T, w *pacer.Wheel, id int, want pacer.Errno) {
	t.Helper()
	if got := w.Cancel(id); got != want {
		t.Fatalf("Cancel(%d) = %d, want %d", id, got, want)
	}
}

func TestP4NewWheelIsEmpty(t *testing.T) {
	w := pacer.NewWheel()
	checkState(t, w, -1, 0)
	checkAdvance(t, w, math.MaxInt)
	checkState(t, w, -1, 0)
	w = pacer.NewWheel()
	checkInsert(t, w, 5, 0, pacer.OK) // its time is 0, so this is due at once
	checkInsert(t, w, 6, 1, pacer.OK)
	checkAdvance(t, w, math.MinInt, 5)
	checkState(t, w, 1, 1)
}

func TestP4WrongInserts(t *testing.T) {
	w := pacer.NewWheel()
	checkInsert(t, w, 1, 70, pacer.OK)
	for _, c := range []struct {
		id, at int
		want   pacer.Errno
	}{
		{-1, 5, pacer.ErrArg}, {2, -1, pacer.ErrArg}, {math.MinInt, math.MinInt, pacer.ErrArg},
		{1, -1, pacer.ErrArg}, // ErrArg is named ahead of ErrTwice
		{1, 70, pacer.ErrTwice}, {1, 5, pacer.ErrTwice}, {1, math.MaxInt, pacer.ErrTwice},
	} {
		checkInsert(t, w, c.id, c.at, c.want)
		checkState(t, w, 70, 1)
	}
	checkAdvance(t, w, 69)
	checkAdvance(t, w, 70, 1)
	checkInsert(t, w, 1, 70, pacer.OK) // it waited no more
}

func TestP4Cancel(t *testing.T) {
	w := pacer.NewWheel()
	for _, id := range []int{0, -1, math.MinInt, math.MaxInt} {
		checkCancel(t, w, id, pacer.ErrNone)
	}
	for id := range 5 {
		checkInsert(t, w, id, 4000, pacer.OK)
	}
	checkInsert(t, w, 7, 3999, pacer.OK)
	for _, id := range []int{0, 2, 4, 7} {
		checkCancel(t, w, id, pacer.OK)
		checkCancel(t, w, id, pacer.ErrNone)
	}
	checkState(t, w, 4000, 2)
	checkInsert(t, w, 2, 4000, pacer.OK) // anew, so behind the others
	checkAdvance(t, w, 4000, 1, 3, 2)
	checkCancel(t, w, 1, pacer.ErrNone)
	checkInsert(t, w, 8, 3000, pacer.OK)
	checkInsert(t, w, 9, 2000, pacer.OK)
	checkCancel(t, w, 9, pacer.OK) // its time is over, but it waits
	checkAdvance(t, w, 4000, 8)
	checkState(t, w, -1, 0)
}

func TestP4TimesThatAreOver(t *testing.T) {
	w := pacer.NewWheel()
	checkAdvance(t, w, 1000)
	checkInsert(t, w, 1, 999, pacer.OK)
	checkInsert(t, w, 2, 1000, pacer.OK)
	checkInsert(t, w, 3, 0, pacer.OK)
	checkInsert(t, w, 4, 999, pacer.OK)
	checkInsert(t, w, 5, 1001, pacer.OK)
	checkState(t, w, 0, 5)
	checkAdvance(t, w, 3, 3, 1, 4, 2) // the time does not go back
	checkState(t, w, 1001, 1)
	checkInsert(t, w, 6, 500, pacer.OK)
	checkAdvance(t, w, 1001, 6, 5)
}

func TestP4SameTimeInOrderOfInsertion(t *testing.T) {
	for _, at := range []int{1, 63, 64, 65, 4095, 4096, 4097, 1 << 30, 1<<60 + 5, math.MaxInt} {
		w := pacer.NewWheel()
		ids := []int{9, 3, 7, 0, 5}
		for i, id := range ids {
			checkInsert(t, w, id, at, pacer.OK)
			if i < len(ids)-1 { // nearer and nearer, so that they come in from different ways off
				checkAdvance(t, w, at-at>>(i*15+1)-1)
			}
		}
		checkAdvance(t, w, at, ids...)
	}
}

func TestP4OrderOfTimesAtOnce(t *testing.T) {
	w := pacer.NewWheel()
	var times []int
	for bit := range 63 {
		for _, more := range []int{-1, 0, 1} {
			times = append(times, 1<<bit+more)
		}
	}
	times = append(times, math.MaxInt)
	for id, at := range slices.Backward(times) {
		checkInsert(t, w, id, at, pacer.OK)
	}
	var got []int
	for _, id := range w.Advance(math.MaxInt) {
		got = append(got, times[id])
	}
	slices.Sort(times)
	if !slices.Equal(got, times) {
		t.Fatalf("got %v, want %v", got, times)
	}
}

// someTime is a time that is likely to lie at a border of some kind.
func someTime(r *rand.Rand, w *plainWheel) int {
	step := r.Int() >> r.Intn(63)
	switch r.Intn(7) {
	case 0:
		return step
	case 1:
		return 1<<r.Intn(63) + r.Intn(3) - 1
	case 2:
		return w.now - r.Intn(70)
	case 3:
		return (w.now>>6+1)<<6 + r.Intn(3) - 1 // may wrap round: a wrong time then
	case 4:
		return w.Next() + r.Intn(3) - 1
	case 5:
		return w.now + r.Intn(200)
	}
	return w.now + min(step, math.MaxInt-w.now)
}

func TestP4AgainstThePlainWheel(t *testing.T) {
	for seed := range int64(400) {
		r := rand.New(rand.NewSource(seed))
		got, want := pacer.NewWheel(), &plainWheel{}
		for step := range 300 {
			id, time := r.Intn(42)-1, someTime(r, want)
			switch r.Intn(8) {
			case 0:
				checkCancel(t, got, id, want.Cancel(id))
			case 1:
				if r.Intn(4) > 0 { // mostly small steps: a great one leaves little of the time
					time = min(time, want.now+r.Intn(1<<14)>>r.Intn(14))
				}
				checkAdvance(t, got, time, want.Advance(time)...)
			default:
				checkInsert(t, got, id, time, want.Insert(id, time))
			}
			if got.Next() != want.Next() || got.Len() != len(want.waiting) {
				t.Fatalf("seed %d, step %d: Next %d, Len %d, want %d, %d", seed, step, got.Next(), got.Len(), want.Next(), len(want.waiting))
			}
		}
		checkAdvance(t, got, math.MaxInt, want.Advance(math.MaxInt)...)
		checkState(t, got, -1, 0)
	}
}
