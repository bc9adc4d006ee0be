package pacer_test

import (
	"fmt"
	"math"
	"math/rand"
	"slices"
	"strings"
	"testing"
	"unsafe"

	"pacer/pacer"
)

const maxTime = 4000000000000000000

// rig is a pacer whose answers are held against what is wanted.
type rig struct {
	*testing.T
	p *pacer.Pacer
}

func newRig(t *testing.T, quantum int) rig {
	t.Helper()
	p, err := pacer.New(quantum)
	if p == nil || err != pacer.OK {
		t.Fatalf("New(%d) = %v, %d", quantum, p, err)
	}
	return rig{t, p}
}

func (r rig) add(rate, burst, want int, wantErr pacer.Errno) {
	r.Helper()
	if got, err := r.p.Add(rate, burst); got != want || err != wantErr {
		r.Fatalf("Add(%d, %d) = %d, %d, want %d, %d", rate, burst, got, err, want, wantErr)
	}
}

func (r rig) set(flow, rate, burst int, want pacer.Errno) {
	r.Helper()
	if got := r.p.Set(flow, rate, burst); got != want {
		r.Fatalf("Set(%d, %d, %d) = %d, want %d", flow, rate, burst, got, want)
	}
}

func (r rig) enqueue(flow, tag, length int, want pacer.Errno) {
	r.Helper()
	if got := r.p.Enqueue(flow, tag, length); got != want {
		r.Fatalf("Enqueue(%d, %d, %d) = %d, want %d", flow, tag, length, got, want)
	}
}

func (r rig) remove(flow int, want []pacer.Packet, wantErr pacer.Errno) {
	r.Helper()
	if got, err := r.p.Remove(flow); !slices.Equal(got, want) || err != wantErr {
		r.Fatalf("Remove(%d) = %v, %d, want %v, %d", flow, got, err, want, wantErr)
	}
}

// poll wants batches as tell tells them.
func (r rig) poll(now, budget int, want string) {
	r.Helper()
	if got, err := r.p.Poll(now, budget); tell(got) != want || err != pacer.OK {
		r.Fatalf("Poll(%d, %d) = %s, %d, want %s", now, budget, tell(got), err, want)
	}
}

func (r rig) pollRefused(now, budget int, want pacer.Errno) {
	r.Helper()
	if got, err := r.p.Poll(now, budget); len(got) != 0 || err != want {
		r.Fatalf("Poll(%d, %d) = %s, %d, want %d", now, budget, tell(got), err, want)
	}
}

func (r rig) next(want int) {
	r.Helper()
	if got := r.p.Next(); got != want {
		r.Fatalf("Next() = %d, want %d", got, want)
	}
}

// tell writes batches as flow@stamp and, for each packet, tag/length.
func tell(batches []pacer.Batch) string {
	var out []string
	for _, b := range batches {
		text := fmt.Sprintf("%d@%d", b.Flow, b.Stamp)
		for _, x := range b.Packets {
			text += fmt.Sprintf(" %d/%d", x.Tag, x.Len)
		}
		out = append(out, text)
	}
	return strings.Join(out, "; ")
}

func TestP5New(t *testing.T) {
	for _, quantum := range []int{math.MinInt, -1500, -1, 0, 1, 1499, 1000001, math.MaxInt} {
		if p, err := pacer.New(quantum); p != nil || err != pacer.ErrArg {
			t.Errorf("New(%d) = %v, %d", quantum, p, err)
		}
	}
	for _, quantum := range []int{1500, 1501, 999999, 1000000} {
		r := newRig(t, quantum)
		r.next(-1)
		r.set(1, 1, 1500, pacer.ErrNone)
		r.add(1, 1500, 1, pacer.OK)
		r.next(0) // the clock is at 0
	}
}

func TestP5Add(t *testing.T) {
	r := newRig(t, 1500)
	wrong := [][2]int{{-1, 1500}, {1000000001, 1500}, {0, 1499}, {0, 1000001}, {0, 0}, {0, -1500}, {math.MinInt, math.MaxInt}, {math.MaxInt, 1500}}
	for _, x := range wrong {
		r.add(x[0], x[1], 0, pacer.ErrRate)
		r.next(-1)
	}
	for i, x := range [][2]int{{0, 1500}, {1000000000, 1000000}, {1, 1501}, {999999999, 999999}, {0, 1500}, {0, 1500}, {0, 1500}, {0, 1500}} {
		r.add(x[0], x[1], i+1, pacer.OK)
	}
	r.add(0, 1500, 0, pacer.ErrMany)
	for _, x := range wrong { // ErrRate is named first
		r.add(x[0], x[1], 0, pacer.ErrRate)
	}
	// Numbers never come again, and refusals use none up.
	r.remove(8, nil, pacer.OK)
	r.add(0, 1500, 9, pacer.OK)
	r.add(0, 1500, 0, pacer.ErrMany)
	for number := 1; number <= 7; number++ {
		r.remove(number, nil, pacer.OK)
	}
	r.remove(9, nil, pacer.OK)
	r.add(0, 1500, 10, pacer.OK)
}

func TestP5Set(t *testing.T) {
	r := newRig(t, 1500)
	r.set(0, 5, 1500, pacer.ErrNone)
	r.add(5, 1500, 1, pacer.OK)
	for _, flow := range []int{0, 2, -1, math.MinInt, math.MaxInt} {
		r.set(flow, 5, 1500, pacer.ErrNone)
		r.set(flow, -1, 0, pacer.ErrNone) // ErrNone is named first
	}
	r.poll(0, 9, "")
	for _, x := range [][2]int{{-1, 1500}, {1000000001, 1500}, {0, 1499}, {0, 1000001}} {
		r.set(1, x[0], x[1], pacer.ErrRate)
		r.next(-1)
	}
	for _, x := range [][2]int{{0, 1500}, {1000000000, 1000000}} {
		r.set(1, x[0], x[1], pacer.OK)
		r.next(0)
	}
	r.remove(1, nil, pacer.OK)
	r.set(1, 5, 1500, pacer.ErrNone)
}

func TestP5Enqueue(t *testing.T) {
	r := newRig(t, 1500)
	r.enqueue(1, 5, 100, pacer.ErrNone)
	r.add(0, 1500, 1, pacer.OK)
	r.add(1000, 1500, 2, pacer.OK)
	wrong := []int{math.MinInt, -1, 0, 1501, math.MaxInt}
	for _, length := range wrong {
		r.enqueue(1, 5, length, pacer.ErrBig)
		r.enqueue(3, 5, length, pacer.ErrNone) // named first
	}
	for i := range 8 {
		r.enqueue(1, i, []int{1, 1500}[i%2], pacer.OK)
	}
	r.enqueue(1, 8, 1500, pacer.ErrFull)
	for _, length := range wrong { // named ahead of ErrFull
		r.enqueue(1, 5, length, pacer.ErrBig)
	}
	r.enqueue(2, math.MinInt, 1, pacer.OK) // another flow has its own queue, and a tag is any number
	r.enqueue(2, math.MaxInt, 1500, pacer.OK)
	r.poll(7, 9, fmt.Sprintf("2@7 %d/1", math.MinInt))
	r.enqueue(1, 8, 1, pacer.ErrFull) // admitted packets wait on
	r.remove(2, []pacer.Packet{{Tag: math.MaxInt, Len: 1500}}, pacer.OK)
	r.enqueue(2, 1, 1, pacer.ErrNone)
}

func TestP5SentPacketsMakeRoom(t *testing.T) {
	r := newRig(t, 1500)
	r.add(1000000000, 3000, 1, pacer.OK)
	for i := range 8 {
		r.enqueue(1, i, 1000, pacer.OK)
	}
	r.enqueue(1, 8, 1000, pacer.ErrFull)
	r.poll(0, 1, "1@0 0/1000")
	r.enqueue(1, 8, 1000, pacer.OK)
	r.enqueue(1, 9, 1000, pacer.ErrFull)
	r.poll(0, 9, "1@0 1/1000; 1@0 2/1000")
	r.remove(1, []pacer.Packet{{3, 1000}, {4, 1000}, {5, 1000}, {6, 1000}, {7, 1000}, {8, 1000}}, pacer.OK)
}

func TestP5Remove(t *testing.T) {
	r := newRig(t, 1500)
	r.remove(1, nil, pacer.ErrNone)
	for number := 1; number <= 3; number++ {
		r.add(1000, 1500, number, pacer.OK)
		r.enqueue(number, number, 1500, pacer.OK)
		r.enqueue(number, number+10, 5, pacer.OK)
	}
	r.remove(2, []pacer.Packet{{2, 1500}, {12, 5}}, pacer.OK) // not admitted yet
	r.remove(2, nil, pacer.ErrNone)
	r.poll(0, 9, "1@0 1/1500; 3@0 3/1500")
	r.next(5000000)
	r.remove(1, []pacer.Packet{{11, 5}}, pacer.OK) // armed
	r.enqueue(3, 23, 5, pacer.OK)
	r.set(3, 1, 1500, pacer.OK)
	r.remove(3, []pacer.Packet{{13, 5}, {23, 5}}, pacer.OK) // both
	r.next(-1)
	r.poll(maxTime, 9, "")
	r.next(-1)
	for _, flow := range []int{0, -1, math.MinInt, math.MaxInt} {
		r.remove(flow, nil, pacer.ErrNone)
	}
}

func TestP5ToP10Closed(t *testing.T) {
	r := newRig(t, 1500)
	r.add(1000, 1500, 1, pacer.OK)
	for i := range 3 {
		r.enqueue(1, i, 1000, pacer.OK)
	}
	r.poll(0, 9, "1@0 0/1000")
	r.enqueue(1, 3, 7, pacer.OK)
	r.add(1000, 1500, 2, pacer.OK)
	r.add(1000, 1500, 3, pacer.OK)
	r.enqueue(3, 9, 8, pacer.OK)
	if got, err := r.p.Close(); tell(got) != "1@-1 1/1000 2/1000 3/7; 3@-1 9/8" || err != pacer.OK {
		t.Fatalf("Close() = %s, %d", tell(got), err)
	}
	for range 2 {
		for _, flow := range []int{1, 2, 99} { // ErrClosed is named first
			r.set(flow, -1, 0, pacer.ErrClosed)
			r.enqueue(flow, 1, 0, pacer.ErrClosed)
			r.remove(flow, nil, pacer.ErrClosed)
		}
		r.add(1, 1500, 0, pacer.ErrClosed)
		r.add(-1, 0, 0, pacer.ErrClosed)
		r.pollRefused(0, 9, pacer.ErrClosed)
		r.pollRefused(maxTime+1, 9, pacer.ErrClosed)
		r.next(-1)
		if got, err := r.p.Close(); len(got) != 0 || err != pacer.ErrClosed {
			t.Fatalf("Close() = %s, %d", tell(got), err)
		}
	}
}

func TestP6TheClock(t *testing.T) {
	r := newRig(t, 1500)
	r.poll(50, 9, "")
	r.add(1000, 1500, 1, pacer.OK)
	r.next(50)
	r.poll(49, 9, "") // the clock does not go back
	r.enqueue(1, 1, 1500, pacer.OK)
	r.next(50)
	r.poll(math.MinInt, 9, "1@50 1/1500")
	r.enqueue(1, 2, 1500, pacer.OK)
	for _, now := range []int{maxTime + 1, math.MaxInt} {
		r.pollRefused(now, 9, pacer.ErrArg)
		r.next(50) // nothing was admitted, and the clock stands
	}
	r.poll(50, 9, "")
	r.next(1500000050)
	r.pollRefused(maxTime+1, 9, pacer.ErrArg)
	r.poll(maxTime, 9, "1@1500000050 2/1500")
	r.enqueue(1, 3, 1500, pacer.OK)
	r.add(1000, 1500, 2, pacer.OK)
	r.enqueue(2, 4, 1500, pacer.OK)
	r.poll(0, 9, "2@4000000000000000000 4/1500")
	r.next(maxTime + 1500000000) // above what Poll takes
	r.poll(maxTime, 9, "")
}

func TestP6AdmitsAtTheClockInOrder(t *testing.T) {
	r := newRig(t, 1500)
	r.add(1000000000, 1500, 1, pacer.OK)
	r.add(1000000000, 1500, 2, pacer.OK)
	r.enqueue(2, 20, 1500, pacer.OK)
	r.enqueue(1, 10, 1500, pacer.OK)
	r.poll(1000, 9, "2@1000 20/1500; 1@1000 10/1500") // as they were armed
	r.next(-1)
	r.enqueue(1, 11, 1500, pacer.OK)
	r.enqueue(2, 21, 1500, pacer.OK)
	r.poll(1001, 9, "")
	r.next(2500)
	r.poll(9000, 9, "1@2500 11/1500; 2@2500 21/1500")
}

func TestP6Budget(t *testing.T) {
	r := newRig(t, 1500)
	for number := 1; number <= 3; number++ {
		r.add(1000000000, 1000000, number, pacer.OK)
		r.enqueue(number, number, 1500, pacer.OK)
		r.enqueue(number, number+10, 1500, pacer.OK)
	}
	for _, budget := range []int{0, -1, math.MinInt} {
		r.poll(5, budget, "") // admits all the same
		r.next(5)
	}
	r.poll(6, 1, "1@5 1/1500")
	r.next(5)
	r.poll(7, 2, "2@5 2/1500; 3@5 3/1500") // ahead of 1, which was armed later
	r.next(6)
	r.poll(7, math.MaxInt, "1@6 11/1500; 2@7 12/1500; 3@7 13/1500")
	r.next(-1)
}

func TestP7Add(t *testing.T) {
	r := newRig(t, 1500)
	r.add(1, 4501, 1, pacer.OK)
	for i := range 4 {
		r.enqueue(1, i, 1500, pacer.OK)
	}
	r.poll(3, 9, "1@3 0/1500; 1@3 1/1500; 1@3 2/1500") // as much credit as the burst: a byte of it is left
	r.next(3 + 1499*1000000000)
	r.add(1, 1500, 2, pacer.OK) // long behind the Add: never more than the burst
	r.poll(1000000000000, 0, "")
	r.enqueue(2, 1, 1500, pacer.OK)
	r.enqueue(2, 2, 1, pacer.OK)
	r.poll(1000000000000, 9, "2@1000000000000 1/1500")
	r.next(1001000000000)
}

func TestP7SetAccruesByTheOldOnes(t *testing.T) {
	r := newRig(t, 1500)
	r.add(1000000000, 1500, 1, pacer.OK)
	r.enqueue(1, 1, 1500, pacer.OK)
	r.enqueue(1, 2, 1500, pacer.OK)
	r.poll(0, 9, "1@0 1/1500")
	r.next(1500)
	r.set(1, 1, 1500, pacer.OK)
	r.poll(1400, 9, "") // 1400 bytes came in by the old rate, 100 come by the new one
	r.next(1400 + 100*1000000000)
	r.set(1, 1000000000, 1500, pacer.OK)
	r.poll(1400+1000000000, 9, "") // one by the old rate
	r.next(1400 + 1000000000 + 99)
	r.set(1, 1000000000, 1000000, pacer.OK)
	r.poll(1400+1000000000+98, 9, "")
	r.next(1400 + 1000000000 + 99)
	r.poll(1400+1000000000+99, 9, "1@1000001499 2/1500")
}

func TestP7SetCutsAtTheOldBurstAndTheNew(t *testing.T) {
	r := newRig(t, 1000000)
	r.add(1000000000, 2000, 1, pacer.OK)
	r.poll(0, 9, "")
	r.set(1, 1, 1000000, pacer.OK)
	r.enqueue(1, 1, 1500, pacer.OK)
	r.enqueue(1, 2, 600, pacer.OK)
	r.poll(5000, 9, "1@5000 1/1500") // 2000 by the old burst
	r.next(5000 + 100*1000000000)
	r.set(1, 1, 1500, pacer.OK)
	r.add(1, 1000000, 2, pacer.OK)
	r.poll(6000, 9, "")
	r.next(5000 + 100*1000000000)
	r.set(2, 1, 1700, pacer.OK)
	r.poll(6000, 9, "")
	r.set(2, 1, 1000000, pacer.OK) // what was above 1700 is lost
	r.enqueue(2, 3, 1500, pacer.OK)
	r.enqueue(2, 4, 1500, pacer.OK)
	r.poll(6000, 9, "2@6000 3/1500")
	r.next(100000005000)
	r.remove(1, []pacer.Packet{{2, 600}}, pacer.OK)
	r.next(6000 + 1300*1000000000)
}

func TestP7SetsOfOnePoll(t *testing.T) {
	r := newRig(t, 1000000)
	r.add(5, 1000000, 1, pacer.OK)
	r.set(1, 9, 1600, pacer.OK) // it cuts, though it does not last
	r.set(1, 0, 3000, pacer.OK)
	r.set(1, 1, 999999, pacer.OK)
	r.enqueue(1, 1, 1500, pacer.OK)
	r.enqueue(1, 2, 101, pacer.OK)
	r.poll(8, 9, "1@8 1/1500")
	r.next(8 + 1000000000)
	r.set(1, 1000000000, 999999, pacer.OK)
	r.set(1, 0, 1500, pacer.OK)
	r.poll(9, 9, "")
	r.next(-1)
	r.poll(maxTime, 9, "") // a rate of 0 makes none
	r.set(1, 1, 1500, pacer.OK)
	r.poll(maxTime, 9, "")
	r.next(maxTime + 1000000000 - 1) // 9 - 8 ns by the rate 1
}

func TestP7ManySetsAreOne(t *testing.T) {
	r := newRig(t, 1500)
	r.add(1000, 1000000, 1, pacer.OK)
	r.enqueue(1, 1, 1500, pacer.OK)
	r.enqueue(1, 2, 1500, pacer.OK)
	for i := range 1000000 {
		r.p.Set(1, i, 1500+i%1000)
	}
	r.poll(0, 9, "1@0 1/1500")
	r.next(1500002) // 1500000000000 parts by the rate 999999, rounded up
}

func TestP7SetArmsAnew(t *testing.T) {
	r := newRig(t, 2000)
	for number := 1; number <= 3; number++ {
		r.add(1000000000, 2000, number, pacer.OK)
		r.enqueue(number, number, 1000, pacer.OK)
	}
	r.poll(0, 0, "")
	r.enqueue(1, 11, 1000, pacer.OK) // comes into the new batch
	r.set(1, 1000000000, 2000, pacer.OK)
	r.enqueue(1, 21, 1, pacer.OK) // admitted behind the Set
	r.enqueue(2, 12, 1000, pacer.OK)
	r.poll(0, 9, "2@0 2/1000; 3@0 3/1000; 1@0 1/1000 11/1000; 2@0 12/1000")
	r.next(1)
	// A smaller burst makes a smaller batch, at the clock.
	r = newRig(t, 3000)
	r.add(1, 3000, 1, pacer.OK)
	r.enqueue(1, 1, 1000, pacer.OK)
	r.enqueue(1, 2, 1000, pacer.OK)
	r.poll(1, 0, "")
	r.set(1, 1, 1500, pacer.OK)
	r.set(1, 1, 1999, pacer.OK)
	r.poll(10, 9, "1@10 1/1000")
	r.next(10 + 500*1000000000)
	// Nothing waits: nothing is armed.
	r = newRig(t, 3000)
	r.add(1, 3000, 1, pacer.OK)
	r.set(1, 2, 3000, pacer.OK)
	r.poll(1, 9, "")
	r.next(-1)
}

func TestP8Batches(t *testing.T) {
	for _, c := range []struct {
		quantum, burst int
		lengths        []int
		want           int
	}{
		{3000, 1000000, []int{1500, 1500, 1}, 2},
		{3000, 1000000, []int{1500, 1499, 1, 1}, 3},
		{3000, 1000000, []int{1500, 1499, 2, 1}, 2}, // none is passed by
		{2999, 1000000, []int{1500, 1500}, 1},
		{1000000, 3000, []int{1500, 1500, 1}, 2},
		{1000000, 2999, []int{1500, 1500}, 1},
		{3000, 3000, []int{1, 1499, 1500, 1}, 3},
		{1500, 1500, []int{1500, 1}, 1},
		{1500, 1500, []int{1}, 1},
		{1000000, 1000000, []int{1500, 1500, 1500, 1500, 1500, 1500, 1500, 1500}, 8},
	} {
		r := newRig(t, c.quantum)
		r.add(0, c.burst, 1, pacer.OK)
		want := "1@7"
		for i, length := range c.lengths {
			r.enqueue(1, i, length, pacer.OK)
			if i < c.want {
				want += fmt.Sprintf(" %d/%d", i, length)
			}
		}
		r.set(1, 1, c.burst, pacer.OK) // arms it when all are admitted
		r.poll(7, 1, want)
	}
}

func TestP8BatchesAreMadeWhenArmed(t *testing.T) {
	r := newRig(t, 1500)
	r.add(1000000000, 1000000, 1, pacer.OK)
	r.enqueue(1, 1, 500, pacer.OK) // armed with this one alone
	r.enqueue(1, 2, 500, pacer.OK)
	r.enqueue(1, 3, 500, pacer.OK)
	r.poll(7, 9, "1@7 1/500; 1@7 2/500 3/500")
}

func TestP8Instants(t *testing.T) {
	for _, c := range []struct{ rate, length, wait int }{
		{1000000000, 1, 1}, {1000000000, 1500, 1500},
		{999999999, 1, 2}, {999999999, 1500, 1501},
		{1, 1, 1000000000}, {1, 1500, 1500000000000},
		{3, 1, 333333334}, {3, 3, 1000000000},
		{7, 1500, 214285714286},
	} {
		r := newRig(t, 1500)
		r.add(c.rate, 1500, 1, pacer.OK)
		r.enqueue(1, 1, 1500, pacer.OK)
		r.poll(9, 9, "1@9 1/1500")
		r.enqueue(1, 2, c.length, pacer.OK)
		r.poll(9, 9, "")
		r.next(9 + c.wait)
		r.poll(8+c.wait, 9, "")
		r.poll(9+c.wait, 9, fmt.Sprintf("1@%d 2/%d", 9+c.wait, c.length))
	}
}

func TestP8RateZero(t *testing.T) {
	r := newRig(t, 1500)
	r.add(0, 1000000, 1, pacer.OK)
	r.enqueue(1, 1, 1, pacer.OK) // there is credit, but no rate
	r.poll(5, 9, "")
	r.next(-1)
	r.enqueue(1, 2, 1, pacer.OK)
	r.poll(6, 9, "")
	r.next(-1)
	r.set(1, 1, 1500, pacer.OK)
	r.poll(7, 1, "1@7 1/1 2/1")
	r.enqueue(1, 3, 1, pacer.OK)
	r.poll(8, 0, "")
	r.next(8)
	r.set(1, 0, 1500, pacer.OK) // it was due
	r.poll(9, 9, "")
	r.next(-1)
}

func TestP9Order(t *testing.T) {
	r := newRig(t, 1500)
	for number, rate := range []int{1000, 3000, 1500, 3000} {
		r.add(rate, 1500, number+1, pacer.OK)
		r.enqueue(number+1, number, 1500, pacer.OK)
		r.enqueue(number+1, number+10, 1500, pacer.OK)
		r.enqueue(number+1, number+20, 1500, pacer.OK)
	}
	r.poll(0, 9, "1@0 0/1500; 2@0 1/1500; 3@0 2/1500; 4@0 3/1500")
	r.next(500000000)
	// Armed anew at the clock, so none of them comes twice.
	r.poll(1500000000, 9, "2@500000000 11/1500; 4@500000000 13/1500; 3@1000000000 12/1500; 1@1500000000 10/1500")
	r.next(2000000000)
	r.poll(2000000000, 1, "2@2000000000 21/1500")
	r.poll(9000000000, 2, "4@2000000000 23/1500; 3@2500000000 22/1500")
	r.next(3000000000)
	r.poll(9000000000, 9, "1@3000000000 20/1500")
}

func TestP9CreditUpToTheClock(t *testing.T) {
	r := newRig(t, 1500)
	r.add(1000, 3000, 1, pacer.OK)
	for i := range 6 {
		r.enqueue(1, i, 1500, pacer.OK)
	}
	r.poll(0, 9, "1@0 0/1500; 1@0 1/1500")
	r.next(1500000000)
	r.poll(2000000000, 9, "1@1500000000 2/1500") // 500 are left
	r.next(3000000000)
	r.poll(100000000000, 9, "1@3000000000 3/1500; 1@100000000000 4/1500") // never more than 3000
	r.next(101500000000)
}

func TestP10Next(t *testing.T) {
	r := newRig(t, 1500)
	r.next(-1)
	r.add(1000, 1500, 1, pacer.OK)
	r.next(0)
	r.poll(70, 9, "")
	r.next(-1)
	r.enqueue(1, 1, 1500, pacer.OK)
	r.next(70)
	r.poll(70, 9, "1@70 1/1500")
	r.set(1, 1000, 1500, pacer.OK)
	r.next(70)
	r.poll(80, 9, "")
	r.next(-1)
	r.add(500, 1500, 2, pacer.OK)
	r.enqueue(2, 1, 1500, pacer.OK)
	r.enqueue(2, 2, 1500, pacer.OK)
	r.enqueue(1, 2, 1500, pacer.OK)
	r.poll(80, 9, "2@80 1/1500")
	r.next(1500000070) // the least
	r.enqueue(2, 3, 1500, pacer.OK)
	r.next(80) // the clock, ahead of that
	r.remove(2, []pacer.Packet{{2, 1500}, {3, 1500}}, pacer.OK)
	r.next(1500000070) // nothing of a flow that lives is left to admit
	r.remove(1, []pacer.Packet{{2, 1500}}, pacer.OK)
	r.next(-1)
}

func TestP1PacersShareNothing(t *testing.T) {
	a, b := newRig(t, 1500), newRig(t, 1500)
	a.add(1000, 1500, 1, pacer.OK)
	a.enqueue(1, 1, 1500, pacer.OK)
	b.next(-1)
	b.set(1, 1, 1500, pacer.ErrNone)
	b.add(1000, 1500, 1, pacer.OK)
	b.enqueue(1, 2, 1500, pacer.OK)
	b.poll(99, 9, "1@99 2/1500")
	b.p.Close()
	a.poll(5, 9, "1@5 1/1500")
}

func TestP1FlowErrorsChangeNothing(t *testing.T) {
	r := newRig(t, 1500)
	r.add(1000, 1500, 1, pacer.OK)
	for i := range 8 {
		r.enqueue(1, i, 1500, pacer.OK)
	}
	r.poll(0, 0, "")
	for range 3 {
		r.set(1, -1, 1500, pacer.ErrRate)
		r.set(2, 1, 1500, pacer.ErrNone)
		r.add(1, 1, 0, pacer.ErrRate)
		r.enqueue(1, 9, 1500, pacer.ErrFull)
		r.enqueue(1, 9, 0, pacer.ErrBig)
		r.remove(2, nil, pacer.ErrNone)
		r.pollRefused(maxTime+1, 9, pacer.ErrArg)
		r.next(0)
	}
	r.poll(0, 9, "1@0 0/1500")
	r.next(1500000000)
	r.add(1000, 1500, 2, pacer.OK)
}

// TestP1BatchesAreNewMemory: they lie in one piece, yet none reaches into another, and none into the pacer.
func TestP1BatchesAreNewMemory(t *testing.T) {
	r := newRig(t, 1500)
	for i := range 18 {
		if i < 3 {
			r.add(1000000000, 3000, i+1, pacer.OK)
		}
		r.enqueue(i%3+1, i, 700, pacer.OK)
	}
	got, _ := r.p.Poll(1, 99)
	if len(got) != 6 {
		t.Fatalf("got %s", tell(got))
	}
	for i, b := range got {
		if cap(b.Packets) != len(b.Packets) {
			t.Errorf("batch %d has the capacity %d", i, cap(b.Packets))
		}
		if i > 0 {
			before := got[i-1].Packets
			end := uintptr(unsafe.Pointer(&before[0])) + uintptr(len(before))*unsafe.Sizeof(before[0])
			if end != uintptr(unsafe.Pointer(&b.Packets[0])) {
				t.Errorf("batch %d does not lie behind the one ahead of it", i)
			}
		}
	}
	was := tell(got)
	for _, b := range got {
		_ = append(b.Packets, pacer.Packet{Tag: 77, Len: 77})
	}
	if tell(got) != was {
		t.Errorf("was %s, is %s", was, tell(got))
	}
	for _, b := range got {
		for i := range b.Packets[:cap(b.Packets)] {
			b.Packets[i] = pacer.Packet{Tag: 88, Len: 88}
		}
	}
	wiped := tell(got)
	second, _ := r.p.Poll(100000, 1)
	dropped, _ := r.p.Remove(2)
	_ = append(dropped[:0], pacer.Packet{Tag: 99, Len: 99})
	if tell(got) != wiped || strings.Contains(tell(second), "/88") || !slices.Contains(dropped, pacer.Packet{Tag: 99, Len: 99}) {
		t.Errorf("got %s, %s, %v", tell(got), tell(second), dropped)
	}
	rest, _ := r.p.Close()
	if strings.Contains(tell(rest), "/88") || strings.Contains(tell(rest), "/99") {
		t.Errorf("got %s", tell(rest))
	}
}

// pick is one of some numbers.
func pick(r *rand.Rand, numbers ...int) int { return numbers[r.Intn(len(numbers))] }

func someRate(r *rand.Rand) int {
	return pick(r, 0, 1, 3, 1000, 1500, 1000000, 999999999, 1000000000, 1000000000, r.Intn(1000000001), r.Intn(5000), pick(r, -1, 1000000001))
}

func someBurst(r *rand.Rand) int {
	return pick(r, 1500, 1500, 1501, 2000, 3000, 4000, 1000000, 1500+r.Intn(8000), 1500+r.Intn(998501), pick(r, 1499, 1000001))
}

func someLength(r *rand.Rand) int {
	return pick(r, 1, 2, 500, 750, 1000, 1499, 1500, 1500, 1+r.Intn(1500), 1+r.Intn(1500), pick(r, 0, -1, 1501))
}

// someNow is a time for Poll at which something is likely to happen.
func someNow(r *rand.Rand, clock, next int) int {
	switch r.Intn(12) {
	case 0:
		return clock
	case 1:
		return clock - r.Intn(100)
	case 2:
		return clock + r.Int()>>(10+r.Intn(50))
	case 3:
		return pick(r, maxTime-2000, maxTime-1, maxTime, maxTime+1, math.MaxInt, math.MinInt) >> pick(r, 0, 1, 2, 2)
	case 4, 5:
		return clock + r.Intn(3000)
	case 6:
		return clock + r.Intn(3000000000)
	}
	return next + pick(r, -1, 0, 0, 0, 1, r.Intn(1000))
}

// both is a pacer beside a plain one.
type both struct {
	*testing.T
	seed  int64
	rand  *rand.Rand
	got   *pacer.Pacer
	want  *plainPacer
	watch *watch // which want tells
}

func (b *both) same(call string, got, want any) {
	b.Helper()
	if fmt.Sprint(got) != fmt.Sprint(want) {
		b.Fatalf("seed %d: %s: got %v, want %v", b.seed, call, got, want)
	}
}

func (b *both) someFlow() int {
	return b.want.newest - b.rand.Intn(min(b.want.newest+1, 10)) + b.rand.Intn(8)/7
}

// step does one call of both, and holds the answers against each other.
func (b *both) step() {
	flow, rate, burst := b.someFlow(), someRate(b.rand), someBurst(b.rand)
	switch k := b.rand.Intn(40); {
	case k < 3:
		got, err := b.got.Add(rate, burst)
		want, wantErr := b.want.Add(rate, burst)
		b.same("Add", []any{got, err}, []any{want, wantErr})
	case k < 8:
		b.same("Set", b.got.Set(flow, rate, burst), b.want.Set(flow, rate, burst))
	case k < 20:
		tag, length := b.rand.Int(), someLength(b.rand)
		b.same("Enqueue", b.got.Enqueue(flow, tag, length), b.want.Enqueue(flow, tag, length))
	case k == 20:
		got, err := b.got.Remove(flow)
		want, wantErr := b.want.Remove(flow)
		b.same("Remove", []any{tell([]pacer.Batch{{Packets: got}}), err}, []any{tell([]pacer.Batch{{Packets: want}}), wantErr})
	case k < 25:
		streams := someStreams(b.rand, b.someFlow)
		got, err, place := b.got.Feed(streams)
		want, wantErr, wantPlace := b.want.Feed(streams)
		b.same(fmt.Sprintf("Feed(%q)", streams), []any{got, err, place}, []any{want, wantErr, wantPlace})
	default:
		now, budget := someNow(b.rand, b.want.clock, b.want.Next()), pick(b.rand, 0, 1, 1, 2, 3, 9, 99, 99, math.MaxInt, -1)
		got, err := b.got.Poll(now, budget)
		want, wantErr := b.want.Poll(now, budget)
		b.same(fmt.Sprintf("Poll(%d, %d)", now, budget), []any{tell(got), err}, []any{tell(want), wantErr})
		if err == pacer.OK {
			b.watch.poll(b.T, now, budget, got, b.got.Next())
		}
	}
	b.same("Next", b.got.Next(), b.want.Next())
	counts := b.got.Counts()
	b.same("Counts", counts, b.want.counts)
	b.same("Taken", counts.Taken, counts.Sent+counts.Dropped+b.want.waiting())
}

func TestP5ToP13AgainstThePlainPacer(t *testing.T) {
	batches := 0
	for seed := range int64(600) {
		r := rand.New(rand.NewSource(seed))
		quantum := pick(r, 1500, 1501, 3000, 5000, 1000000, 1500+r.Intn(8000))
		p, _ := pacer.New(quantum)
		plain := newPlainPacer(quantum)
		b := &both{t, seed, r, p, plain, plain.watch}
		for range 300 {
			b.step()
		}
		b.watch.bounds(t)
		batches += b.watch.batches
		got, err := b.got.Close()
		want, wantErr := b.want.Close()
		b.same("Close", []any{tell(got), err}, []any{tell(want), wantErr})
		for range 5 {
			b.step()
		}
	}
	if batches < 10000 {
		t.Errorf("only %d batches were released: the numbers are badly picked", batches)
	}
}
