package pacer_test

import (
	"fmt"
	"math"
	"math/rand"
	"runtime"
	"slices"
	"strings"
	"sync"
	"sync/atomic"
	"testing"
	"time"

	"pacer/pacer"
)

// feed wants a text for each stream.
func (r rig) feed(streams []string, want ...string) {
	r.Helper()
	handed := slices.Clone(streams)
	got, err, place := r.p.Feed(handed)
	if !slices.Equal(got, want) || err != pacer.OK || place != 0 {
		r.Fatalf("Feed(%q) = %q, %d, %d, want %q", streams, got, err, place, want)
	}
	if !slices.Equal(handed, streams) {
		r.Fatalf("Feed(%q) made %q of it", streams, handed)
	}
}

func (r rig) feedRefused(streams []string, want pacer.Errno, wantPlace int) {
	r.Helper()
	if got, err, place := r.p.Feed(streams); len(got) != 0 || err != want || place != wantPlace {
		r.Fatalf("Feed(%d streams) = %q, %d, %d, want %d, %d", len(streams), got, err, place, want, wantPlace)
	}
}

func (r rig) counts(want pacer.Counts) {
	r.Helper()
	if got := r.p.Counts(); got != want {
		r.Fatalf("Counts() = %+v, want %+v", got, want)
	}
}

func TestP12Feed(t *testing.T) {
	r := newRig(t, 1500)
	r.feed(nil)
	r.feed([]string{})
	r.feed([]string{""}, "")
	r.feed([]string{"", "", ""}, "", "", "")
	r.next(-1)
	r.feed([]string{"A1000,1500;"}, "0 1;")
	r.feed([]string{"A1000,1500;A0,1000000;"}, "0 2;0 3;")
	r.feed([]string{"E2,7,100;E2,8,200;S2,2000,3000;"}, "0;0;0;")
	r.feed([]string{"R2;"}, "0 7 8;")
	r.feed([]string{"R1;R3;R3;"}, "0;0;5;")
	r.next(-1)
}

func TestP12StreamsInTheirOrder(t *testing.T) {
	r := newRig(t, 1500)
	r.feed([]string{"E1,1,1;A1000,1500;E1,2,2;", "E1,3,3;A1000,1500;R1;E2,4,4;", "", "E1,5,5;E2,6,6;R2"}, "5;0 1;0;", "0;0 2;0 2 3;0;", "", "5;0;10;")
	r.remove(2, []pacer.Packet{{4, 4}, {6, 6}}, pacer.OK)
	r = newRig(t, 1500)
	r.feed([]string{"A1,1500;", "A1,1500;", "A1,1500;", "A1,1500;", "A1,1500;", "A1,1500;", "A1,1500;", "A1,1500;A1,1500;R1;A1,1500;"}, "0 1;", "0 2;", "0 3;", "0 4;", "0 5;", "0 6;", "0 7;", "0 8;7;0;0 9;")
}

// TestP12AsTheCalls: what is fed takes hold at the next Poll, as calls do.
func TestP12AsTheCalls(t *testing.T) {
	r := newRig(t, 1500)
	r.poll(50, 9, "")
	r.feed([]string{"A1000000,1500;E1,1,1500;E1,2,1500;"}, "0 1;0;0;")
	r.next(50)
	r.poll(60, 9, "1@60 1/1500")
	r.next(1500060)
	r.feed([]string{"S1,1000,1500;"}, "0;")
	r.next(60)
	r.poll(60, 9, "")
	r.next(1500000060)
	r.enqueue(1, 3, 9, pacer.OK)
	r.feed([]string{"R1;"}, "0 2 3;")
	r.next(-1)
	r.add(1, 1500, 2, pacer.OK)
	r.feed([]string{"A1,1500;"}, "0 3;")
}

func TestP12Errors(t *testing.T) {
	r := newRig(t, 1500)
	r.feed([]string{"S1,1,1500;E1,1,1;R1;R0;"}, "5;5;5;5;")
	r.feed([]string{"A1000000001,1500;A1,1499;A1,1000001;A999999999999999999,999999999999999999;"}, "6;6;6;6;")
	r.feed([]string{"A1000000000,1000000;A0,1500;"}, "0 1;0 2;")
	r.feed([]string{"S1,1000000001,1500;S1,1,1499;S3,1,1499;S999999999999999999,1,1500;S2,0,1500;"}, "6;6;5;5;0;")
	r.feed([]string{"E1,1,0;E1,1,1501;E3,1,0;E1,1,1;E1,1,1500;E1,1,999999999999999999;"}, "2;2;5;0;0;2;")
	r.feed([]string{strings.Repeat("E2,0,5;", 9), "E2,1,0;"}, "0;0;0;0;0;0;0;0;8;", "2;")
	r.feed([]string{strings.Repeat("A0,1500;", 8)}, "0 3;0 4;0 5;0 6;0 7;0 8;7;7;")
	r.feed([]string{"A5,0;"}, "6;") // named ahead of ErrMany
	r.enqueue(3, math.MinInt, 1, pacer.OK)
	r.enqueue(3, -1, 1, pacer.OK)
	r.feed([]string{"E3,999999999999999999,1;E3,000000000000000000,1;", "R3;"}, "0;0;", "0 -9223372036854775808 -1 999999999999999999 0;")
}

func TestP12BadCommands(t *testing.T) {
	for _, bad := range []string{
		"", "A", "A1", "A1,", "A1,1500,", "A1,1500,1", "A,1500", "A1,,1500", "S1,1", "S1,1,1500,", "E1,1", "E1,1,1,1", "R", "R1,", "R1,1",
		"a1,1500", "r1", "B1", "x", " A1,1500", "A 1,1500", "A1,1500 ", "A-1,1500", "A+1,1500", "AA1,1500", "R1R1", "A1,1500\n", "R\u0661", "\x00", "\xff", "\u037e",
		"R0000000000000000001", "A0000000000000000001,1500", "A1,0000000000000001500", "S1,1,0000000000000001500",
	} {
		r := newRig(t, 1500)
		r.feed([]string{bad + ";"}, "10;")
		r.next(-1)
		r.feed([]string{bad + ";A1,1500;E1,1,1;", bad + ";" + bad + ";R1;" + bad + ";"}, "10;0 1;0;", "10;10;0 1;10;")
		r.counts(pacer.Counts{Taken: 1, Dropped: 1, Read: 8, Bad: 5})
		if bad != "" {
			r.feed([]string{bad, "A1,1500;" + bad}, "10;", "0 2;10;")
			r.counts(pacer.Counts{Taken: 1, Dropped: 1, Read: 11, Bad: 7})
		}
	}
	r := newRig(t, 1500)
	r.feed([]string{"A1,1500", "S1,1,1500", "E1,1,1", "R1", "A1,1500;E1,1,1"}, "10;", "10;", "10;", "10;", "0 1;10;") // no stream goes on in the next one
	r.remove(1, nil, pacer.OK)
}

func TestP12TooMany(t *testing.T) {
	r := newRig(t, 1500)
	r.feed([]string{"A1,1500;", "", "", "", "", "", "", "R1;"}, "0 1;", "", "", "", "", "", "", "0;")
	was := r.p.Counts()
	for _, n := range []int{9, 10, 1000} {
		streams := slices.Repeat([]string{"A1,1500;E1,1,1;x;"}, n)
		r.feedRefused(streams, pacer.ErrMany, 0)
		streams[3] = strings.Repeat(";", 401) // ErrMany is named first
		r.feedRefused(streams, pacer.ErrMany, 0)
		r.next(-1)
		r.counts(was)
	}
	r.add(1, 1500, 2, pacer.OK)
}

func TestP12TooBig(t *testing.T) {
	r := newRig(t, 1500)
	most := strings.Repeat(";", 400)
	r.feed(slices.Repeat([]string{most}, 8), slices.Repeat([]string{strings.Repeat("10;", 400)}, 8)...)
	r.feed([]string{strings.Repeat("A", 400)}, "10;")
	r.feed([]string{strings.Repeat("\u00fc", 200)}, "10;") // bytes are counted, not letters
	r.counts(pacer.Counts{Read: 3202, Bad: 3202})
	for place := range 8 {
		streams := slices.Repeat([]string{"A1,1500;E1,1,1;x;"}, place)
		streams = append(streams, most+";", "A1,1500;", strings.Repeat(";", 5000))
		r.feedRefused(streams[:min(len(streams), 8)], pacer.ErrBig, place)
		streams[place] = strings.Repeat("\u00fc", 201)
		r.feedRefused(streams[:place+1], pacer.ErrBig, place)
		r.next(-1)
		r.counts(pacer.Counts{Read: 3202, Bad: 3202})
	}
	r.add(1, 1500, 1, pacer.OK)
}

func TestP12Closed(t *testing.T) {
	r := newRig(t, 1500)
	r.feed([]string{"A1,1500;E1,1,1;"}, "0 1;0;")
	r.p.Close()
	r.feed([]string{"A1,1500;A1,0;S1,1,1500;E1,1,1;E9,1,0;R1;x;", "", "R1"}, "9;9;9;9;9;9;10;", "", "10;")
	r.feed(nil)
	r.feedRefused(make([]string, 9), pacer.ErrMany, 0)
	r.feedRefused([]string{"", strings.Repeat(";", 401)}, pacer.ErrBig, 1)
	r.counts(pacer.Counts{Taken: 1, Refused: 2, Dropped: 1, Read: 10, Bad: 2})
}

// TestP12HangsOnNoSchedule: the same streams have the same answers, however many goroutines run at a time.
func TestP12HangsOnNoSchedule(t *testing.T) {
	defer runtime.GOMAXPROCS(runtime.GOMAXPROCS(0))
	rand := rand.New(rand.NewSource(7))
	for _, procs := range []int{1, 2, 8} {
		runtime.GOMAXPROCS(procs)
		for range 200 {
			var streams []string
			for i := range 8 {
				text := "A1000,1500;"
				for k := range 12 {
					text += fmt.Sprintf("E%d,%d,%d;", 1+rand.Intn(8), 100*i+k, 1+k)
				}
				streams = append(streams, text+fmt.Sprintf("R%d;x;", 1+rand.Intn(16)))
			}
			r, plain := newRig(t, 1500), newPlainPacer(1500)
			want, _, _ := plain.Feed(streams)
			r.feed(streams, want...)
			r.counts(plain.counts)
		}
	}
}

// TestP12NoWorkerStaysBehind waits for goroutines that have done their work but are still counted.
func TestP12NoWorkerStaysBehind(t *testing.T) {
	r := newRig(t, 1500)
	before := runtime.NumGoroutine()
	for range 50 {
		r.p.Feed(slices.Repeat([]string{"A1,1500;E1,1,1;R1;x"}, 8))
		r.p.Feed(make([]string, 9))
		r.p.Feed([]string{";", strings.Repeat(";", 401)})
	}
	end := time.Now().Add(5 * time.Second)
	for runtime.NumGoroutine() > before {
		if time.Now().After(end) {
			t.Fatalf("%d goroutines, %d were there before", runtime.NumGoroutine(), before)
		}
		time.Sleep(time.Millisecond)
	}
}

func TestP1FeedsAnswersAreNewMemory(t *testing.T) {
	r := newRig(t, 1500)
	streams := []string{"A1,1500;", "E1,1,1;"}
	first, _, _ := r.p.Feed(streams)
	first[0], first[1] = "x", "y"
	second, _, _ := r.p.Feed(streams)
	streams[0] = "z"
	if !slices.Equal(first, []string{"x", "y"}) || !slices.Equal(second, []string{"0 2;", "0;"}) {
		t.Errorf("got %q and %q", first, second)
	}
}

func TestP13Close(t *testing.T) {
	r := newRig(t, 1500)
	if got, err := r.p.Close(); len(got) != 0 || err != pacer.OK {
		t.Errorf("Close() = %s, %d", tell(got), err)
	}
	r.counts(pacer.Counts{})
	r = newRig(t, 1500)
	r.feed([]string{"A0,1500;A1000,1500;A1000,1500;A5,1500;A5,1500;"}, "0 1;0 2;0 3;0 4;0 5;")
	r.feed([]string{"E5,50,1;E2,20,1500;E2,21,1500;E1,10,9;E4,40,1;", "R4;"}, "0;0;0;0;0;", "0 40;")
	r.poll(7, 1, "5@7 50/1")
	r.feed([]string{"A5,1500;E6,60,2;E1,11,8;E2,22,7;"}, "0 6;0;0;0;")
	got, err := r.p.Close()
	// Due, armed, not admitted and of no rate: all that wait; no batch of flows that have none, or live no more.
	if want := "1@-1 10/9 11/8; 2@-1 20/1500 21/1500 22/7; 6@-1 60/2"; tell(got) != want || err != pacer.OK {
		t.Errorf("Close() = %s, %d, want %s", tell(got), err, want)
	}
	was := tell(got)
	for _, b := range got {
		_ = append(b.Packets, pacer.Packet{Tag: 77, Len: 77})
	}
	if tell(got) != was {
		t.Errorf("was %s, is %s", was, tell(got))
	}
	for range 3 {
		if again, err := r.p.Close(); len(again) != 0 || err != pacer.ErrClosed {
			t.Errorf("Close() = %s, %d", tell(again), err)
		}
		r.counts(pacer.Counts{Taken: 8, Sent: 1, Dropped: 7, Read: 15})
	}
}

// TestP13CloseOnce: whoever calls it, at the same time or not, one is the first.
func TestP13CloseOnce(t *testing.T) {
	r := newRig(t, 1500)
	r.feed([]string{"A1,1500;E1,1,1;"}, "0 1;0;")
	var callers sync.WaitGroup
	var first, again, batches atomic.Int64
	for range 20 {
		callers.Go(func() {
			got, err := r.p.Close()
			batches.Add(int64(len(got)))
			switch err {
			case pacer.OK:
				first.Add(1)
			case pacer.ErrClosed:
				again.Add(1)
			}
		})
	}
	callers.Wait()
	if first.Load() != 1 || again.Load() != 19 || batches.Load() != 1 {
		t.Errorf("%d first, %d again, %d batches", first.Load(), again.Load(), batches.Load())
	}
	r.counts(pacer.Counts{Taken: 1, Dropped: 1, Read: 2})
}

func TestP13Counts(t *testing.T) {
	r := newRig(t, 3000)
	want := pacer.Counts{}
	r.counts(want)
	r.enqueue(1, 1, 1, pacer.ErrNone)
	want.Refused++
	r.counts(want)
	r.add(1000000, 3000, 1, pacer.OK)
	r.add(1, 0, 0, pacer.ErrRate)
	r.set(2, 1, 1500, pacer.ErrNone)
	r.remove(2, nil, pacer.ErrNone)
	r.pollRefused(maxTime+1, 9, pacer.ErrArg)
	r.counts(want) // of the calls that are refused only those of Enqueue count
	for i := range 8 {
		r.enqueue(1, i, 1000, pacer.OK)
	}
	r.enqueue(1, 8, 1000, pacer.ErrFull)
	r.enqueue(1, 8, 0, pacer.ErrBig)
	want.Taken, want.Refused = 8, 3
	r.counts(want)
	r.poll(0, 1, "1@0 0/1000")
	want.Sent = 1
	r.counts(want)
	r.poll(0, 9, "")
	r.poll(9000000, 9, "1@1000000 1/1000 2/1000 3/1000")
	want.Sent = 4
	r.counts(want)
	r.remove(1, []pacer.Packet{{4, 1000}, {5, 1000}, {6, 1000}, {7, 1000}}, pacer.OK)
	want.Dropped = 4
	r.counts(want)
	r.add(0, 1500, 2, pacer.OK)
	r.feed([]string{"E2,1,1;E1,1,1;E2,1,0;E2;E2,2,2;", ";S2,5,5;A1,1500;R9;R3;R"}, "0;5;2;10;0;", "10;6;0 3;5;0;10;")
	want = pacer.Counts{Taken: 10, Refused: 5, Sent: 4, Dropped: 4, Read: 11, Bad: 3}
	r.counts(want) // a bad command is no call of Enqueue
	r.p.Close()
	want.Dropped = 6
	r.counts(want)
	r.enqueue(2, 1, 1, pacer.ErrClosed)
	r.pollRefused(0, 9, pacer.ErrClosed)
	r.remove(2, nil, pacer.ErrClosed)
	want.Refused++
	r.counts(want)
	other := newRig(t, 1500) // pacers share nothing
	other.counts(pacer.Counts{})
	got := r.p.Counts()
	got.Taken = 99
	r.counts(want)
}

// someStreams is streams with flows as someFlow picks them, now and then too many or too big.
func someStreams(r *rand.Rand, someFlow func() int) []string {
	var out []string
	for range pick(r, 0, 1, 1, 2, 3, 4, 8, 8, 7+r.Intn(3)) {
		text := ""
		for range r.Intn(6) {
			text += someCommand(r, someFlow())
		}
		switch r.Intn(30) {
		case 0:
			text = text[:r.Intn(len(text)+1)]
		case 1:
			text += strings.Repeat(";", max(0, 400-len(text)+pick(r, 0, 0, 0, 1)))
		}
		out = append(out, text)
	}
	return out
}

func someCommand(r *rand.Rand, flow int) string {
	switch k := r.Intn(20); {
	case k < 2:
		return fmt.Sprintf("A%d,%d;", someRate(r), someBurst(r))
	case k < 4:
		return fmt.Sprintf("S%d,%d,%d;", flow, someRate(r), someBurst(r))
	case k == 4:
		return fmt.Sprintf("R%d;", flow)
	case k == 5:
		return []string{";", "A;", "E1,2;", "R;", "S1,2,3,4;", "x;", "\xff;"}[r.Intn(7)]
	}
	return fmt.Sprintf("E%d,%d,%d;", flow, r.Intn(1000000000000000000)>>r.Intn(60), someLength(r))
}
