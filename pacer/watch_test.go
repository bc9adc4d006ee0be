package pacer_test

import (
	"testing"

	"pacer/pacer"
)

// watch holds what a pacer releases against P11, knowing nothing of credit and instants.
type watch struct {
	clock   int
	batches int
	polls   []seen
	now     map[int]limits // of each flow, as the last call gave them
	queued  map[int][]pacer.Packet
	stamps  map[int]int
}

type limits struct{ rate, burst int }

// seen is what was to be seen at a Poll.
type seen struct {
	clock int
	flows map[int]limits
	bytes map[int]int
}

func newWatch() *watch {
	return &watch{now: map[int]limits{}, queued: map[int][]pacer.Packet{}, stamps: map[int]int{}}
}

func (w *watch) set(flow, rate, burst int) { w.now[flow] = limits{rate, burst} }

func (w *watch) enqueue(flow int, x pacer.Packet) { w.queued[flow] = append(w.queued[flow], x) }

func (w *watch) poll(t *testing.T, now, budget int, batches []pacer.Batch, next int) {
	t.Helper()
	w.clock = max(w.clock, now)
	w.batches += len(batches)
	here := seen{w.clock, map[int]limits{}, map[int]int{}}
	for flow, x := range w.now {
		here.flows[flow] = x
	}
	for _, b := range batches {
		if len(b.Packets) == 0 {
			t.Fatalf("an empty batch of flow %d", b.Flow)
		}
		if b.Stamp < w.stamps[b.Flow] || b.Stamp > w.clock {
			t.Fatalf("flow %d: stamp %d behind %d, at the clock %d", b.Flow, b.Stamp, w.stamps[b.Flow], w.clock)
		}
		w.stamps[b.Flow] = b.Stamp
		for _, x := range b.Packets {
			if queue := w.queued[b.Flow]; len(queue) == 0 || queue[0] != x {
				t.Fatalf("flow %d: %v is released, of %v", b.Flow, x, queue)
			}
			w.queued[b.Flow] = w.queued[b.Flow][1:]
			here.bytes[b.Flow] += x.Len
		}
	}
	if len(batches) > max(budget, 0) {
		t.Fatalf("%d batches at the budget %d", len(batches), budget)
	}
	if len(batches) < budget && next >= 0 && next <= w.clock {
		t.Fatalf("%d batches at the budget %d, and at the clock %d a flow is due since %d", len(batches), budget, w.clock, next)
	}
	w.polls = append(w.polls, here)
}

// bounds looks at each flow from each Poll to each later one.
func (w *watch) bounds(t *testing.T) {
	t.Helper()
	for flow := range w.now {
		for i, first := range w.polls {
			if first.flows[flow].burst > 0 { // it was there
				boundsFrom(t, flow, w.polls[i:])
			}
		}
	}
}

func boundsFrom(t *testing.T, flow int, polls []seen) {
	t.Helper()
	const enough = 1000000000000000000 // parts: far more than a run releases
	bytes, room := 0, polls[0].flows[flow].burst*1000000000
	for i, p := range polls {
		if i > 0 {
			time, rate := p.clock-polls[i-1].clock, polls[i-1].flows[flow].rate
			if time > 0 && rate > (enough-room)/time {
				return
			}
			room += rate * time
		}
		bytes += p.bytes[flow]
		if bytes*1000000000 > room {
			t.Fatalf("flow %d: %d bytes from %d to %d", flow, bytes, polls[0].clock, p.clock)
		}
	}
}
