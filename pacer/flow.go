package pacer

import "slices"

// partsOfByte is how many parts of credit a byte has.
const partsOfByte = 1000000000

// flow is a flow that lives.
type flow struct {
	number      int
	rate, burst int      // as admitted
	credit      int      // in parts, at the time that is reckoned
	reckoned    int      // the time up to which credit has accrued
	packets     []Packet // those that wait, in their order
	admitted    int      // how many of them are admitted: the first ones
	batch       int      // how many of them it was armed with: the first ones
}

// start gives a new flow its rate and burst, and as much credit as its burst.
func (f *flow) start(rate int, burst int, clock int) {
	f.rate, f.burst = rate, burst
	f.credit, f.reckoned = burst*partsOfByte, clock
}

// change gives the flow another rate and burst. What is above least bytes of its credit is lost.
func (f *flow) change(rate int, burst int, least int, clock int) {
	f.accrue(clock)
	f.rate, f.burst = rate, burst
	f.credit = min(f.credit, least*partsOfByte)
}

// accrue brings the credit up to the clock.
func (f *flow) accrue(clock int) {
	f.credit, _ = Accrue(f.credit, f.rate, f.burst*partsOfByte, clock-f.reckoned)
	f.reckoned = clock
}

// arm makes up the batch that may leave next, and answers its instant: the first time, from the clock on, at which there is credit for it. The flow must have an admitted packet and a rate.
func (f *flow) arm(quantum int, clock int) int {
	f.accrue(clock)
	room := min(quantum, f.burst)
	f.batch = 0
	bytes := 0
	for f.batch < f.admitted && bytes+f.packets[f.batch].Len <= room {
		bytes += f.packets[f.batch].Len
		f.batch++
	}
	wait, _ := Until(f.credit, f.rate, bytes*partsOfByte)
	return clock + wait
}

// send takes the credit for the batch off and puts its packets into out, stamped with its instant.
func (f *flow) send(instant int, clock int, out *load) {
	f.accrue(clock)
	for _, x := range f.packets[:f.batch] {
		f.credit -= x.Len * partsOfByte
	}
	out.add(f.number, instant, f.packets[:f.batch])
	f.packets = slices.Delete(f.packets, 0, f.batch)
	f.admitted -= f.batch
}
