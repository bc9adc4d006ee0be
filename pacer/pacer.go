// Package pacer: packets leave when their flow may send, to the nanosecond: see DOC.md.
package pacer

import (
	"slices"
	"sync"
)

// Errno is what a call answers: OK or the reason for a refusal.
type Errno int

const (
	OK        Errno = 0
	ErrArg    Errno = 1  // a number that may not be
	ErrBig    Errno = 2  // above a bound
	ErrNever  Errno = 3  // at no time
	ErrTwice  Errno = 4  // it waits already
	ErrNone   Errno = 5  // there is no such one
	ErrRate   Errno = 6  // a rate or burst that may not be
	ErrMany   Errno = 7  // too many
	ErrFull   Errno = 8  // too many packets wait
	ErrClosed Errno = 9  // the pacer is closed
	ErrText   Errno = 10 // a bad command
)

// Packet is a packet: a tag of the caller's, and its length.
type Packet struct{ Tag, Len int }

// Batch is packets that leave together.
type Batch struct {
	Flow, Stamp int
	Packets     []Packet
}

// Counts tells what a pacer has done.
type Counts struct{ Taken, Refused, Sent, Dropped, Read, Bad int }

// The limits of DOC.md.
const (
	maxFlows   = 8
	maxQueue   = 8
	maxPacket  = 1500
	maxBurst   = 1000000
	maxRate    = 1000000000
	maxStreams = 8
	maxStream  = 400
	maxTime    = 4000000000000000000
)

// Pacer holds packets back. Make it by New.
type Pacer struct {
	quantum int
	clock   int
	newest  int       // the number of the flow that was added last
	flows   []*flow   // those that live, by rising numbers
	pending []command // what is not admitted yet, of flows that live
	armed   *Wheel    // the armed flows wait in it till their instants
	counts  Counts
	closing sync.Once
	closed  bool
}

// New makes a pacer (P5).
func New(quantum int) (*Pacer, Errno) {
	if quantum < maxPacket || quantum > maxBurst {
		return nil, ErrArg
	}
	return &Pacer{quantum: quantum, armed: NewWheel()}, OK
}

// Add makes a flow (P5).
func (p *Pacer) Add(rate int, burst int) (int, Errno) {
	switch {
	case p.closed:
		return 0, ErrClosed
	case !allowed(rate, burst):
		return 0, ErrRate
	case len(p.flows) == maxFlows:
		return 0, ErrMany
	}
	p.newest++
	f := &flow{number: p.newest}
	p.flows = append(p.flows, f)
	p.pending = append(p.pending, command{kind: toAdd, flow: f, rate: rate, burst: burst})
	return f.number, OK
}

// Set gives a flow another rate and burst (P5, P7).
func (p *Pacer) Set(flow int, rate int, burst int) Errno {
	f, err := p.live(flow)
	if err != OK {
		return err
	}
	if !allowed(rate, burst) {
		return ErrRate
	}
	p.pendSet(f, rate, burst)
	return OK
}

// Enqueue lets a packet wait (P5).
func (p *Pacer) Enqueue(flow int, tag int, length int) Errno {
	err := p.take(flow, tag, length)
	if err == OK {
		p.counts.Taken++
	} else {
		p.counts.Refused++
	}
	return err
}

// take is Enqueue, but for the counts.
func (p *Pacer) take(flow int, tag int, length int) Errno {
	f, err := p.live(flow)
	switch {
	case err != OK:
		return err
	case length < 1 || length > maxPacket:
		return ErrBig
	case len(f.packets) == maxQueue:
		return ErrFull
	}
	f.packets = append(f.packets, Packet{Tag: tag, Len: length})
	p.pending = append(p.pending, command{kind: toEnqueue, flow: f})
	return OK
}

// Remove ends a flow (P5).
func (p *Pacer) Remove(flow int) ([]Packet, Errno) {
	f, err := p.live(flow)
	if err != OK {
		return nil, err
	}
	at := slices.Index(p.flows, f)
	p.flows = slices.Delete(p.flows, at, at+1)
	p.pending = slices.DeleteFunc(p.pending, func(c command) bool { return c.flow == f })
	p.armed.Cancel(f.number)
	p.counts.Dropped += len(f.packets)
	return slices.Clone(f.packets), OK
}

// Poll releases what is due (P6 to P9).
func (p *Pacer) Poll(now int, budget int) ([]Batch, Errno) {
	switch {
	case p.closed:
		return nil, ErrClosed
	case now > maxTime:
		return nil, ErrArg
	}
	p.clock = max(p.clock, now)
	p.admit()
	return p.release(budget), OK
}

// Next tells when to poll next (P10).
func (p *Pacer) Next() int {
	switch {
	case p.closed:
		return -1
	case len(p.pending) > 0:
		return p.clock
	}
	return p.armed.Next()
}

// Close ends it all (P13).
func (p *Pacer) Close() ([]Batch, Errno) {
	var dropped []Batch
	err := ErrClosed
	p.closing.Do(func() {
		p.closed = true
		dropped, err = p.dropAll(), OK
	})
	return dropped, err
}

// Counts tells what was done (P13).
func (p *Pacer) Counts() Counts { return p.counts }

// live is the flow of that number.
func (p *Pacer) live(number int) (*flow, Errno) {
	if p.closed {
		return nil, ErrClosed
	}
	for _, f := range p.flows {
		if f.number == number {
			return f, OK
		}
	}
	return nil, ErrNone
}

// dropAll drops all flows with their packets.
func (p *Pacer) dropAll() []Batch {
	out := p.newLoad()
	for _, f := range p.flows {
		if len(f.packets) > 0 {
			out.add(f.number, -1, f.packets)
		}
	}
	p.counts.Dropped += len(out.piece)
	p.flows, p.pending, p.armed = nil, nil, nil
	return out.batches
}

// allowed tells whether a flow may have this rate and burst.
func allowed(rate int, burst int) bool {
	return rate >= 0 && rate <= maxRate && burst >= maxPacket && burst <= maxBurst
}
