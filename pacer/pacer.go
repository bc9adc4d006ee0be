// Package pacer: packets leave when their flow may send, to the nanosecond: see DOC.md.
package pacer

// Errno is what a call answers: OK or the reason for a refusal.
type Errno int

const (
	OK        Errno = 0
	ErrArg    Errno = 1  // a number that may not be
	ErrBig    Errno = 2  // above a bound
	ErrNever  Errno = 3  // at no time
	ErrTwice  Errno = 4  // it waits already
	ErrNone   Errno = 5  // there is no such one
	ErrRate   Errno = 6  // a rate or burst that may not be
	ErrMany   Errno = 7  // too many
	ErrFull   Errno = 8  // too many packets wait
	ErrClosed Errno = 9  // the pacer is closed
	ErrText   Errno = 10 // a bad command
)

// Packet is a packet: a tag of the caller's, and its length.
type Packet struct{ Tag, Len int }

// Batch is packets that leave together.
type Batch struct {
	Flow, Stamp int
	Packets     []Packet
}

// Counts tells what a pacer has done.
type Counts struct{ Taken, Refused, Sent, Dropped, Read, Bad int }

// Pacer holds packets back. Make it by New.
type Pacer struct{}

// New makes a pacer (P5).
func New(quantum int) (*Pacer, Errno) { return nil, 0 }

// Add makes a flow (P5).
func (p *Pacer) Add(rate int, burst int) (int, Errno) { return 0, 0 }

// Set gives a flow another rate and burst (P5, P7).
func (p *Pacer) Set(flow int, rate int, burst int) Errno { return 0 }

// Enqueue lets a packet wait (P5).
func (p *Pacer) Enqueue(flow int, tag int, length int) Errno { return 0 }

// Remove ends a flow (P5).
func (p *Pacer) Remove(flow int) ([]Packet, Errno) { return nil, 0 }

// Poll releases what is due (P6 to P9).
func (p *Pacer) Poll(now int, budget int) ([]Batch, Errno) { return nil, 0 }

// Next tells when to poll next (P10).
func (p *Pacer) Next() int { return 0 }

// Feed carries out streams of commands (P12).
func (p *Pacer) Feed(streams []string) ([]string, Errno, int) { return nil, 0, 0 }

// Close ends it all (P13).
func (p *Pacer) Close() ([]Batch, Errno) { return nil, 0 }

// Counts tells what was done (P13).
func (p *Pacer) Counts() Counts { return Counts{} }
