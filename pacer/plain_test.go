package pacer_test

import (
	"math/big"
	"slices"

	"pacer/pacer"
)

// plainFlow and plainPacer do what P5 to P10 and Close say in the plainest way: big numbers, a list of all commands, and a look at every flow for each batch.
type plainFlow struct {
	rate, burst int
	credit      *big.Int
	since       int // the time of that credit
	waiting     []pacer.Packet
	admitted    int
	armed       bool
	batch       int
	instant     int
	turn        int // the how manieth arming this was
}

type plainCommand struct {
	what              byte
	flow, rate, burst int
}

type plainPacer struct {
	quantum, clock, newest, turns int
	closed                        bool
	flows                         map[int]*plainFlow
	commands                      []plainCommand
}

func newPlainPacer(quantum int) *plainPacer {
	return &plainPacer{quantum: quantum, flows: map[int]*plainFlow{}}
}

func parts(bytes int) *big.Int { return new(big.Int).Mul(bigInt(bytes), bigInt(1000000000)) }

func wrongRate(rate, burst int) bool {
	return rate < 0 || rate > 1000000000 || burst < 1500 || burst > 1000000
}

func (p *plainPacer) Add(rate, burst int) (int, pacer.Errno) {
	if p.closed {
		return 0, pacer.ErrClosed
	}
	if wrongRate(rate, burst) {
		return 0, pacer.ErrRate
	}
	if len(p.flows) >= 8 {
		return 0, pacer.ErrMany
	}
	p.newest++
	p.flows[p.newest] = &plainFlow{}
	p.commands = append(p.commands, plainCommand{'A', p.newest, rate, burst})
	return p.newest, pacer.OK
}

func (p *plainPacer) Set(flow, rate, burst int) pacer.Errno {
	if p.closed {
		return pacer.ErrClosed
	}
	if p.flows[flow] == nil {
		return pacer.ErrNone
	}
	if wrongRate(rate, burst) {
		return pacer.ErrRate
	}
	p.commands = append(p.commands, plainCommand{'S', flow, rate, burst})
	return pacer.OK
}

func (p *plainPacer) Enqueue(flow, tag, length int) pacer.Errno {
	if p.closed {
		return pacer.ErrClosed
	}
	f := p.flows[flow]
	if f == nil {
		return pacer.ErrNone
	}
	if length < 1 || length > 1500 {
		return pacer.ErrBig
	}
	if len(f.waiting) >= 8 {
		return pacer.ErrFull
	}
	f.waiting = append(f.waiting, pacer.Packet{Tag: tag, Len: length})
	p.commands = append(p.commands, plainCommand{what: 'E', flow: flow})
	return pacer.OK
}

func (p *plainPacer) Remove(flow int) ([]pacer.Packet, pacer.Errno) {
	if p.closed {
		return nil, pacer.ErrClosed
	}
	f := p.flows[flow]
	if f == nil {
		return nil, pacer.ErrNone
	}
	delete(p.flows, flow)
	return f.waiting, pacer.OK
}

func (p *plainPacer) Close() ([]pacer.Batch, pacer.Errno) {
	if p.closed {
		return nil, pacer.ErrClosed
	}
	p.closed = true
	var out []pacer.Batch
	for number := 1; number <= p.newest; number++ {
		if f := p.flows[number]; f != nil && len(f.waiting) > 0 {
			out = append(out, pacer.Batch{Flow: number, Stamp: -1, Packets: f.waiting})
		}
	}
	return out, pacer.OK
}

func (p *plainPacer) accrue(f *plainFlow) {
	f.credit = creditAt(f.credit, bigInt(f.rate), bigInt(p.clock-f.since))
	f.since = p.clock
	f.cut()
}

func (f *plainFlow) cut() {
	if f.credit.Cmp(parts(f.burst)) > 0 {
		f.credit = parts(f.burst)
	}
}

func (p *plainPacer) arm(f *plainFlow) {
	f.armed = false
	if f.rate == 0 {
		return
	}
	p.accrue(f)
	f.batch = 1
	bytes := f.waiting[0].Len
	for f.batch < f.admitted {
		bytes += f.waiting[f.batch].Len
		if bytes > p.quantum || bytes > f.burst {
			bytes -= f.waiting[f.batch].Len
			break
		}
		f.batch++
	}
	f.armed = true
	f.instant = p.clock
	if gap := new(big.Int).Sub(parts(bytes), f.credit); gap.Sign() > 0 {
		wait, rest := new(big.Int).DivMod(gap, bigInt(f.rate), new(big.Int))
		if rest.Sign() > 0 {
			wait.Add(wait, bigInt(1))
		}
		f.instant += int(wait.Int64())
	}
	p.turns++
	f.turn = p.turns
}

func (p *plainPacer) admit(c plainCommand) {
	f := p.flows[c.flow]
	if f == nil {
		return
	}
	switch c.what {
	case 'A':
		f.rate, f.burst, f.credit, f.since = c.rate, c.burst, parts(c.burst), p.clock
	case 'S':
		p.accrue(f)
		f.rate, f.burst = c.rate, c.burst
		f.cut()
		if f.admitted > 0 {
			p.arm(f)
		}
	case 'E':
		f.admitted++
		if f.admitted == 1 {
			p.arm(f)
		}
	}
}

// due is the flow that is to be released next, or 0.
func (p *plainPacer) due() int {
	best := 0
	for number, f := range p.flows {
		if !f.armed || f.instant > p.clock {
			continue
		}
		if b := p.flows[best]; b == nil || f.instant < b.instant || f.instant == b.instant && f.turn < b.turn {
			best = number
		}
	}
	return best
}

func (p *plainPacer) Poll(now, budget int) ([]pacer.Batch, pacer.Errno) {
	if p.closed {
		return nil, pacer.ErrClosed
	}
	if now > 4000000000000000000 {
		return nil, pacer.ErrArg
	}
	p.clock = max(p.clock, now)
	for _, c := range p.commands {
		p.admit(c)
	}
	p.commands = nil
	var out []pacer.Batch
	for number := p.due(); number > 0 && len(out) < budget; number = p.due() {
		f := p.flows[number]
		p.accrue(f)
		for _, x := range f.waiting[:f.batch] {
			f.credit.Sub(f.credit, parts(x.Len))
		}
		out = append(out, pacer.Batch{Flow: number, Stamp: f.instant, Packets: slices.Clone(f.waiting[:f.batch])})
		f.waiting = f.waiting[f.batch:]
		f.admitted -= f.batch
		f.armed = false
		if f.admitted > 0 {
			p.arm(f)
		}
	}
	return out, pacer.OK
}

func (p *plainPacer) Next() int {
	if p.closed {
		return -1
	}
	for _, c := range p.commands {
		if p.flows[c.flow] != nil {
			return p.clock
		}
	}
	next := -1
	for _, f := range p.flows {
		if f.armed && (next < 0 || f.instant < next) {
			next = f.instant
		}
	}
	return next
}
