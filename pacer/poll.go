package pacer

import "slices"

// What a command that is not admitted yet is to do.
const (
	toAdd = iota
	toSet
	toEnqueue
)

// command is an Add, a Set or an Enqueue that is not admitted yet.
type command struct {
	kind        int
	flow        *flow
	rate, burst int // of an Add and a Set
	least       int // of a Set: the least of its burst and of those that it stands for
}

// pendSet lets a Set wait to be admitted, and it alone of its flow: all that wait are admitted at one clock, where an earlier Set leaves nothing behind but the credit that its burst cuts off. So what is kept does not grow with each Set.
func (p *Pacer) pendSet(f *flow, rate int, burst int) {
	next := command{kind: toSet, flow: f, rate: rate, burst: burst, least: burst}
	p.pending = slices.DeleteFunc(p.pending, func(c command) bool {
		earlier := c.kind == toSet && c.flow == f
		if earlier {
			next.least = min(next.least, c.least)
		}
		return earlier
	})
	p.pending = append(p.pending, next)
}

// admit admits all commands that wait for it, at the clock (P7).
func (p *Pacer) admit() {
	for _, c := range p.pending {
		f := c.flow
		switch c.kind {
		case toAdd:
			f.start(c.rate, c.burst, p.clock)
		case toSet:
			f.change(c.rate, c.burst, c.least, p.clock)
			p.arm(f)
		case toEnqueue:
			f.admitted++
			if f.admitted == 1 {
				p.arm(f)
			}
		}
	}
	p.pending = nil
}

// arm arms a flow, anew if it is armed already, if it has what it takes (P8).
func (p *Pacer) arm(f *flow) {
	p.armed.Cancel(f.number)
	if f.admitted > 0 && f.rate > 0 {
		p.armed.Insert(f.number, f.arm(p.quantum, p.clock))
	}
}

// release releases at most budget batches of flows that are due (P9). The wheel has them in their order: of the same instant, as they were inserted. Those for which the budget is too small stay in it.
func (p *Pacer) release(budget int) []Batch {
	p.armed.turn(p.clock)
	out := p.newLoad()
	for len(out.batches) < budget {
		number, instant, found := p.armed.takeFirst()
		if !found {
			break
		}
		f, _ := p.live(number)
		f.send(instant, p.clock, out)
		p.arm(f)
	}
	p.counts.Sent += len(out.piece)
	return out.batches
}

// load is batches whose packets lie behind one another in one piece of memory.
type load struct {
	batches []Batch
	piece   []Packet
}

// newLoad makes an empty load with room for all packets that wait, so that its piece never has to move.
func (p *Pacer) newLoad() *load {
	room := 0
	for _, f := range p.flows {
		room += len(f.packets)
	}
	return &load{piece: make([]Packet, 0, room)}
}

// add puts a batch behind the others. Its capacity ends with it, so that who appends to it does not write into the next one.
func (l *load) add(flow int, stamp int, packets []Packet) {
	from := len(l.piece)
	l.piece = append(l.piece, packets...)
	to := len(l.piece)
	l.batches = append(l.batches, Batch{Flow: flow, Stamp: stamp, Packets: l.piece[from:to:to]})
}
