package pacer_test

import (
	"fmt"
	"math/big"
	"regexp"
	"slices"
	"strconv"
	"strings"

	"pacer/pacer"
)

// plainFlow and plainPacer do what P5 to P10, P12 and P13 say in the plainest way: big numbers, a list of all commands, a look at every flow for each batch, and streams that are cut to pieces one behind the other.
type plainFlow struct {
	rate, burst int
	credit      *big.Int
	since       int // the time of that credit
	waiting     []pacer.Packet
	admitted    int
	armed       bool
	batch       int
	instant     int
	turn        int // the how manieth arming this was
}

type plainCommand struct {
	what              byte
	flow, rate, burst int
}

type plainPacer struct {
	quantum, clock, newest, turns int
	closed                        bool
	flows                         map[int]*plainFlow
	commands                      []plainCommand
	counts                        pacer.Counts
	watch                         *watch // is told what was answered OK
}

func newPlainPacer(quantum int) *plainPacer {
	return &plainPacer{quantum: quantum, flows: map[int]*plainFlow{}, watch: newWatch()}
}

func parts(bytes int) *big.Int { return new(big.Int).Mul(bigInt(bytes), bigInt(1000000000)) }

func wrongRate(rate, burst int) bool {
	return rate < 0 || rate > 1000000000 || burst < 1500 || burst > 1000000
}

func (p *plainPacer) Add(rate, burst int) (int, pacer.Errno) {
	if p.closed {
		return 0, pacer.ErrClosed
	}
	if wrongRate(rate, burst) {
		return 0, pacer.ErrRate
	}
	if len(p.flows) >= 8 {
		return 0, pacer.ErrMany
	}
	p.newest++
	p.flows[p.newest] = &plainFlow{}
	p.commands = append(p.commands, plainCommand{'A', p.newest, rate, burst})
	p.watch.set(p.newest, rate, burst)
	return p.newest, pacer.OK
}

func (p *plainPacer) Set(flow, rate, burst int) pacer.Errno {
	if p.closed {
		return pacer.ErrClosed
	}
	if p.flows[flow] == nil {
		return pacer.ErrNone
	}
	if wrongRate(rate, burst) {
		return pacer.ErrRate
	}
	p.commands = append(p.commands, plainCommand{'S', flow, rate, burst})
	p.watch.set(flow, rate, burst)
	return pacer.OK
}

func (p *plainPacer) Enqueue(flow, tag, length int) pacer.Errno {
	err := p.wrongPacket(flow, length)
	if err != pacer.OK {
		p.counts.Refused++
		return err
	}
	p.counts.Taken++
	x := pacer.Packet{Tag: tag, Len: length}
	p.flows[flow].waiting = append(p.flows[flow].waiting, x)
	p.commands = append(p.commands, plainCommand{what: 'E', flow: flow})
	p.watch.enqueue(flow, x)
	return pacer.OK
}

func (p *plainPacer) wrongPacket(flow, length int) pacer.Errno {
	if p.closed {
		return pacer.ErrClosed
	}
	f := p.flows[flow]
	if f == nil {
		return pacer.ErrNone
	}
	if length < 1 || length > 1500 {
		return pacer.ErrBig
	}
	if len(f.waiting) >= 8 {
		return pacer.ErrFull
	}
	return pacer.OK
}

func (p *plainPacer) Remove(flow int) ([]pacer.Packet, pacer.Errno) {
	if p.closed {
		return nil, pacer.ErrClosed
	}
	f := p.flows[flow]
	if f == nil {
		return nil, pacer.ErrNone
	}
	delete(p.flows, flow)
	p.counts.Dropped += len(f.waiting)
	return f.waiting, pacer.OK
}

func (p *plainPacer) Close() ([]pacer.Batch, pacer.Errno) {
	if p.closed {
		return nil, pacer.ErrClosed
	}
	p.closed = true
	defer clear(p.flows)
	var out []pacer.Batch
	for number := 1; number <= p.newest; number++ {
		if f := p.flows[number]; f != nil && len(f.waiting) > 0 {
			out = append(out, pacer.Batch{Flow: number, Stamp: -1, Packets: f.waiting})
			p.counts.Dropped += len(f.waiting)
		}
	}
	return out, pacer.OK
}

func (p *plainPacer) accrue(f *plainFlow) {
	f.credit = creditAt(f.credit, bigInt(f.rate), bigInt(p.clock-f.since))
	f.since = p.clock
	f.cut()
}

func (f *plainFlow) cut() {
	if f.credit.Cmp(parts(f.burst)) > 0 {
		f.credit = parts(f.burst)
	}
}

func (p *plainPacer) arm(f *plainFlow) {
	f.armed = false
	if f.rate == 0 {
		return
	}
	p.accrue(f)
	f.batch = 1
	bytes := f.waiting[0].Len
	for f.batch < f.admitted {
		bytes += f.waiting[f.batch].Len
		if bytes > p.quantum || bytes > f.burst {
			bytes -= f.waiting[f.batch].Len
			break
		}
		f.batch++
	}
	f.armed = true
	f.instant = p.clock
	if gap := new(big.Int).Sub(parts(bytes), f.credit); gap.Sign() > 0 {
		wait, rest := new(big.Int).DivMod(gap, bigInt(f.rate), new(big.Int))
		if rest.Sign() > 0 {
			wait.Add(wait, bigInt(1))
		}
		f.instant += int(wait.Int64())
	}
	p.turns++
	f.turn = p.turns
}

func (p *plainPacer) admit(c plainCommand) {
	f := p.flows[c.flow]
	if f == nil {
		return
	}
	switch c.what {
	case 'A':
		f.rate, f.burst, f.credit, f.since = c.rate, c.burst, parts(c.burst), p.clock
	case 'S':
		p.accrue(f)
		f.rate, f.burst = c.rate, c.burst
		f.cut()
		if f.admitted > 0 {
			p.arm(f)
		}
	case 'E':
		f.admitted++
		if f.admitted == 1 {
			p.arm(f)
		}
	}
}

// due is the flow that is to be released next, or 0.
func (p *plainPacer) due() int {
	best := 0
	for number, f := range p.flows {
		if !f.armed || f.instant > p.clock {
			continue
		}
		if b := p.flows[best]; b == nil || f.instant < b.instant || f.instant == b.instant && f.turn < b.turn {
			best = number
		}
	}
	return best
}

func (p *plainPacer) Poll(now, budget int) ([]pacer.Batch, pacer.Errno) {
	if p.closed {
		return nil, pacer.ErrClosed
	}
	if now > 4000000000000000000 {
		return nil, pacer.ErrArg
	}
	p.clock = max(p.clock, now)
	for _, c := range p.commands {
		p.admit(c)
	}
	p.commands = nil
	var out []pacer.Batch
	for number := p.due(); number > 0 && len(out) < budget; number = p.due() {
		f := p.flows[number]
		p.accrue(f)
		for _, x := range f.waiting[:f.batch] {
			f.credit.Sub(f.credit, parts(x.Len))
		}
		out = append(out, pacer.Batch{Flow: number, Stamp: f.instant, Packets: slices.Clone(f.waiting[:f.batch])})
		p.counts.Sent += f.batch
		f.waiting = f.waiting[f.batch:]
		f.admitted -= f.batch
		f.armed = false
		if f.admitted > 0 {
			p.arm(f)
		}
	}
	return out, pacer.OK
}

func (p *plainPacer) Next() int {
	if p.closed {
		return -1
	}
	for _, c := range p.commands {
		if p.flows[c.flow] != nil {
			return p.clock
		}
	}
	next := -1
	for _, f := range p.flows {
		if f.armed && (next < 0 || f.instant < next) {
			next = f.instant
		}
	}
	return next
}

var aCommand = regexp.MustCompile(`^(A(\d{1,18},){1}|[SE](\d{1,18},){2}|R)\d{1,18};$`)

// Feed has one stream read and carried out behind the other.
func (p *plainPacer) Feed(streams []string) ([]string, pacer.Errno, int) {
	if len(streams) > 8 {
		return nil, pacer.ErrMany, 0
	}
	for i, text := range streams {
		if len(text) > 400 {
			return nil, pacer.ErrBig, i
		}
	}
	var out []string
	for _, text := range streams {
		told := ""
		for _, piece := range strings.SplitAfter(text, ";") {
			if piece != "" {
				told += p.feedOne(piece) + ";"
			}
		}
		out = append(out, told)
	}
	return out, pacer.OK, 0
}

func (p *plainPacer) feedOne(piece string) string {
	p.counts.Read++
	if !aCommand.MatchString(piece) {
		p.counts.Bad++
		return "10"
	}
	var n [3]int
	for i, digits := range strings.Split(piece[1:len(piece)-1], ",") {
		n[i], _ = strconv.Atoi(digits)
	}
	switch piece[0] {
	case 'A':
		flow, err := p.Add(n[0], n[1])
		if err == pacer.OK {
			return fmt.Sprint("0 ", flow)
		}
		return fmt.Sprint(int(err))
	case 'S':
		return fmt.Sprint(int(p.Set(n[0], n[1], n[2])))
	case 'E':
		return fmt.Sprint(int(p.Enqueue(n[0], n[1], n[2])))
	}
	dropped, err := p.Remove(n[0])
	told := fmt.Sprint(int(err))
	for _, x := range dropped {
		told += fmt.Sprint(" ", x.Tag)
	}
	return told
}

func (p *plainPacer) waiting() int {
	n := 0
	for _, f := range p.flows {
		n += len(f.waiting)
	}
	return n
}
