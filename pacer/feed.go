package pacer

import (
	"strconv"
	"strings"
	"sync"
	"sync/atomic"

	"pacer/stream"
)

// Feed carries out streams of commands (P12). The place that it answers with ErrBig is the stream's, from 0 on.
func (p *Pacer) Feed(streams []string) ([]string, Errno, int) {
	if len(streams) > maxStreams {
		return nil, ErrMany, 0
	}
	for i, text := range streams {
		if len(text) > maxStream {
			return nil, ErrBig, i
		}
	}
	var r reading
	channels := r.start(streams)
	told := make([]string, len(channels))
	for i, commands := range channels {
		told[i] = p.carryOutAll(commands)
	}
	r.workers.Wait()
	p.counts.Read += int(r.read.Load())
	p.counts.Bad += int(r.bad.Load())
	return told, OK, 0
}

// reading is what the workers of one Feed share.
type reading struct {
	workers   sync.WaitGroup
	read, bad atomic.Int64 // commands; the bad ones among them
}

// start gives each stream a worker, and answers the channels of these.
func (r *reading) start(streams []string) []chan stream.Command {
	channels := make([]chan stream.Command, len(streams))
	r.workers.Add(len(streams))
	for i, text := range streams {
		channels[i] = make(chan stream.Command)
		go r.work(text, channels[i])
	}
	return channels
}

// work is a worker: it sends and counts the commands of its stream.
func (r *reading) work(text string, commands chan<- stream.Command) {
	defer r.workers.Done()
	defer close(commands)
	stream.Scan(text, func(c stream.Command) {
		r.read.Add(1)
		if c.Kind == stream.Bad {
			r.bad.Add(1)
		}
		commands <- c
	})
}

// carryOutAll carries out the commands of a stream, and tells what they answer.
func (p *Pacer) carryOutAll(commands <-chan stream.Command) string {
	var told strings.Builder
	for c := range commands {
		numbers, err := p.carryOut(c)
		told.WriteString(strconv.Itoa(int(err)))
		for _, n := range numbers {
			told.WriteString(" " + strconv.Itoa(n))
		}
		told.WriteByte(';')
	}
	return told.String()
}

// carryOut carries out a command. Its numbers are those that are told behind the error.
func (p *Pacer) carryOut(c stream.Command) ([]int, Errno) {
	n := c.Numbers
	switch c.Kind {
	case stream.Add:
		flow, err := p.Add(n[0], n[1])
		if err != OK {
			return nil, err
		}
		return []int{flow}, OK
	case stream.Set:
		return nil, p.Set(n[0], n[1], n[2])
	case stream.Enqueue:
		return nil, p.Enqueue(n[0], n[1], n[2])
	case stream.Remove:
		dropped, err := p.Remove(n[0])
		return tags(dropped), err
	}
	return nil, ErrText
}

func tags(packets []Packet) []int {
	var out []int
	for _, x := range packets {
		out = append(out, x.Tag)
	}
	return out
}
