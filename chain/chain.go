// Package chain has lists whose links stand in the things that they link: who holds a thing can take it out of its list at once.
package chain

import "iter"

// Links are what a thing bears to stand in a list: in one at a time.
type Links[T any] struct {
	before, behind T
}

// Linked is what a list links: pointers, as a rule, to things that bear links. The zero value stands for no thing.
type Linked[T any] interface {
	comparable
	Links() *Links[T]
}

// List is a list of such things; its zero value is an empty one.
type List[T Linked[T]] struct {
	first, last T
}

// Empty tells whether the list has nothing.
func (l *List[T]) Empty() bool {
	var none T
	return l.first == none
}

// Push puts a thing that stands in no list behind all others.
func (l *List[T]) Push(thing T) {
	var none T
	*thing.Links() = Links[T]{before: l.last}
	if l.last == none {
		l.first = thing
	} else {
		l.last.Links().behind = thing
	}
	l.last = thing
}

// Remove takes out a thing that stands in this list.
func (l *List[T]) Remove(thing T) {
	var none T
	links := thing.Links()
	if links.before == none {
		l.first = links.behind
	} else {
		links.before.Links().behind = links.behind
	}
	if links.behind == none {
		l.last = links.before
	} else {
		links.behind.Links().before = links.before
	}
	*links = Links[T]{}
}

// Pop takes out the first thing; of an empty list it answers the zero value.
func (l *List[T]) Pop() T {
	var none T
	thing := l.first
	if thing != none {
		l.Remove(thing)
	}
	return thing
}

// All goes through the things in their order; the list must not change meanwhile.
func (l *List[T]) All() iter.Seq[T] {
	return func(yield func(T) bool) {
		var none T
		for thing := l.first; thing != none; thing = thing.Links().behind {
			if !yield(thing) {
				return
			}
		}
	}
}
