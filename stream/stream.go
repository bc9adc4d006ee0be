// Package stream reads the commands of a stream: see 'Streams' in DOC.md.
package stream

// Kind is which command it is: the letter that it begins with, or Bad.
type Kind byte

const (
	Bad     Kind = 0
	Add     Kind = 'A'
	Set     Kind = 'S'
	Enqueue Kind = 'E'
	Remove  Kind = 'R'
)

// maxDigits is how many digits a number may have: so many that each fits an int.
const maxDigits = 18

// Command is a command with its numbers in their order, as many as its kind has.
type Command struct {
	Kind    Kind
	Numbers [3]int
}

// Scan tells the commands of a stream one by one (P12). Its labels are the states that it goes between.
func Scan(text string, tell func(Command)) {
	var (
		at     int // the place in text
		c      Command
		last   int // the place of the last number that c is to have
		number int // the place of the number that is read
		digits int // how many digits it has so far
	)

looking:
	if at == len(text) {
		return
	}
	c = Command{Kind: Kind(text[at])}
	last, number, digits = c.Kind.numbers()-1, 0, 0
	if last < 0 {
		goto lost
	}
	at++

within:
	switch {
	case at == len(text):
		goto lost
	case isDigit(text[at]) && digits < maxDigits:
		c.Numbers[number] = 10*c.Numbers[number] + int(text[at]-'0')
		digits++
		at++
		goto within
	case text[at] == ',' && digits > 0 && number < last:
		number, digits = number+1, 0
		at++
		goto within
	case text[at] == ';' && digits > 0 && number == last:
		tell(c)
		at++
		goto looking
	}

lost:
	if at < len(text) && text[at] != ';' {
		at++
		goto lost
	}
	tell(Command{Kind: Bad})
	at = min(at+1, len(text))
	goto looking
}

// numbers is how many numbers a command of this kind has. No command has none: what answers 0 is no kind.
func (k Kind) numbers() int {
	switch k {
	case Add:
		return 2
	case Set, Enqueue:
		return 3
	case Remove:
		return 1
	}
	return 0
}

func isDigit(b byte) bool { return b >= '0' && b <= '9' }
