package pacer_test

import (
	"math"
	"slices"
	"strings"
	"testing"

	"pacer/pacer"
)

func TestP1ErrorNumbers(t *testing.T) {
	for want, got := range []pacer.Errno{pacer.OK, pacer.ErrArg, pacer.ErrBig, pacer.ErrNever, pacer.ErrTwice, pacer.ErrNone, pacer.ErrRate, pacer.ErrMany, pacer.ErrFull, pacer.ErrClosed, pacer.ErrText} {
		if int(got) != want {
			t.Errorf("error %d has the number %d", want, got)
		}
	}
}

func TestP1WheelCallsEndAtAllNumbers(t *testing.T) {
	for _, first := range edges {
		w := pacer.NewWheel()
		w.Advance(first)
		for _, a := range edges {
			for _, b := range edges {
				w.Insert(a, b)
				w.Next()
			}
			w.Cancel(a)
			w.Advance(a)
		}
		if w.Len() != 0 { // the last time is the greatest
			t.Errorf("behind %d: %d wait", first, w.Len())
		}
	}
}

func TestP1PacerCallsEndAtAllNumbers(t *testing.T) {
	texts := []string{"", ";", "A1,1500;", "E1,2,3;E1", "R1;S1,2", "\x00\xff;", strings.Repeat("9", 401)}
	for _, a := range edges {
		pacer.New(a)
		p, _ := pacer.New(1500)
		for _, b := range edges {
			p.Add(a, b)
			p.Set(1, a, b)
			p.Set(a, b, 1500)
			p.Enqueue(1, a, b)
			p.Enqueue(a, b, 1500)
			p.Poll(a, b)
			p.Next()
		}
		p.Remove(a)
		p.Feed(nil)
		p.Feed(texts)
		p.Feed(slices.Concat(texts, texts))
		p.Close()
		p.Close()
		p.Counts()
	}
}

func TestP1ErrorsChangeNothing(t *testing.T) {
	w := pacer.NewWheel()
	checkInsert(t, w, 1, 100, pacer.OK)
	checkInsert(t, w, 2, 90, pacer.OK)
	for range 3 {
		checkInsert(t, w, 1, 5, pacer.ErrTwice)
		checkInsert(t, w, 2, 100, pacer.ErrTwice)
		checkInsert(t, w, -3, 5, pacer.ErrArg)
		checkInsert(t, w, 3, -5, pacer.ErrArg)
		checkCancel(t, w, 3, pacer.ErrNone)
		checkState(t, w, 90, 2)
	}
	checkAdvance(t, w, 89)
	checkAdvance(t, w, math.MaxInt, 2, 1)
}

func TestP1WheelsShareNothing(t *testing.T) {
	a, b := pacer.NewWheel(), pacer.NewWheel()
	checkInsert(t, a, 1, 10, pacer.OK)
	checkInsert(t, a, 2, 5000, pacer.OK)
	checkState(t, b, -1, 0)
	checkCancel(t, b, 1, pacer.ErrNone)
	checkInsert(t, b, 1, 20, pacer.OK)
	checkAdvance(t, b, 6000, 1)
	checkState(t, a, 10, 2)
	checkAdvance(t, a, 9)
	checkAdvance(t, a, 10, 1)
}

func TestP1AnswersAreNewMemory(t *testing.T) {
	w := pacer.NewWheel()
	for id := range 4 {
		checkInsert(t, w, id, id/2+1, pacer.OK)
	}
	first := w.Advance(1)
	first[0], first[1] = 77, 78
	first = append(first, 79)
	second := w.Advance(2)
	if !slices.Equal(first, []int{77, 78, 79}) || !slices.Equal(second, []int{2, 3}) {
		t.Errorf("got %v and %v", first, second)
	}
	checkState(t, w, -1, 0)
}
