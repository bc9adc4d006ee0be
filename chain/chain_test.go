package chain

import (
	"slices"
	"testing"
)

type bead struct {
	links Links[*bead]
	name  int
}

func (b *bead) Links() *Links[*bead] { return &b.links }

func names(l *List[*bead]) []int {
	var out []int
	for b := range l.All() {
		out = append(out, b.name)
	}
	return out
}

func filled(count int) (*List[*bead], []*bead) {
	l := &List[*bead]{}
	var beads []*bead
	for i := range count {
		b := &bead{name: i}
		beads = append(beads, b)
		l.Push(b)
	}
	return l, beads
}

func TestPushKeepsOrder(t *testing.T) {
	l, _ := filled(4)
	if got := names(l); !slices.Equal(got, []int{0, 1, 2, 3}) || l.Empty() {
		t.Errorf("got %v", got)
	}
}

func TestRemoveAnywhere(t *testing.T) {
	for count := 1; count <= 4; count++ {
		for out := range count {
			l, beads := filled(count)
			l.Remove(beads[out])
			if beads[out].links != (Links[*bead]{}) {
				t.Errorf("%d without %d: what was taken out still has links", count, out)
			}
			var want []int
			for i := range count {
				if i != out {
					want = append(want, i)
				}
			}
			if got := names(l); !slices.Equal(got, want) || l.Empty() != (count == 1) {
				t.Errorf("%d without %d: got %v", count, out, got)
			}
			l.Push(beads[out]) // what was taken out may come in again
			if got := names(l); !slices.Equal(got, append(want, out)) {
				t.Errorf("%d with %d again: got %v", count, out, got)
			}
		}
	}
}

func TestPop(t *testing.T) {
	l, beads := filled(3)
	for i := range 3 {
		if b := l.Pop(); b != beads[i] {
			t.Fatalf("thing %d: got %v", i, b)
		}
	}
	if l.Pop() != nil || !l.Empty() {
		t.Error("an empty list answers no thing and stays empty")
	}
	l.Push(beads[1])
	if got := names(l); !slices.Equal(got, []int{1}) {
		t.Errorf("filled again: got %v", got)
	}
}

func TestAllMayBeLeft(t *testing.T) {
	l, _ := filled(3)
	seen := 0
	for b := range l.All() {
		seen++
		if b.name == 1 {
			break
		}
	}
	if seen != 2 {
		t.Errorf("seen %d", seen)
	}
}
