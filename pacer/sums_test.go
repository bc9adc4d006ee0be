package pacer_test

import (
	"math"
	"math/big"
	"testing"

	"pacer/pacer"
)

// edges are numbers at which sums are likely to go wrong.
var edges = []int{math.MinInt, math.MinInt + 1, -1000000000, -2, -1, 0, 1, 2, 3, 7, 10, 1499, 1500, 999999999, 1000000000, 1000000001, 1<<31 - 1, 1 << 31, 1<<32 - 1, 1 << 32, 1<<32 + 1, 3037000499, 3037000500, 4000000000000000000, 1<<62 - 1, 1 << 62, 1<<62 + 1, math.MaxInt - 1, math.MaxInt}

func bigInt(n int) *big.Int { return big.NewInt(int64(n)) }

func wantScale(a, b, c int) (int, pacer.Errno) {
	if a < 0 || b < 0 || c < 1 {
		return 0, pacer.ErrArg
	}
	n := new(big.Int).Mul(bigInt(a), bigInt(b))
	n.Quo(n, bigInt(c))
	if !n.IsInt64() {
		return 0, pacer.ErrBig
	}
	return int(n.Int64()), pacer.OK
}

func creditAt(credit, rate, time *big.Int) *big.Int {
	n := new(big.Int).Mul(rate, time)
	return n.Add(n, credit)
}

func wantAccrue(credit, rate, most, time int) (int, pacer.Errno) {
	if min(credit, rate, most, time) < 0 || credit > most {
		return 0, pacer.ErrArg
	}
	n := creditAt(bigInt(credit), bigInt(rate), bigInt(time))
	if n.Cmp(bigInt(most)) > 0 {
		return most, pacer.OK
	}
	return int(n.Int64()), pacer.OK
}

func TestP2ScaleAtEdges(t *testing.T) {
	for _, a := range edges {
		for _, b := range edges {
			for _, c := range edges {
				want, wantErr := wantScale(a, b, c)
				if got, err := pacer.Scale(a, b, c); got != want || err != wantErr {
					t.Fatalf("Scale(%d, %d, %d) = %d, %d, want %d, %d", a, b, c, got, err, want, wantErr)
				}
			}
		}
	}
}

func TestP2ScaleByHand(t *testing.T) {
	for _, c := range []struct {
		a, b, c, want int
		err           pacer.Errno
	}{
		{6, 7, 1, 42, pacer.OK},
		{7, 3, 2, 10, pacer.OK}, // 10.5: the fraction is left out
		{1, 1, 2, 0, pacer.OK},
		{0, math.MaxInt, 1, 0, pacer.OK},
		{math.MaxInt, 1, 1, math.MaxInt, pacer.OK},
		{math.MaxInt, math.MaxInt, math.MaxInt, math.MaxInt, pacer.OK},
		{1 << 62, 2, 1, 0, pacer.ErrBig},                    // one above the bound
		{1 << 62, 4, 1, 0, pacer.ErrBig},                    // wraps to 0 in 64 bits
		{math.MaxInt, math.MaxInt, 1, 0, pacer.ErrBig},      // far above
		{math.MaxInt, 3, 2, 0, pacer.ErrBig},                // fits without a sign only
		{math.MaxInt - 1, 3, 3, math.MaxInt - 1, pacer.OK},  // the product alone is too big
		{-1, math.MaxInt, 1, 0, pacer.ErrArg},               // ErrArg is named ahead of ErrBig
		{math.MaxInt, math.MaxInt, 0, 0, pacer.ErrArg},      // likewise
		{math.MaxInt, math.MinInt, 1, 0, pacer.ErrArg},      // likewise
		{2, 3, -6, 0, pacer.ErrArg},                         // not -1
		{-2, -3, 1, 0, pacer.ErrArg},                        // not 6
		{1000000000, 1000000000, 1000000000, 1000000000, 0}, // parts to bytes
	} {
		if got, err := pacer.Scale(c.a, c.b, c.c); got != c.want || err != c.err {
			t.Errorf("Scale(%d, %d, %d) = %d, %d, want %d, %d", c.a, c.b, c.c, got, err, c.want, c.err)
		}
	}
}

func TestP3AccrueAtEdges(t *testing.T) {
	for _, credit := range edges {
		for _, rate := range edges {
			for _, most := range edges {
				for _, time := range edges {
					want, wantErr := wantAccrue(credit, rate, most, time)
					if got, err := pacer.Accrue(credit, rate, most, time); got != want || err != wantErr {
						t.Fatalf("Accrue(%d, %d, %d, %d) = %d, %d, want %d, %d", credit, rate, most, time, got, err, want, wantErr)
					}
				}
			}
		}
	}
}

func TestP3AccrueByHand(t *testing.T) {
	for _, c := range []struct {
		credit, rate, most, time, want int
		err                            pacer.Errno
	}{
		{0, 0, 0, 0, 0, pacer.OK},
		{10, 3, 100, 5, 25, pacer.OK},
		{10, 3, 25, 5, 25, pacer.OK},
		{10, 3, 24, 5, 24, pacer.OK},
		{10, 0, 24, math.MaxInt, 10, pacer.OK},
		{24, 9, 24, 9, 24, pacer.OK},
		{0, 1 << 32, 5, 1 << 32, 5, pacer.OK}, // the product wraps to 0 in 64 bits
		{math.MaxInt, math.MaxInt, math.MaxInt, math.MaxInt, math.MaxInt, pacer.OK},
		{1, math.MaxInt - 1, math.MaxInt, 1, math.MaxInt, pacer.OK},
		{1, math.MaxInt - 2, math.MaxInt, 1, math.MaxInt - 1, pacer.OK},
		{25, 3, 24, 5, 0, pacer.ErrArg},
		{1, 0, 0, 0, 0, pacer.ErrArg},
		{-1, 3, 24, 5, 0, pacer.ErrArg},
		{1, -3, 24, 5, 0, pacer.ErrArg},
		{-2, 3, -1, 5, 0, pacer.ErrArg},
		{1, 3, 24, -5, 0, pacer.ErrArg},
	} {
		if got, err := pacer.Accrue(c.credit, c.rate, c.most, c.time); got != c.want || err != c.err {
			t.Errorf("Accrue(%d, %d, %d, %d) = %d, %d, want %d, %d", c.credit, c.rate, c.most, c.time, got, err, c.want, c.err)
		}
	}
}

// checkUntil holds an answer of Until against the words of the promise: enough then, and not enough a nanosecond earlier.
func checkUntil(t *testing.T, credit, rate, need int) {
	t.Helper()
	got, err := pacer.Until(credit, rate, need)
	enough := func(time int) bool {
		return creditAt(bigInt(credit), bigInt(rate), bigInt(time)).Cmp(bigInt(need)) >= 0
	}
	switch {
	case min(credit, rate, need) < 0:
		if got != 0 || err != pacer.ErrArg {
			t.Fatalf("Until(%d, %d, %d) = %d, %d, want ErrArg", credit, rate, need, got, err)
		}
	case rate == 0 && credit < need:
		if got != 0 || err != pacer.ErrNever {
			t.Fatalf("Until(%d, %d, %d) = %d, %d, want ErrNever", credit, rate, need, got, err)
		}
	default:
		if err != pacer.OK || got < 0 || !enough(got) || got > 0 && enough(got-1) {
			t.Fatalf("Until(%d, %d, %d) = %d, %d: not the least time", credit, rate, need, got, err)
		}
	}
}

func TestP3UntilAtEdges(t *testing.T) {
	for _, credit := range edges {
		for _, rate := range edges {
			for _, need := range edges {
				checkUntil(t, credit, rate, need)
			}
		}
	}
}

func TestP3UntilByHand(t *testing.T) {
	for _, c := range []struct {
		credit, rate, need, want int
		err                      pacer.Errno
	}{
		{0, 0, 0, 0, pacer.OK},
		{7, 0, 7, 0, pacer.OK},
		{7, 0, 8, 0, pacer.ErrNever},
		{9, 5, 7, 0, pacer.OK},
		{0, 5, 10, 2, pacer.OK},
		{0, 5, 11, 3, pacer.OK},
		{0, 1, math.MaxInt, math.MaxInt, pacer.OK},
		{0, math.MaxInt, math.MaxInt, 1, pacer.OK},
		{1, math.MaxInt - 1, math.MaxInt, 1, pacer.OK},
		{1, math.MaxInt - 2, math.MaxInt, 2, pacer.OK},
		{0, 1000000000, 1500 * 1000000000, 1500, pacer.OK},
		{-1, 0, 8, 0, pacer.ErrArg}, // ErrArg is named ahead of ErrNever
		{9, -5, 7, 0, pacer.ErrArg},
		{9, 5, -7, 0, pacer.ErrArg},
	} {
		if got, err := pacer.Until(c.credit, c.rate, c.need); got != c.want || err != c.err {
			t.Errorf("Until(%d, %d, %d) = %d, %d, want %d, %d", c.credit, c.rate, c.need, got, err, c.want, c.err)
		}
	}
}
