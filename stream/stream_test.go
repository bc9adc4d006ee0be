package stream_test

import (
	"math/rand"
	"regexp"
	"slices"
	"strconv"
	"strings"
	"testing"

	"pacer/stream"
)

var bad = stream.Command{Kind: stream.Bad}

func command(kind stream.Kind, numbers ...int) stream.Command {
	c := stream.Command{Kind: kind}
	copy(c.Numbers[:], numbers)
	return c
}

func scan(text string) []stream.Command {
	var out []stream.Command
	stream.Scan(text, func(c stream.Command) { out = append(out, c) })
	return out
}

func check(t *testing.T, text string, want ...stream.Command) {
	t.Helper()
	if got := scan(text); !slices.Equal(got, want) {
		t.Fatalf("Scan(%q) told %v, want %v", text, got, want)
	}
}

func TestP12Commands(t *testing.T) {
	check(t, "")
	check(t, "A1,2;", command('A', 1, 2))
	check(t, "S3,4,5;", command('S', 3, 4, 5))
	check(t, "E6,7,8;", command('E', 6, 7, 8))
	check(t, "R9;", command('R', 9))
	check(t, "R1;R2;A34,56;E0,0,0;R3;", command('R', 1), command('R', 2), command('A', 34, 56), command('E'), command('R', 3))
	check(t, "R0123456789;", command('R', 123456789))
}

func TestP12Digits(t *testing.T) {
	check(t, "R0;", command('R', 0))
	check(t, "R999999999999999999;", command('R', 999999999999999999))
	check(t, "R000000000000000007;", command('R', 7))
	check(t, "R1000000000000000000;R1;", bad, command('R', 1))
	check(t, "R0000000000000000007;", bad)
	check(t, "S999999999999999999,000000000000000000,100000000000000000;", command('S', 999999999999999999, 0, 100000000000000000))
	check(t, "S1,2,1000000000000000000;S1,1000000000000000000,2;S1000000000000000000,1,2;S1,2,3;", bad, bad, bad, command('S', 1, 2, 3))
	check(t, "R"+strings.Repeat("1", 380)+";", bad)
}

func TestP12BadCommands(t *testing.T) {
	for _, text := range []string{
		"", "A", "A1", "A1,", "A,1", "A,", "A1,2,", "A1,2,3", "A1,,2", "A,1,2",
		"S", "S1", "S1,2", "S1,2,", "S1,2,3,", "S1,2,3,4", "S,2,3", "S1,,3",
		"E", "E1", "E1,2", "E1,2,", "E1,2,3,", "E1,2,3,4", "E,2,3", "E1,,3",
		"R", "R,", "R1,", "R,1", "R1,2",
		"a1,2", "s1,2,3", "e1,2,3", "r1", "B1", "1", ",", "\x00", "\x001,2", "\xff\xfe",
		" R1", "R 1", "R1 ", "R+1", "R-1", "R1.0", "R0x1", "R1_0", "R1e1", "RR1", "R1R1", "R1A1,2", "R1\n", "\nR1",
		"R\u0661", "R\u00b2", "R\uff11", "\uff321", "R1\u037e", "R/", "R:", "R1/", "R1:", "A1.2", "A1-2",
	} {
		check(t, text+";", bad)
		check(t, text+";R5;", bad, command('R', 5))
		check(t, "R5;"+text+";", command('R', 5), bad)
		check(t, text+";"+text+";", bad, bad)
		if text == "" {
			continue
		}
		check(t, text, bad) // up to the stream's end
		check(t, "R5;"+text, command('R', 5), bad)
	}
}

func TestP12NothingBehindIt(t *testing.T) {
	for _, text := range []string{"A1,2", "S1,2,3", "E1,2,3", "R1"} {
		check(t, text, bad)
		check(t, "R7;"+text, command('R', 7), bad)
	}
	check(t, "R7;", command('R', 7))
	check(t, "R7;;", command('R', 7), bad)
	check(t, ";;;", bad, bad, bad)
}

var form = regexp.MustCompile(`^(?:(A)(\d{1,18}),(\d{1,18})|([SE])(\d{1,18}),(\d{1,18}),(\d{1,18})|(R)(\d{1,18}));$`)

// plainScan cuts the text at each `;` and holds each piece against a pattern.
func plainScan(text string) []stream.Command {
	var out []stream.Command
	for _, piece := range strings.SplitAfter(text, ";") {
		parts := form.FindStringSubmatch(piece)
		switch {
		case parts != nil:
			parts = slices.DeleteFunc(parts[1:], func(x string) bool { return x == "" })
			c := stream.Command{Kind: stream.Kind(parts[0][0])}
			for i, digits := range parts[1:] {
				c.Numbers[i], _ = strconv.Atoi(digits)
			}
			out = append(out, c)
		case piece != "":
			out = append(out, bad)
		}
	}
	return out
}

func TestP12AllShortTexts(t *testing.T) {
	texts := []string{""}
	for range 7 {
		var longer []string
		for _, text := range texts {
			check(t, text, plainScan(text)...)
			for _, b := range "AER0,;" {
				longer = append(longer, text+string(b))
			}
		}
		texts = longer
	}
}

func TestP12RandomTexts(t *testing.T) {
	pieces := []string{"A", "S", "E", "R", "A1,1500;", "S1,2,3", "E1,2,3;", "R1;", ",", ",", ";", ";", "0", "7", "42", "999999999999999999", "00000000000000000", " ", "x", "\xff"}
	r := rand.New(rand.NewSource(1))
	good := 0
	for range 50000 {
		text := ""
		for range r.Intn(12) {
			text += pieces[r.Intn(len(pieces))]
		}
		want := plainScan(text)
		check(t, text, want...)
		for _, c := range want {
			if c != bad {
				good++
			}
		}
	}
	if good < 10000 {
		t.Errorf("only %d commands were good: the pieces are badly picked", good)
	}
}
