package desk_test

import (
	"fmt"
	"strings"
	"testing"

	"isthmus/api"
	"isthmus/index"
)

// die: numbers that look drawn, the same each time.
type die uint64

func (d *die) below(n int) int {
	*d = *d*6364136223846793005 + 1442695040888963407
	return int(uint64(*d>>33) % uint64(n))
}

// bare are things as they are told, the brackets left out.
func bare[T any](things []T) string {
	var l []string
	for _, x := range things {
		l = append(l, strings.Trim(fmt.Sprint(x), "[]{}"))
	}
	return strings.Join(l, ", ")
}

// or is an error as it is told, or else what was answered.
func or(err error, told ...any) string {
	if err != nil {
		return fmt.Sprint("error ", int(api.Tell(err)))
	}
	return strings.TrimSuffix(fmt.Sprintln(told...), "\n")
}

// lists are the lines without numbers, and what they are to be answered by what an index tells.
func lists(x *index.Index) []said {
	return []said{
		{"edges", "edges " + bare(x.Edges())},
		{"bridges", "bridges " + strings.Trim(fmt.Sprint(x.Bridges()), "[]")},
		{"cuts", "cuts " + strings.Trim(fmt.Sprint(x.Cuts()), "[]")},
		{"blocks", "blocks " + bare(x.Blocks())},
		{"thrice", "thrice " + bare(x.Thrice())},
		{"pairs", "pairs " + bare(x.Pairs())},
		{"splits", "splits " + bare(x.Splits())},
		{"reload", "reload"},
		{"help", helpAnswer},
		{"", "ok"},
	}
}

// step draws a line, does what it says to an index, and is the line and what it is to be answered.
func step(d *die, x **index.Index, n int) said {
	id, a, b := d.below(12), d.below(n+1)-d.below(2), d.below(n+1)-d.below(2)
	switch d.below(10) {
	case 0, 1, 2, 3:
		is, err := (*x).Add(id, a, b)
		return said{fmt.Sprint("add ", id, " ", a, " ", b), or(err, is)}
	case 4:
		return said{fmt.Sprint("drop ", id), or((*x).Drop(id), "drop")}
	case 5:
		is, err := (*x).Whole(a, b)
		return said{fmt.Sprint("whole ", a, " ", b), or(err, is)}
	case 6:
		is, err := (*x).Twice(a, b)
		return said{fmt.Sprint("twice ", a, " ", b), or(err, is)}
	case 7:
		edges, err := (*x).ByEdges(a, b)
		nodes, _ := (*x).ByNodes(a, b)
		return said{fmt.Sprint("ways ", a, " ", b), or(err, edges, nodes)}
	case 8:
		if d.below(10) > 0 {
			break
		}
		y, err := index.New(n + 40*d.below(2))
		if err != nil {
			return said{"nodes 41", or(err)}
		}
		*x = y
		return said{fmt.Sprint("nodes ", n), "nodes"}
	}
	l := lists(*x)
	return l[d.below(len(l))]
}

// TestAsTheIndexTells: drawn sessions, held against an index that is asked the same.
func TestAsTheIndexTells(t *testing.T) {
	d := die(1)
	for range 150 {
		n := 1 + d.below(8)
		x, err := index.New(n)
		if err != nil {
			t.Fatal(err)
		}
		lines := []said{{fmt.Sprint("nodes ", n), "nodes"}}
		for range 5 + d.below(40) {
			lines = append(lines, step(&d, &x, n))
		}
		talk(t, append(lines, lists(x)...)...)
	}
}
