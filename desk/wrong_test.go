package desk_test

import (
	"fmt"
	"slices"
	"strings"
	"testing"

	"isthmus/api"
)

// start are lines that make an index; told is all that it tells, of which no wrong line may change anything.
func start() []said {
	return []said{{"nodes 6", "nodes"}, {"add 7 0 1", "true"}, {"add 3 1 2", "true"}, {"add 8 2 0", "false"}, {"add 5 2 3", "true"}}
}

func told() []said {
	return []said{
		{"edges", "edges 3 1 2, 5 2 3, 7 0 1, 8 0 2"},
		{"bridges", "bridges 5"},
		{"cuts", "cuts 2"},
		{"blocks", "blocks 3 7 8, 5"},
		{"pairs", "pairs 3 7, 3 8, 7 8"},
		{"splits", "splits "},
		{"thrice", "thrice 0, 1, 2, 3, 4, 5"},
		{"whole 0 3", "true"},
		{"twice 0 3", "false"},
		{"ways 0 2", "2 2"},
	}
}

// wrong says lines that are all answered by one error, each in a session of its own and all of them in one: nothing changes behind them.
func wrong(t *testing.T, want api.Errno, lines ...string) {
	t.Helper()
	all := start()
	for _, line := range lines {
		one := said{line, fmt.Sprint("error ", int(want))}
		all = append(all, one)
		talk(t, slices.Concat(start(), []said{one}, told())...)
	}
	talk(t, append(all, told()...)...)
}

// TestFirstWord: what is no word of the table.
func TestFirstWord(t *testing.T) {
	wrong(t, api.ErrForm,
		"x", "Add", "ADD 1 0 1", "Add 1 0 1", "adds 1 0 1", "ad 1 0 1", "addadd", "cut", "bridge", "edge", "block", "pair", "split", "node 3", "way 0 1", "helps", "Help", "reloads",
		"0", "1", "-1", "7 0 1", "-", "+", "ok", "error", "error 3", "true", "false", "size", "saved", "save", "load", "new 3", "byedges 0 1", "bynodes 0 1", "parts", "ids",
		"cuts,", "\"cuts\"", "cuts;", "/cuts", "#", "# cuts", "hélp", "\xff", "cuts\xff", "c\x00uts", "ｃuts", "1 add 0 1", "add,1,0,1", "x add 1 0 1")
}

// TestSoManyWords: a word too few, or too many, and none or many of them.
func TestSoManyWords(t *testing.T) {
	behind := map[string]int{
		"add": 3, "blocks": 0, "bridges": 0, "cuts": 0, "drop": 1, "edges": 0, "help": 0, "nodes": 1, "pairs": 0, "reload": 0, "splits": 0, "thrice": 0, "twice": 2, "ways": 2, "whole": 2,
	}
	for _, word := range strings.Fields(helpAnswer) {
		for many := range 6 {
			if many == behind[word] {
				continue
			}
			// Each of them alone might be right: numbers of nodes and of edges, those that are there and those that are not.
			wrong(t, api.ErrForm, word+strings.Repeat(" 3", many), word+" 9 0 1 2 3 4"[:1+2*many], word+strings.Repeat(" x", many))
		}
		wrong(t, api.ErrForm, word+strings.Repeat(" 1", 1000), word+" "+word)
	}
}

// TestNoNumber: words that are no number, in each place where one stands.
func TestNoNumber(t *testing.T) {
	for _, word := range []string{
		"x", "-", "+", "--1", "+-1", "-+1", "1-", "1+", "+1", "+0", "01", "00", "007", "-0", "-00", "-01", "-007", "1.0", "1.", ".1", "1e1", "0x1", "0b1", "0o1", "x1", "1x", "1_0", "_1", "1,0", "1'0",
		"9223372036854775808", "-9223372036854775809", "18446744073709551615", "18446744073709551616", "18446744073709551617", "-18446744073709551615", "100000000000000000000000000", "-100000000000000000000000000",
		"٣", "１", "½", "\xff1", "1\xff", "1\x00", "nan", "inf", "true", "one", "−1", "–1", "cuts", "\x00",
	} {
		wrong(t, api.ErrForm,
			"nodes "+word, "drop "+word,
			"add "+word+" 0 4", "add 9 "+word+" 4", "add 9 0 "+word,
			"whole "+word+" 0", "whole 0 "+word, "twice "+word+" 0", "twice 0 "+word, "ways "+word+" 0", "ways 0 "+word)
	}
}

// TestAllOfThemNumbers: a word that is no number is wrong ahead of all that is wrong with the others.
func TestAllOfThemNumbers(t *testing.T) {
	wrong(t, api.ErrForm, "add x 0 0", "add -1 x 0", "add 7 0 x", "add -1 99 x", "add 7 0 01", "whole 99 x", "whole x 99", "twice 99 +1", "ways 0 x", "ways 99 -", "nodes 41 x", "nodes 41 1", "drop 99 1", "add 7 0 0 1", "add 7 0", "ways 1 1 1", "whole 99 99 99")
}

// TestRange: each number of 64 bits is one, though there may be no such node and no such edge.
func TestRange(t *testing.T) {
	const least, most = "-9223372036854775808", "9223372036854775807"
	wrong(t, api.ErrRange, "nodes -1", "nodes 41", "nodes 100", "nodes "+least, "nodes "+most)
	wrong(t, api.ErrRange, "add -1 0 4", "add 1099511627777 0 4", "add "+least+" 0 4", "add "+most+" 0 4")
	for _, node := range []string{"-1", "6", "10", "40", least, most} {
		wrong(t, api.ErrRange,
			"add 9 0 "+node, "add 9 "+node+" 0", "whole 0 "+node, "whole "+node+" 0", "twice 0 "+node, "twice "+node+" 0", "ways 0 "+node, "ways "+node+" 0",
			// Both are one, or the edge is there, too: but this is told first.
			"add 9 "+node+" "+node, "add 7 "+node+" 0", "ways "+node+" "+node)
	}
	wrong(t, api.ErrRange, "add -1 0 0")
	wrong(t, api.ErrMissing, "drop 0", "drop 4", "drop 6", "drop 9", "drop -1", "drop -7", "drop 1099511627776", "drop "+least, "drop "+most)
}

// TestOneEnd: an edge or ways from a node to itself.
func TestOneEnd(t *testing.T) {
	wrong(t, api.ErrArg, "add 9 0 0", "add 9 5 5", "ways 0 0", "ways 4 4", "add 7 0 0")
	wrong(t, api.ErrTwice, "add 7 0 1", "add 7 4 5", "add 5 0 1", "add 3 5 0")
}

// TestFull: as many edges as there may be, and one more.
func TestFull(t *testing.T) {
	var lines []said
	var edges []string
	for i := range api.MaxEdges {
		lines = append(lines, said{fmt.Sprintf("add %d 0 1", i), fmt.Sprint(i == 0)})
		edges = append(edges, fmt.Sprint(i, " 0 1"))
	}
	all := "edges " + strings.Join(edges, ", ")
	talk(t, append(lines,
		said{"add 120 0 1", "error 12"},
		said{"edges", all},
		said{"add 120 8 9", "error 12"},
		said{"whole 8 9", "false"},
		// What is told ahead of that.
		said{"add 119 0 1", "error 9"},
		said{"add 120 1 1", "error 1"},
		said{"add 120 1 10", "error 2"},
		said{"add 120 1", "error 3"},
		said{"ways 0 1", "120 120"},
		said{"reload", "reload"},
		said{"edges", all},
		said{"add 120 0 1", "error 12"},
		said{"drop 0", "drop"},
		said{"add 120 8 9", "true"},
		said{"ways 1 0", "119 119"},
		said{"bridges", "bridges 120"},
	)...)
}
