package desk_test

import (
	"fmt"
	"strings"
	"testing"

	"isthmus/api"
	"isthmus/desk"
)

// said is a line, and what is answered.
type said struct{ line, want string }

// talk holds a session against what is to be answered, line by line.
func talk(t *testing.T, lines ...said) {
	t.Helper()
	var text, want string
	for _, s := range lines {
		text += s.line + "\n"
		want += s.want + "\n"
	}
	got := desk.Session(text)
	if got == want {
		return
	}
	answers := strings.SplitAfter(got, "\n")
	for i, s := range lines {
		if i >= len(answers) || answers[i] != s.want+"\n" {
			t.Fatalf("line %d, %q: answered %.300q, want %.300q and a line feed", i, s.line, append(answers, "")[min(i, len(answers))], s.want)
		}
	}
	t.Fatalf("%d lines are answered %.300q, want %.300q", len(lines), got, want)
}

// is holds a whole text against what is to be answered.
func is(t *testing.T, text, want string) {
	t.Helper()
	if got := desk.Session(text); got != want {
		t.Errorf("Session(%.80q): %.80q (%d bytes), want %.80q (%d bytes)", text, got, len(got), want, len(want))
	}
}

// alone are the lists of one node each, from one to below another one, as thrice tells them.
func alone(from, to int) string {
	var lists []string
	for x := from; x < to; x++ {
		lists = append(lists, fmt.Sprint(x))
	}
	return strings.Join(lists, ", ")
}

const helpAnswer = "add blocks bridges cuts drop edges help nodes pairs reload splits thrice twice ways whole"

// TestTable: each line of the table, in a session in which each line sees what those before it have left.
func TestTable(t *testing.T) {
	talk(t,
		said{"nodes 5", "nodes"},
		said{"add 7 0 1", "true"},
		said{"add 3 2 1", "true"},
		said{"add 5 2 3", "true"},
		said{"bridges", "bridges 3 5 7"},
		said{"whole 0 2", "true"},
		said{"twice 0 2", "false"},
		said{"ways 0 2", "1 1"},
		said{"add 8 2 0", "false"},
		said{"bridges", "bridges 5"},
		said{"cuts", "cuts 2"},
		said{"blocks", "blocks 3 7 8, 5"},
		said{"pairs", "pairs 3 7, 3 8, 7 8"},
		said{"splits", "splits "},
		said{"thrice", "thrice 0, 1, 2, 3, 4"},
		said{"edges", "edges 3 1 2, 5 2 3, 7 0 1, 8 0 2"},
		said{"whole 0 3", "true"},
		said{"whole 4 3", "false"},
		said{"whole 4 4", "true"},
		said{"twice 1 0", "true"},
		said{"twice 0 3", "false"},
		said{"ways 0 2", "2 2"},
		said{"ways 3 0", "1 1"},
		said{"ways 0 4", "0 0"},
		said{"reload", "reload"},
		said{"drop 8", "drop"},
		said{"bridges", "bridges 3 5 7"},
		said{"cuts", "cuts 1 2"},
		said{"edges", "edges 3 1 2, 5 2 3, 7 0 1"},
		said{"help", helpAnswer},
		said{"", "ok"},
	)
}

// TestLists: lists, twos and edges of which there are none, one and several. The blank behind the word stands at all times.
func TestLists(t *testing.T) {
	talk(t,
		said{"bridges", "bridges "},
		said{"cuts", "cuts "},
		said{"blocks", "blocks "},
		said{"pairs", "pairs "},
		said{"splits", "splits "},
		said{"edges", "edges "},
		said{"thrice", "thrice " + alone(0, 10)},
		said{"nodes 1", "nodes"},
		said{"thrice", "thrice 0"},
		said{"nodes 4", "nodes"},
		said{"add 12 1 0", "true"},
		said{"edges", "edges 12 0 1"},
		said{"bridges", "bridges 12"},
		said{"blocks", "blocks 12"},
		said{"cuts", "cuts "},
		said{"add 10 0 1", "false"},
		said{"pairs", "pairs 10 12"},
		said{"blocks", "blocks 10 12"},
		said{"bridges", "bridges "},
		said{"add 11 1 0", "false"},
		said{"pairs", "pairs "},
		said{"thrice", "thrice 0 1, 2, 3"},
		said{"add 0 1 2", "true"},
		said{"cuts", "cuts 1"},
		said{"blocks", "blocks 0, 10 11 12"},
		said{"add 1 2 3", "true"},
		said{"bridges", "bridges 0 1"},
		said{"cuts", "cuts 1 2"},
		said{"splits", "splits "},
		said{"add 2 3 0", "false"},
		said{"splits", "splits 0 2, 1 3"},
		said{"pairs", "pairs 0 1, 0 2, 1 2"},
		said{"cuts", "cuts "},
		said{"add 3 1 3", "false"},
		said{"splits", "splits 1 3"},
		said{"edges", "edges 0 1 2, 1 2 3, 2 0 3, 3 1 3, 10 0 1, 11 0 1, 12 0 1"},
	)
}

// TestRings: two rings of three with a node in common, of the document's examples.
func TestRings(t *testing.T) {
	talk(t,
		said{"add 0 0 1", "true"}, said{"add 1 1 2", "true"}, said{"add 2 0 2", "false"},
		said{"add 3 2 3", "true"}, said{"add 4 3 4", "true"}, said{"add 5 2 4", "false"},
		said{"blocks", "blocks 0 1 2, 3 4 5"},
		said{"cuts", "cuts 2"},
		said{"pairs", "pairs 0 1, 0 2, 1 2, 3 4, 3 5, 4 5"},
		// So many ways by edges, and fewer by nodes.
		said{"ways 0 4", "2 1"},
		said{"ways 4 0", "2 1"},
		said{"ways 0 2", "2 2"},
		said{"thrice", "thrice " + alone(0, 10)},
		said{"bridges", "bridges "},
		said{"twice 0 4", "true"},
		said{"twice 0 5", "false"},
	)
}

// TestLines: how a text is cut into lines. One line feed at its end is left out.
func TestLines(t *testing.T) {
	for text, want := range map[string]string{
		"":                     "ok\n",
		"\n":                   "ok\n",
		"\n\n":                 "ok\nok\n",
		"\n\n\n":               "ok\nok\nok\n",
		" ":                    "ok\n",
		" \n ":                 "ok\nok\n",
		"cuts":                 "cuts \n",
		"cuts\n":               "cuts \n",
		"cuts\n\n":             "cuts \nok\n",
		"\ncuts":               "ok\ncuts \n",
		"\ncuts\n":             "ok\ncuts \n",
		"cuts\n\ncuts":         "cuts \nok\ncuts \n",
		"add 1 0 1\nadd 2 1 2": "true\ntrue\n",
		"add 1 0\n1":           "error 3\nerror 3\n",
		"x":                    "error 3\n",
		"x\n":                  "error 3\n",
		"cuts\r\ncuts":         "error 3\ncuts \n",
	} {
		is(t, text, want)
	}
}

// TestBlanks: blanks stand between words, several of them, too, and at both ends; nothing else is a blank.
func TestBlanks(t *testing.T) {
	talk(t,
		said{" ", "ok"},
		said{"     ", "ok"},
		said{" cuts", "cuts "},
		said{"cuts ", "cuts "},
		said{"   cuts    ", "cuts "},
		said{"add  1  0  1", "true"},
		said{"   add 2     1 2   ", "true"},
		said{" nodes     3 ", "nodes"},
		said{"edges ", "edges "},
		said{"c uts", "error 3"},
		said{"add1 0 1", "error 3"},
		said{"add 1 01", "error 3"},
	)
	for _, other := range []string{"\t", "\r", "\v", "\f", "\x00", "\u00a0", "\u0085", "\u2003", "\u3000", "\xff", "\xa0", "\x85", ",", "_"} {
		talk(t,
			said{other, "error 3"},
			said{other + " ", "error 3"},
			said{other + "cuts", "error 3"},
			said{"cuts" + other, "error 3"},
			said{"cuts " + other, "error 3"},
			said{other + " cuts", "error 3"},
			said{"add" + other + "1 0 1", "error 3"},
			said{"add 1" + other + "0 1", "error 3"},
			said{"add 1 0 1" + other, "error 3"},
			said{"edges", "edges "},
		)
	}
}

// TestMaxText: just so many bytes are answered, line by line; one more is wrong as a whole.
func TestMaxText(t *testing.T) {
	const tooMuch = "error 4\n"
	most := api.MaxText
	is(t, strings.Repeat(" ", most), "ok\n")
	is(t, strings.Repeat(" ", most+1), tooMuch)
	is(t, strings.Repeat("x", most), "error 3\n")
	is(t, strings.Repeat("x", most+1), tooMuch)
	is(t, strings.Repeat("\n", most), strings.Repeat("ok\n", most))
	is(t, strings.Repeat("\n", most+1), tooMuch)
	is(t, strings.Repeat("x", most)+"\n", tooMuch)
	is(t, strings.Repeat("x", most-1)+"\n", "error 3\n")
	lines := "add 1 0 1\nadd 2 0 1\nedges"
	is(t, lines+strings.Repeat(" ", most-len(lines)), "true\nfalse\nedges 1 0 1, 2 0 1\n")
	is(t, lines+strings.Repeat(" ", most+1-len(lines)), tooMuch)
	// Bytes are counted, not what they write.
	is(t, strings.Repeat("é", most/2), "error 3\n")
	is(t, strings.Repeat("é", most/2+1), tooMuch)
	is(t, strings.Repeat("cuts\n", 1_000_000), tooMuch)
	// A number as long as a text.
	is(t, "drop "+strings.Repeat("9", most-5), "error 3\n")
	is(t, "drop "+strings.Repeat("0", most-5), "error 3\n")
}

// TestNodes: ten of them at first, then as many as a line says, without edges.
func TestNodes(t *testing.T) {
	talk(t,
		said{"whole 9 9", "true"},
		said{"whole 9 10", "error 2"},
		said{"add 0 0 9", "true"},
		said{"add 1 0 10", "error 2"},
		said{"thrice", "thrice " + alone(0, 10)},
		said{"nodes 40", "nodes"},
		said{"edges", "edges "},
		said{"whole 0 9", "false"},
		said{"thrice", "thrice " + alone(0, 40)},
		said{"add 0 39 38", "true"},
		said{"add 1 39 40", "error 2"},
		// A new index, though it has as many nodes as the one before.
		said{"nodes 40", "nodes"},
		said{"edges", "edges "},
		said{"nodes 0", "nodes"},
		said{"thrice", "thrice "},
		said{"edges", "edges "},
		said{"bridges", "bridges "},
		said{"cuts", "cuts "},
		said{"blocks", "blocks "},
		said{"pairs", "pairs "},
		said{"splits", "splits "},
		said{"whole 0 0", "error 2"},
		said{"twice 0 0", "error 2"},
		said{"ways 0 0", "error 2"},
		said{"add 0 0 1", "error 2"},
		said{"drop 0", "error 7"},
		said{"reload", "reload"},
		said{"thrice", "thrice "},
		said{"nodes 1", "nodes"},
		said{"whole 0 0", "true"},
		said{"twice 0 0", "true"},
		said{"ways 0 0", "error 1"},
		said{"add 0 0 0", "error 1"},
	)
}

// TestReload: behind it the index goes on as it was.
func TestReload(t *testing.T) {
	before := []said{
		{"nodes 6", "nodes"}, {"add 10 0 1", "true"}, {"add 9 1 2", "true"}, {"add 1099511627776 2 0", "false"}, {"add 0 5 2", "true"}, {"add 4 1 5", "false"}, {"drop 4", "drop"},
	}
	after := []said{
		{"edges", "edges 0 2 5, 9 1 2, 10 0 1, 1099511627776 0 2"},
		{"bridges", "bridges 0"},
		{"cuts", "cuts 2"},
		{"thrice", "thrice " + alone(0, 6)},
		{"add 10 3 4", "error 9"},
		{"add 4 3 4", "true"},
		{"add 5 4 6", "error 2"},
		{"drop 4", "drop"},
		{"drop 4", "error 7"},
		{"add 11 5 1", "false"},
		{"bridges", "bridges "},
		{"drop 9", "drop"},
		{"bridges", "bridges "},
		{"drop 0", "drop"},
		{"bridges", "bridges 10 11 1099511627776"},
		{"edges", "edges 10 0 1, 11 1 5, 1099511627776 0 2"},
	}
	talk(t, append(before, after...)...)
	talk(t, append(append(before, said{"reload", "reload"}), after...)...)
	talk(t, append(append(before, said{"reload", "reload"}, said{"reload", "reload"}), after...)...)
	// Behind each line, too.
	both := before
	for _, s := range after {
		both = append(both, said{"reload", "reload"}, s)
	}
	talk(t, both...)
	// Ten nodes, though no line has told so.
	talk(t, said{"reload", "reload"}, said{"thrice", "thrice " + alone(0, 10)}, said{"edges", "edges "})
}

// TestTwice: numbers that are there twice; edges may have the same ends.
func TestTwice(t *testing.T) {
	talk(t,
		said{"add 1 0 1", "true"},
		said{"add 1 0 1", "error 9"},
		said{"add 1 2 3", "error 9"},
		said{"edges", "edges 1 0 1"},
		said{"whole 2 3", "false"},
		said{"add 2 1 0", "false"},
		said{"edges", "edges 1 0 1, 2 0 1"},
		said{"drop 1", "drop"},
		said{"drop 1", "error 7"},
		said{"bridges", "bridges 2"},
		said{"add 1 2 3", "true"},
		said{"edges", "edges 1 2 3, 2 0 1"},
	)
}

// TestApart: what one session did the next one does not see.
func TestApart(t *testing.T) {
	is(t, "nodes 3\nadd 1 0 1\nedges", "nodes\ntrue\nedges 1 0 1\n")
	is(t, "edges\nadd 1 8 9", "edges \ntrue\n")
}
