package index_test

import (
	"fmt"
	"slices"
	"strings"
	"testing"

	"isthmus/api"
	"isthmus/index"
)

func TestSaved(t *testing.T) {
	for n, want := range map[int]string{0: "0\n", 1: "1\n", 9: "9\n", 10: "10\n", api.MaxNodes: "40\n"} {
		if got := made(t, n).Saved(); got != want {
			t.Errorf("Saved of %d nodes: %q, want %q", n, got, want)
		}
	}
	x := made(t, 12, api.Edge{Id: 11, A: 10, B: 3}, api.Edge{Id: 2, A: 0, B: 1}, api.Edge{Id: api.MaxId, A: 3, B: 10}, api.Edge{Id: 0, A: 11, B: 0})
	const want = "12\n0 0 11\n2 0 1\n11 3 10\n1099511627776 3 10\n"
	if got := x.Saved(); got != want {
		t.Errorf("Saved: %q, want %q", got, want)
	}
	// It says how the index is now.
	drop(t, x, 2)
	if got := x.Saved(); got != strings.Replace(want, "2 0 1\n", "", 1) {
		t.Errorf("Saved without edge 2: %q", got)
	}
}

// TestLoadGoesOn: an index that was loaded goes on as one that was not, and apart from it.
func TestLoadGoesOn(t *testing.T) {
	edges := append(ring(10, 0, 3), api.Edge{Id: 5, A: 2, B: 3})
	x := made(t, 5, edges...)
	y, err := index.Load(x.Saved())
	if err != nil {
		t.Fatal(err)
	}
	for _, x := range []*index.Index{x, y} {
		add(t, x, 20, 3, 4, true)
		add(t, x, 3, 4, 2, false)
		if is, err := x.Add(5, 0, 4); is || api.Tell(err) != api.ErrTwice {
			t.Errorf("Add of a number that is there: %v, %v", is, err)
		}
		isErr(t, "Add beyond the nodes", addError(x, 6, 0, 5), api.ErrRange)
		isErr(t, "Drop of a number that is not there", x.Drop(4), api.ErrMissing)
		drop(t, x, 11, 3)
		add(t, x, 3, 1, 2, false)
		holds(t, x, 5, append(slices.Delete(slices.Clone(edges), 1, 2), api.Edge{Id: 20, A: 3, B: 4}, api.Edge{Id: 3, A: 1, B: 2}))
	}
	drop(t, y, 3, 10)
	if got := x.Bridges(); !slices.Equal(got, []int{5, 20}) {
		t.Errorf("what went from the one is seen of the other one: %v", got)
	}
}

// addError is what Add answers beside its bool.
func addError(x *index.Index, id, a, b int) error {
	_, err := x.Add(id, a, b)
	return err
}

// TestLoadAllThatThereMayBe: as many nodes and edges as an index may have, by the greatest numbers; and one edge more.
func TestLoadAllThatThereMayBe(t *testing.T) {
	n := api.MaxNodes
	text := fmt.Sprintln(n)
	var edges []api.Edge
	for i := range api.MaxEdges {
		e := api.Edge{Id: api.MaxId - api.MaxEdges + 1 + i, A: i % (n - 1), B: n - 1}
		edges = append(edges, e)
		text += fmt.Sprintln(e.Id, e.A, e.B)
	}
	x, err := index.Load(text)
	if err != nil {
		t.Fatalf("Load: %v", err)
	}
	holds(t, x, n, edges)
	isErr(t, "Add to a loaded one that is full", addError(x, 0, 0, 1), api.ErrFull)
	first, rest, _ := strings.Cut(text, "\n")
	noForm(t, first+"\n0 0 1\n"+rest)
}

// noForm loads a text that Saved of no index tells: it must answer ErrForm without a place (P3), and nothing beside it (P2).
func noForm(t *testing.T, s string) {
	t.Helper()
	x, err := index.Load(s)
	isErr(t, fmt.Sprintf("Load(%.60q)", s), err, api.ErrForm)
	if x != nil {
		t.Errorf("Load(%.60q): an index beside an error", s)
	}
}

// TestLoadWrong: texts that are near those that Saved tells.
func TestLoadWrong(t *testing.T) {
	for _, s := range []string{
		// Nothing, or no number of nodes, or one of another form, or out of range.
		"", "\n", " ", "\n\n", "x\n", "0x3\n", "3.0\n", "+3\n", "03\n", "00\n", "-0\n", "-1\n", "41\n", "100\n", "1_0\n", "18446744073709551617\n", "9223372036854775808\n", "٣\n",
		" 3\n", "3 \n", "3 3\n", "\n3\n", "3\r\n", "3\t\n", "3\x00\n", "\xff\n",
		// A line feed that is missing, or one too many.
		"3", "0", "3\n1 0 1", "3\n1 0 1\n2 0 1", "3\n\n", "3\n1 0 1\n\n", "3\n\n1 0 1\n", "3\n1 0 1\n\n2 0 1\n", "3 1 0 1\n", "3\n1 0 1 2 0 1\n", "3\n1 0\n1\n", "3\n1\n0 1\n", "3\n1\n0\n1\n",
		// Words too many, or too few.
		"3\n1\n", "3\n1 0\n", "3\n1 0 1 2\n", "3\n1 0 1\n2\n", "3\n1 0 1\n2 0\n", "3\n1 0 1\nx\n", "3\n1 0 1x\n", "3\n1 0 x\n", "3\nx 0 1\n", "3\n1 x 1\n", "3\n1 0 1\n1 0", "3\n1 0 1\n ",
		// Blanks too many, or others.
		"3\n 1 0 1\n", "3\n1  0 1\n", "3\n1 0  1\n", "3\n1 0 1 \n", "3\n1\t0 1\n", "3\n1 0\u00a01\n", "3\n1,0,1\n", "3\n1 0 1\n \n", "3\n1 0 1\r\n", "3\r1 0 1\n",
		// A sign, or a nought ahead.
		"3\n+1 0 1\n", "3\n1 +0 1\n", "3\n1 0 +1\n", "3\n-1 0 1\n", "3\n1 -1 1\n", "3\n1 0 -1\n", "3\n-0 0 1\n", "3\n1 -0 1\n", "3\n01 0 1\n", "3\n1 00 1\n", "3\n1 0 01\n", "3\n1_0 0 1\n",
		// Numbers that are there twice, or do not rise.
		"3\n1 0 1\n1 0 1\n", "3\n1 0 1\n1 0 2\n", "3\n2 0 1\n1 0 1\n", "3\n1 0 1\n3 0 1\n2 0 1\n", "3\n9 0 1\n10 0 1\n9 0 1\n", "11\n10 0 1\n9 0 1\n",
		// Ends the other way round, ends that are one.
		"3\n1 1 0\n", "3\n1 2 0\n", "3\n1 0 0\n", "3\n1 2 2\n", "3\n1 0 1\n2 2 1\n",
		// A node or a number out of range.
		"3\n1 0 3\n", "3\n1 3 4\n", "0\n1 0 1\n", "1\n1 0 1\n", "40\n1 0 40\n", "3\n1099511627777 0 1\n", "3\n9223372036854775808 0 1\n", "3\n18446744073709551617 0 1\n", "3\n1 0 18446744073709551617\n",
		// Another order, or other words.
		"1 0 1\n3\n", "nodes 3\n", "3 nodes\n", "3\n1 0 1\n3\n",
	} {
		noForm(t, s)
	}
	noForm(t, strings.Repeat("3\n1 0 1\n", 1000))
	noForm(t, "3\n"+strings.Repeat(" ", 100_000))
	noForm(t, "3\n"+strings.Repeat("0", 100_000)+" 0 1\n")
	noForm(t, strings.Repeat("9", 100_000)+"\n")
}

// TestLoadIsJustWhatSavedTells: a text with one byte more, one less or another one is loaded if Saved tells just that, and is wrong else.
func TestLoadIsJustWhatSavedTells(t *testing.T) {
	text := made(t, 12, api.Edge{Id: 9, A: 1, B: 10}, api.Edge{Id: 10, A: 0, B: 1}, api.Edge{Id: 30, A: 2, B: 11}).Saved()
	try := func(s string) {
		if x, err := index.Load(s); err == nil {
			if got := x.Saved(); got != s {
				t.Errorf("Load(%q): Saved tells %q", s, got)
			}
		} else {
			noForm(t, s)
		}
	}
	for i := range len(text) + 1 {
		try(text[:i])
		for _, c := range " \n-+0123456789x" {
			try(text[:i] + string(c) + text[i:])
			if i < len(text) {
				try(text[:i] + string(c) + text[i+1:])
			}
		}
		if i < len(text) {
			try(text[:i] + text[i+1:])
		}
	}
}

// TestLoadOfWhatIsNear: of one byte's change the right texts are found, too.
func TestLoadOfWhatIsNear(t *testing.T) {
	for s, want := range map[string][]api.Edge{
		"3\n":                    nil,
		"3\n1 0 2\n":             {{Id: 1, A: 0, B: 2}},
		"3\n0 0 2\n":             {{Id: 0, A: 0, B: 2}},
		"3\n1099511627776 1 2\n": {{Id: api.MaxId, A: 1, B: 2}},
		"3\n9 0 1\n10 0 1\n":     {{Id: 9, A: 0, B: 1}, {Id: 10, A: 0, B: 1}},
	} {
		x, err := index.Load(s)
		if err != nil {
			t.Fatalf("Load(%q): %v", s, err)
		}
		holds(t, x, 3, want)
	}
}
