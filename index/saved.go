package index

import (
	"iter"
	"strconv"
	"strings"

	"isthmus/api"
)

// Saved is the graph as a text: how many nodes, then of each edge its number, and both ends; a line each.
func (x *Index) Saved() string {
	text := line(nil, x.graph.Nodes())
	for _, e := range x.graph.Edges() {
		text = line(text, e.Id, e.A, e.B)
	}
	return string(text)
}

// Load is the index of which Saved tells just that. ErrForm.
func Load(s string) (*Index, error) {
	x, err := read(s)
	// Reading is not strict: a text that is written in any other way than Saved's is found out here.
	if err != nil || x.Saved() != s {
		return nil, api.ErrForm
	}
	return x, nil
}

// line puts numbers behind a text, with blanks between, and a line feed.
func line(text []byte, numbers ...int) []byte {
	for i, n := range numbers {
		if i > 0 {
			text = append(text, ' ')
		}
		text = strconv.AppendInt(text, int64(n), 10)
	}
	return append(text, '\n')
}

// read is the index whose numbers a text has in Saved's order, whatever stands between them.
func read(s string) (*Index, error) {
	head, rest, _ := strings.Cut(s, "\n")
	n, err := strconv.Atoi(head)
	if err != nil {
		return nil, err
	}
	x, err := New(n)
	if err != nil {
		return nil, err
	}
	var edge []int
	for word := range words(rest) {
		n, err := strconv.Atoi(word)
		if err != nil {
			return nil, err
		}
		if edge = append(edge, n); len(edge) < 3 {
			continue
		}
		if _, err := x.Add(edge[0], edge[1], edge[2]); err != nil {
			return nil, err
		}
		edge = nil
	}
	return x, nil
}

// words goes through a text's words, each of which ends at a blank or a line feed.
func words(s string) iter.Seq[string] {
	return func(yield func(string) bool) {
		from := 0
		for to := range len(s) {
			if s[to] != ' ' && s[to] != '\n' {
				continue
			}
			if !yield(s[from:to]) {
				return
			}
			from = to + 1
		}
	}
}
