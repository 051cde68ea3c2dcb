package many_test

import (
	"fmt"
	"math"
	"slices"
	"strings"
	"testing"

	"isthmus/api"
	"isthmus/desk"
	"isthmus/many"
	"isthmus/plain"
)

const mostTexts, mostWorkers = 50, 16

// sessions are texts, no two of them alike, and what each is to be answered. The first ones take the longest: who begins first is not done first.
func sessions(n int) (texts, answers []string) {
	for i := range n {
		text, answer := "nodes 30\n", "nodes\n"
		for j := range n - i {
			text += fmt.Sprintf("add %d %d %d\n", 100*i+j, j%29, j%29+1)
			answer += fmt.Sprintln(j < 29)
		}
		texts = append(texts, text+"splits\nwhole 0 1")
		answers = append(answers, answer+"splits \ntrue\n")
	}
	return texts, answers
}

// answered holds what All answers against what it is to answer.
func answered(t *testing.T, texts []string, workers int, want []string) {
	t.Helper()
	got, err := many.All(texts, workers)
	if err != nil {
		t.Fatalf("All of %d texts, %d workers: %v", len(texts), workers, err)
	}
	if len(got) != len(want) {
		t.Fatalf("All of %d texts, %d workers: %d answers", len(texts), workers, len(got))
	}
	for i := range want {
		if got[i] != want[i] {
			t.Fatalf("All of %d texts, %d workers: answer %d is %.200q, want %.200q", len(texts), workers, i, got[i], want[i])
		}
	}
}

// TestAll: a session each, apart from one another, in order.
func TestAll(t *testing.T) {
	texts := []string{
		"nodes 3\nadd 1 0 1\nadd 2 1 2\nbridges",
		"edges\nadd 1 0 1\nedges\n",
		"",
		"\n\n",
		strings.Repeat("x", api.MaxText+1),
		"add 1 0 1\nadd 1 0 1\nx",
		"edges\nadd 1 0 1\nedges\n",
		strings.Repeat(" ", api.MaxText),
	}
	want := []string{
		"nodes\ntrue\ntrue\nbridges 1 2\n",
		"edges \ntrue\nedges 1 0 1\n",
		"ok\n",
		"ok\nok\n",
		"error 4\n",
		"true\nerror 9\nerror 3\n",
		"edges \ntrue\nedges 1 0 1\n",
		"ok\n",
	}
	for workers := 1; workers <= mostWorkers; workers++ {
		answered(t, texts, workers, want)
	}
}

// TestWorkersMakeNoDifference: no texts, one, some, and as many as there may be, of each number of workers: fewer than texts, as many, more.
func TestWorkersMakeNoDifference(t *testing.T) {
	for _, n := range []int{0, 1, 2, 3, 15, 16, 17, 49, mostTexts} {
		texts, _ := sessions(n)
		var want []string
		for _, text := range texts {
			want = append(want, desk.Session(text))
		}
		for workers := 1; workers <= mostWorkers; workers++ {
			answered(t, texts, workers, want)
		}
	}
	answered(t, nil, 1, nil)
	answered(t, nil, mostWorkers, nil)
	answered(t, []string{}, 7, nil)
}

// TestAgain: the same texts are answered the same, however often they are asked.
func TestAgain(t *testing.T) {
	texts, want := sessions(20)
	for range 20 {
		answered(t, texts, 8, want)
	}
}

// TestLimit: too many texts, too few workers, too many of them: ErrLimit without a place (P3), and nothing beside it (P2).
func TestLimit(t *testing.T) {
	for _, c := range []struct{ texts, workers int }{
		{mostTexts + 1, 1}, {mostTexts + 1, mostWorkers}, {mostTexts + 2, 8}, {1000, 3},
		{0, 0}, {1, 0}, {mostTexts, 0}, {0, -1}, {3, -1}, {3, math.MinInt},
		{0, mostWorkers + 1}, {3, mostWorkers + 1}, {mostTexts, mostWorkers + 1}, {3, math.MaxInt},
		{mostTexts + 1, 0}, {mostTexts + 1, mostWorkers + 1},
	} {
		got, err := many.All(make([]string, c.texts), c.workers)
		if e, bare := plain.Bare(err); e != api.ErrLimit || !bare || got != nil {
			t.Errorf("All of %d texts, %d workers: %d answers, %v, want ErrLimit alone", c.texts, c.workers, len(got), err)
		}
	}
}

// TestTextsStay: the list of texts is not written into, nor what stands behind its length, nor kept; the answers are the caller's (P4).
func TestTextsStay(t *testing.T) {
	texts, want := sessions(12)
	before := slices.Clone(texts)
	got, err := many.All(texts[:9], 4)
	if err != nil || !slices.Equal(got, want[:9]) {
		t.Fatalf("All: %v, %.80q", err, got)
	}
	for i := range got {
		got[i] = "spoilt"
	}
	if got = append(got, "spoilt"); !slices.Equal(texts, before) {
		t.Errorf("the texts are %.80q, were %.80q", texts, before)
	}
	again, err := many.All(texts[:9], 4)
	if err != nil || !slices.Equal(again, want[:9]) {
		t.Errorf("All again: %v, %.80q", err, again)
	}
	for i := range texts {
		texts[i] = "cuts"
	}
	if !slices.Equal(again, want[:9]) || !slices.Equal(got, slices.Repeat([]string{"spoilt"}, 10)) {
		t.Errorf("other texts, or another call, are seen in answers: %.80q, %.80q", again, got)
	}
	answered(t, texts[:2], 1, []string{"cuts \n", "cuts \n"})
}
