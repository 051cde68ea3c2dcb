package desk

import (
	"maps"
	"slices"
	"strconv"
	"strings"

	"isthmus/api"
	"isthmus/index"
)

// desk is the index of which the lines of a session tell.
type desk struct{ index *index.Index }

// deed is what a line does, and how many numbers it takes for that.
type deed struct {
	numbers int
	do      func(n []int) string
}

// deeds are all of them, by the first words of their lines.
func (d *desk) deeds() map[string]deed {
	return map[string]deed{
		"add":     {3, d.add},
		"blocks":  {0, d.blocks},
		"bridges": {0, d.bridges},
		"cuts":    {0, d.cuts},
		"drop":    {1, d.drop},
		"edges":   {0, d.edges},
		"help":    {0, d.help},
		"nodes":   {1, d.nodes},
		"pairs":   {0, d.pairs},
		"reload":  {0, d.reload},
		"splits":  {0, d.splits},
		"thrice":  {0, d.thrice},
		"twice":   {2, d.twice},
		"ways":    {2, d.ways},
		"whole":   {2, d.whole},
	}
}

func (d *desk) nodes(n []int) string {
	d.index = sound(index.New(n[0]))
	return "nodes"
}

func (d *desk) add(n []int) string {
	return strconv.FormatBool(sound(d.index.Add(n[0], n[1], n[2])))
}

func (d *desk) whole(n []int) string {
	return strconv.FormatBool(sound(d.index.Whole(n[0], n[1])))
}

func (d *desk) twice(n []int) string {
	return strconv.FormatBool(sound(d.index.Twice(n[0], n[1])))
}

func (d *desk) drop(n []int) string {
	check(d.index.Drop(n[0]))
	return "drop"
}

func (d *desk) ways(n []int) string {
	return row(sound(d.index.ByEdges(n[0], n[1])), sound(d.index.ByNodes(n[0], n[1])))
}

func (d *desk) bridges([]int) string { return behind("bridges", row(d.index.Bridges()...)) }

func (d *desk) cuts([]int) string { return behind("cuts", row(d.index.Cuts()...)) }

func (d *desk) blocks([]int) string { return behind("blocks", rows(d.index.Blocks(), list)) }

func (d *desk) thrice([]int) string { return behind("thrice", rows(d.index.Thrice(), list)) }

func (d *desk) pairs([]int) string { return behind("pairs", rows(d.index.Pairs(), two)) }

func (d *desk) splits([]int) string { return behind("splits", rows(d.index.Splits(), two)) }

func (d *desk) edges([]int) string { return behind("edges", rows(d.index.Edges(), edge)) }

func (d *desk) reload([]int) string {
	d.index = sound(index.Load(d.index.Saved()))
	return "reload"
}

func (d *desk) help([]int) string {
	return strings.Join(slices.Sorted(maps.Keys(d.deeds())), " ")
}

// sound is what a call answers beside an error, which is thrown.
func sound[T any](told T, err error) T {
	check(err)
	return told
}

// check throws an error, if there is one.
func check(err error) {
	if err != nil {
		panic(err)
	}
}

// behind puts what is told behind a word; the blank stands there though nothing may be told.
func behind(word, told string) string { return word + " " + told }

// rows are things, each told as a row of numbers.
func rows[T any](things []T, tell func(T) string) string {
	told := make([]string, 0, len(things))
	for _, thing := range things {
		told = append(told, tell(thing))
	}
	return strings.Join(told, ", ")
}

func list(numbers []int) string { return row(numbers...) }

func two(p api.Pair) string { return row(p.A, p.B) }

func edge(e api.Edge) string { return row(e.Id, e.A, e.B) }

// row are numbers, with blanks between.
func row(numbers ...int) string {
	told := make([]string, 0, len(numbers))
	for _, n := range numbers {
		told = append(told, strconv.Itoa(n))
	}
	return strings.Join(told, " ")
}
