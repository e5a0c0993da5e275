package tests

// Promise 11 for chapter 1: every function accepts all arguments without panicking and modifies none of them.

import (
	"fmt"
	"math"
	"reflect"
	"slices"
	"testing"

	"loop.example/g01160/impl"
)

// arguments are what any function of the chapter takes; each one takes some of them.
type arguments struct {
	n, i, j int
	list    []int
	text    string
}

// functionOfChapter1 has the results of a call, whether it succeeded last, and whether it has to.
type functionOfChapter1 struct {
	name     string
	call     func(a arguments) []any
	succeeds func(a arguments) bool
}

func isSide(n int) bool { return n >= 1 && n <= 8 }

func isPointOf(n, i int) bool { return isSide(n) && i >= 0 && i < (n+1)*(n+2)/2 }

func areLabelsOf(a arguments) bool {
	return isSide(a.n) && len(a.list) == (a.n+1)*(a.n+2)/2 && slices.Min(a.list) >= 0 && slices.Max(a.list) <= 2
}

func hasSide(a arguments) bool { return isSide(a.n) }

func hasPoint(a arguments) bool { return isPointOf(a.n, a.i) }

func pair[A, B any](x A, y B) []any { return []any{x, y} }

func functionsOfChapter1() []functionOfChapter1 {
	return []functionOfChapter1{
		{"CountPoints", func(a arguments) []any { return pair(impl.CountPoints(a.n)) }, hasSide},
		{"PointAt", func(a arguments) []any { return pair(impl.PointAt(a.n, a.i)) }, hasPoint},
		{"IndexOfPoint", func(a arguments) []any { return pair(impl.IndexOfPoint(a.n, a.list)) },
			func(a arguments) bool { return isSide(a.n) && oracleIndex(a.n, a.list...) >= 0 }},
		{"NeighboursOf", func(a arguments) []any { return pair(impl.NeighboursOf(a.n, a.i)) }, hasPoint},
		{"CellsOf", func(a arguments) []any { return pair(impl.CellsOf(a.n)) }, hasSide},
		{"CellsWith", func(a arguments) []any { return pair(impl.CellsWith(a.n, a.i, a.j)) },
			func(a arguments) bool {
				return isPointOf(a.n, a.i) && isPointOf(a.n, a.j) && slices.Contains(oracleNeighbours(a.n, a.i), a.j)
			}},
		{"IsUpCell", func(a arguments) []any { return pair(impl.IsUpCell(a.n, a.i)) },
			func(a arguments) bool { return isSide(a.n) && a.i >= 0 && a.i < a.n*a.n }},
		{"BorderOf", func(a arguments) []any { return pair(impl.BorderOf(a.n)) }, hasSide},
		{"SidesOf", func(a arguments) []any { return pair(impl.SidesOf(a.n, a.i)) }, hasPoint},
		{"AreLabels", func(a arguments) []any { return pair(impl.AreLabels(a.n, a.list)) }, hasSide},
		{"KeepsSides", func(a arguments) []any { return pair(impl.KeepsSides(a.n, a.list)) }, areLabelsOf},
		{"FirstBroken", func(a arguments) []any { return pair(impl.FirstBroken(a.n, a.list)) },
			func(a arguments) bool { return areLabelsOf(a) && oracleBroken(a.n, a.list) >= 0 }},
		{"TurnLabels", func(a arguments) []any { return pair(impl.TurnLabels(a.n, a.list)) }, areLabelsOf},
		{"MirrorLabels", func(a arguments) []any { return pair(impl.MirrorLabels(a.n, a.list)) }, areLabelsOf},
		{"CountKeeping", func(a arguments) []any { return pair(impl.CountKeeping(a.n)) },
			func(a arguments) bool { return isSide(a.n) && a.n <= 7 }},
		{"LabelsText", func(a arguments) []any { return pair(impl.LabelsText(a.n, a.list)) }, areLabelsOf},
		{"ParseLabels", func(a arguments) []any {
			n, labels, ok := impl.ParseLabels(a.text)
			return []any{n, labels, ok}
		}, func(a arguments) bool { return a.text == "2:0/02/112" || a.text == "1:1/11" }},
	}
}

// manyArguments has each side with its edges, good and bad, and with lists of all kinds.
func manyArguments() []arguments {
	texts := []string{"2:0/02/112", "1:1/11", "1:0/13", "", "\xff\xfe", "0:", "9:0/00"}
	var all []arguments
	for n := -2; n <= 11; n++ {
		size := (n + 1) * (n + 2) / 2
		lists := [][]int{nil, {}, {n, 0, 0}, {0, 0, n}, {1, n - 1, 0}, {n + 1, -1, 0}, {math.MaxInt, math.MaxInt, n + 2}}
		if isSide(n) {
			lists = append(lists, badLists(n)...)
			lists = append(lists, sampleLabels(n)[:6]...)
		}
		numbers := []int{0, 1, 2, size / 2, size - 1, size, -1, n*n - 1, n * n, math.MaxInt, math.MinInt}
		for k := range max(len(lists), len(numbers)*len(numbers)) {
			all = append(all, arguments{n, numbers[k%len(numbers)], numbers[k/len(numbers)%len(numbers)], lists[k%len(lists)], texts[k%len(texts)]})
		}
	}
	for _, n := range badSides {
		for _, list := range [][]int{nil, {0, 1, 2}, {n, 0, 0}} {
			all = append(all, arguments{n, 0, 1, list, ""}, arguments{n, n, n, list, ""})
		}
	}
	return all
}

// resultsOf fails the test at a panic instead of ending all tests.
func resultsOf(t *testing.T, f functionOfChapter1, a arguments) (results []any) {
	t.Helper()
	defer func() {
		if r := recover(); r != nil {
			t.Errorf("%s of %v panics: %v", f.name, a, r)
		}
	}()
	return f.call(a)
}

func TestChapter1IsTotal(t *testing.T) {
	for _, f := range functionsOfChapter1() {
		failed, succeeded := 0, 0
		for _, a := range manyArguments() {
			results := resultsOf(t, f, a)
			if results == nil {
				continue
			}
			last := len(results) - 1
			what := fmt.Sprintf("%s of %v", f.name, a)
			if f.succeeds(a) {
				succeeded++
				if results[last] != true {
					t.Errorf("%s fails", what)
				}
				continue
			}
			failed++
			wantFailure(t, what, results[last].(bool), results[:last]...)
		}
		if failed == 0 || succeeded == 0 {
			t.Errorf("%s: %d calls had to fail, %d to succeed", f.name, failed, succeeded)
		}
	}
}

func TestChapter1ReadsNoSpareCapacity(t *testing.T) {
	for n := 1; n <= impl.MaxSide; n++ {
		whole := sampleLabels(n)[4]
		short := whole[:len(whole)-1]
		are, ok := impl.AreLabels(n, short)
		want(t, "AreLabels", are, ok, false)
		turned, ok := impl.TurnLabels(n, short)
		wantFailure(t, "TurnLabels", ok, turned)
		text, ok := impl.LabelsText(n, short)
		wantFailure(t, "LabelsText", ok, text)
	}
	point := []int{1, 1, 0}
	index, ok := impl.IndexOfPoint(2, point[:2])
	wantFailure(t, "IndexOfPoint", ok, index)
}

func TestChapter1ModifiesNothing(t *testing.T) {
	for _, f := range functionsOfChapter1() {
		for _, a := range manyArguments() {
			memory := append(slices.Clone(a.list), 71, 72, 73, 74)
			before := slices.Clone(memory)
			if a.list != nil {
				a.list = memory[:len(a.list)]
			}
			results := resultsOf(t, f, a)
			if !slices.Equal(memory, before) {
				t.Fatalf("%s modifies its argument", f.name)
			}
			for _, r := range results {
				overwrite(r)
			}
			if !slices.Equal(memory, before) {
				t.Fatalf("%s returns memory of its argument", f.name)
			}
		}
	}
}

// overwrite fills a result with numbers that none has, its spare capacity too.
func overwrite(result any) {
	switch r := result.(type) {
	case []int:
		r = r[:cap(r)]
		for k := range r {
			r[k] = 99
		}
	case [][]int:
		r = r[:cap(r)]
		for k := range r {
			overwrite(r[k])
			r[k] = nil
		}
	}
}

func TestChapter1ResultsAreNew(t *testing.T) {
	for _, f := range functionsOfChapter1() {
		for _, a := range manyArguments() {
			expected := fmt.Sprint(resultsOf(t, f, a)...)
			first, second := resultsOf(t, f, a), resultsOf(t, f, a)
			for _, r := range first {
				overwrite(r)
			}
			if fmt.Sprint(second...) != expected {
				t.Fatalf("%s: two results share memory", f.name)
			}
			if fmt.Sprint(resultsOf(t, f, a)...) != expected {
				t.Fatalf("%s gives out memory that it uses again", f.name)
			}
		}
	}
}

func TestCellsShareNoMemory(t *testing.T) {
	for n := 1; n <= impl.MaxSide; n++ {
		expected := oracleCells(n)
		for k := range expected {
			cells, _ := impl.CellsOf(n)
			overwrite(cells[k])
			cells[k] = expected[k]
			if !reflect.DeepEqual(cells, expected) {
				t.Fatalf("the cell %d of side %d shares memory with another one", k, n)
			}
		}
	}
}
