package tests

// Promise 11: every function accepts all arguments without panicking and modifies none of them.

import (
	"fmt"
	"math"
	"slices"
	"testing"

	"loop.example/g01160/impl"
)

// arguments are what any function takes; each one takes some of them.
type arguments struct {
	n, i, j      int
	list, second []int
	rows         [][]int
	game         impl.Game
	desk         impl.Desk
	text         string
}

// totalFunction has the results of a call, whether it succeeded last, and whether it has to.
type totalFunction struct {
	name     string
	call     func(a arguments) []any
	succeeds func(a arguments) bool
}

func totalFunctions() []totalFunction {
	return slices.Concat(functionsOfChapter1(), functionsOfChapter2(), functionsOfChapter3(), functionsOfChapter4(), functionsOfChapter5(), functionsOfChapter6(), functionsOfChapter7(), functionsOfChapter8(), functionsOfChapter9(), functionsOfChapter10())
}

func isSide(n int) bool { return n >= 1 && n <= 8 }

func isPointOf(n, i int) bool { return isSide(n) && i >= 0 && i < (n+1)*(n+2)/2 }

func isCellOf(n, cell int) bool { return isSide(n) && cell >= 0 && cell < n*n }

func areNeighboursOf(n, i, j int) bool {
	return isPointOf(n, i) && isPointOf(n, j) && slices.Contains(oracleNeighbours(n, i), j)
}

func areLabelsOf(a arguments) bool {
	return isSide(a.n) && len(a.list) == (a.n+1)*(a.n+2)/2 && slices.Min(a.list) >= 0 && slices.Max(a.list) <= 2
}

func hasSide(a arguments) bool { return isSide(a.n) }

func hasPoint(a arguments) bool { return isPointOf(a.n, a.i) }

func pair[A, B any](x A, y B) []any { return []any{x, y} }

func triple[A, B, C any](x A, y B, z C) []any { return []any{x, y, z} }

func quadruple[A, B, C, D any](w A, x B, y C, z D) []any { return []any{w, x, y, z} }

func manyArguments() []arguments {
	return slices.Concat(triangleArguments(), boardArguments(), squareArguments(), sharedArguments(), mappedArguments(), gameArguments(), kneserArguments(), necklaceArguments(), consoleArguments())
}

// triangleArguments has each side with its edges, good and bad, and with lists of all kinds.
func triangleArguments() []arguments {
	texts := []string{"2:0/02/112", "1:1/11", "1:0/13", "", "\xff\xfe", "0:", "9:0/00"}
	var all []arguments
	for n := -2; n <= 11; n++ {
		size := (n + 1) * (n + 2) / 2
		lists := [][]int{nil, {}, {n, 0, 0}, {0, 0, n}, {1, n - 1, 0}, {n + 1, -1, 0}, {math.MaxInt, math.MaxInt, n + 2}}
		if isSide(n) {
			lists = append(lists, badLists(n)...)
			for _, labels := range slices.Concat(sampleLabels(n)[:8], doorLabels(n)) {
				lists = append(lists, labels, labels[:size-1])
			}
		}
		numbers := []int{0, 1, 2, size / 2, size - 1, size, -1, n*n - 1, n * n, math.MaxInt, math.MinInt}
		state := uint32(n + 100)
		next := func() int {
			state = state*1664525 + 1013904223
			return numbers[int(state>>16)%len(numbers)]
		}
		for k := range 500 {
			all = append(all, arguments{n: n, i: next(), j: next(), list: lists[k%len(lists)], text: texts[k%len(texts)]})
		}
	}
	for _, n := range badSides {
		for _, list := range [][]int{nil, {0, 1, 2}, {n, 0, 0}} {
			all = append(all, arguments{n: n, i: 0, j: 1, list: list}, arguments{n: n, i: n, j: n, list: list})
		}
	}
	return all
}

// resultsOf fails the test at a panic instead of ending all tests.
func resultsOf(t *testing.T, f totalFunction, a arguments) (results []any) {
	t.Helper()
	defer func() {
		if r := recover(); r != nil {
			t.Errorf("%s of %v panics: %v", f.name, a, r)
		}
	}()
	return f.call(a)
}

func TestFunctionsAreTotal(t *testing.T) {
	all := manyArguments()
	for _, f := range totalFunctions() {
		failed, succeeded := 0, 0
		for _, a := range all {
			results := resultsOf(t, f, a)
			if results == nil {
				continue
			}
			last := len(results) - 1
			if f.succeeds(a) {
				succeeded++
				if results[last] != true {
					t.Errorf("%s of %v fails", f.name, a)
				}
				continue
			}
			failed++
			wantFailure(t, fmt.Sprintf("%s of %v", f.name, a), results[last].(bool), results[:last]...)
		}
		if failed == 0 || succeeded == 0 {
			t.Errorf("%s: %d calls had to fail, %d to succeed", f.name, failed, succeeded)
		}
	}
}

// memory is all that lies behind the lists of arguments: the numbers of each list and of each row, and for rows what tells where they are.
type memory struct {
	numbers [][]int
	places  [][][]int
}

// spacious has numbers behind the end of the list, which nobody may look at.
func (m *memory) spacious(list []int) []int {
	wide := append(slices.Clone(list), 1, 0, 2, 1)
	m.numbers = append(m.numbers, wide)
	if list == nil {
		return nil
	}
	return wide[:len(list)]
}

// spaciousRows has numbers behind the end of each row, and one more row behind the last one.
func (m *memory) spaciousRows(rows [][]int) [][]int {
	var wide [][]int
	for _, row := range rows {
		wide = append(wide, m.spacious(row))
	}
	wide = append(wide, m.spacious([]int{1, 0, 2}))
	m.places = append(m.places, wide)
	if rows == nil {
		return nil
	}
	return wide[:len(rows)]
}

func withRoom(a arguments) (arguments, memory) {
	var m memory
	a.list = m.spacious(a.list)
	a.second = m.spacious(a.second)
	a.rows = m.spaciousRows(a.rows)
	a.game = impl.Game{Rows: m.spaciousRows(a.game.Rows), Columns: m.spaciousRows(a.game.Columns)}
	a.desk.Labels = m.spacious(a.desk.Labels)
	return a, m
}

func (m memory) copied() memory {
	var other memory
	for _, numbers := range m.numbers {
		other.numbers = append(other.numbers, slices.Clone(numbers))
	}
	for _, places := range m.places {
		other.places = append(other.places, slices.Clone(places))
	}
	return other
}

func isSameList(a, b []int) bool {
	return len(a) == len(b) && (len(a) == 0 || &a[0] == &b[0])
}

func areSameRows(a, b [][]int) bool { return slices.EqualFunc(a, b, isSameList) }

func (m memory) equals(other memory) bool {
	return slices.EqualFunc(m.numbers, other.numbers, slices.Equal[[]int]) && slices.EqualFunc(m.places, other.places, areSameRows)
}

func clippedRows(rows [][]int) [][]int {
	rows = slices.Clip(slices.Clone(rows))
	for k, row := range rows {
		rows[k] = slices.Clip(slices.Clone(row))
	}
	return rows
}

func withoutRoom(a arguments) arguments {
	a.list = slices.Clip(slices.Clone(a.list))
	a.second = slices.Clip(slices.Clone(a.second))
	a.rows = clippedRows(a.rows)
	a.game = impl.Game{Rows: clippedRows(a.game.Rows), Columns: clippedRows(a.game.Columns)}
	a.desk.Labels = slices.Clip(slices.Clone(a.desk.Labels))
	return a
}

func TestSpareCapacityIsNotRead(t *testing.T) {
	functions := totalFunctions()
	for _, a := range manyArguments() {
		clipped := withoutRoom(a)
		wide, _ := withRoom(a)
		for _, f := range functions {
			if fmt.Sprint(resultsOf(t, f, clipped)...) != fmt.Sprint(resultsOf(t, f, wide)...) {
				t.Fatalf("%s of %v reads what is behind the end of its argument", f.name, a)
			}
		}
	}
}

func TestArgumentsAreKept(t *testing.T) {
	functions := totalFunctions()
	for _, a := range manyArguments() {
		roomy, memory := withRoom(a)
		before := memory.copied()
		for _, f := range functions {
			results := resultsOf(t, f, roomy)
			if !memory.equals(before) {
				t.Fatalf("%s modifies its argument", f.name)
			}
			for _, r := range results {
				overwrite(r)
			}
			if !memory.equals(before) {
				t.Fatalf("%s returns memory of its argument", f.name)
			}
		}
	}
}

// overwrite fills a result with numbers that none has, its spare capacity too.
func overwrite(result any) {
	switch r := result.(type) {
	case []int:
		r = r[:cap(r)]
		for k := range r {
			r[k] = 99
		}
	case [][]int:
		r = r[:cap(r)]
		for k := range r {
			overwrite(r[k])
			r[k] = nil
		}
	case []string:
		r = r[:cap(r)]
		for k := range r {
			r[k] = "overwritten"
		}
	case impl.Game:
		overwrite(r.Rows)
		overwrite(r.Columns)
	case impl.Desk:
		overwrite(r.Labels)
	}
}

func TestResultsAreNew(t *testing.T) {
	all := manyArguments()
	for _, f := range totalFunctions() {
		for _, a := range all {
			expected := fmt.Sprint(resultsOf(t, f, a)...)
			first, second := resultsOf(t, f, a), resultsOf(t, f, a)
			for _, r := range first {
				overwrite(r)
			}
			if fmt.Sprint(second...) != expected {
				t.Fatalf("%s: two results share memory", f.name)
			}
			if fmt.Sprint(resultsOf(t, f, a)...) != expected {
				t.Fatalf("%s gives out memory that it uses again", f.name)
			}
		}
	}
}

func TestListsOfAResultShareNoMemory(t *testing.T) {
	checked := 0
	all := manyArguments()
	for _, f := range totalFunctions() {
		for _, a := range all {
			if lists := listsIn(resultsOf(t, f, a)); len(lists) > 1 {
				checked++
				checkSeparate(t, f.name, lists)
			}
		}
	}
	if checked == 0 {
		t.Error("no result has two lists")
	}
}

// listsIn are the lists of numbers among the results and in their lists.
func listsIn(results []any) [][]int {
	var lists [][]int
	for _, result := range results {
		switch r := result.(type) {
		case []int:
			lists = append(lists, r)
		case [][]int:
			lists = append(lists, r...)
		case impl.Game:
			lists = slices.Concat(lists, r.Rows, r.Columns)
		case impl.Desk:
			lists = append(lists, r.Labels)
		}
	}
	return lists
}

// checkSeparate marks each list with its own number: shared memory would keep the last mark only.
func checkSeparate(t *testing.T, what string, lists [][]int) {
	t.Helper()
	for k, list := range lists {
		list = list[:cap(list)]
		for i := range list {
			list[i] = k
		}
	}
	for k, list := range lists {
		list = list[:cap(list)]
		if len(list) > 0 && (slices.Min(list) != k || slices.Max(list) != k) {
			t.Fatalf("%s: the list %d of its result shares memory with another one", what, k)
		}
	}
}

func TestShortLabelsFail(t *testing.T) {
	for n := 1; n <= impl.MaxSide; n++ {
		whole := sampleLabels(n)[4]
		short := whole[:len(whole)-1]
		are, ok := impl.AreLabels(n, short)
		want(t, "AreLabels", are, ok, false)
		turned, ok := impl.TurnLabels(n, short)
		wantFailure(t, "TurnLabels", ok, turned)
		text, ok := impl.LabelsText(n, short)
		wantFailure(t, "LabelsText", ok, text)
		degree, ok := impl.DegreeOf(n, short)
		wantFailure(t, "DegreeOf", ok, degree)
	}
	point := []int{1, 1, 0}
	index, ok := impl.IndexOfPoint(2, point[:2])
	wantFailure(t, "IndexOfPoint", ok, index)
}
