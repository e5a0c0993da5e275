package tests

// The functions of chapter 10 for promise 11: the text is a line or a script. FirstDesk, which takes nothing and never fails, has a test of its own.

import (
	"slices"
	"strings"
	"testing"

	"loop.example/g01160/impl"
)

func hasDesk(a arguments) bool { return isDeskOf(a.desk) }

func hasScript(a arguments) bool { return isScriptText(a.text) }

func functionsOfChapter10() []totalFunction {
	return []totalFunction{
		{"IsDesk", func(a arguments) []any { return []any{impl.IsDesk(a.desk)} }, hasDesk},
		{"DeskLine", func(a arguments) []any { return triple(impl.DeskLine(a.desk, a.text)) },
			func(a arguments) bool { return hasDesk(a) && isLineText(a.text) }},
		{"RunScript", func(a arguments) []any { return pair(impl.RunScript(a.text)) }, hasScript},
		{"DeskAfter", func(a arguments) []any { return pair(impl.DeskAfter(a.text)) }, hasScript},
		{"FailedLines", func(a arguments) []any { return pair(impl.FailedLines(a.text)) }, hasScript},
	}
}

// consoleArguments has desks and lines, good and bad, and scripts of them.
func consoleArguments() []arguments {
	next := chance(1003)
	desks, none, bad := sampleDesks(), badDesks(), badLines()
	var all []arguments
	for k, line := range slices.Concat(manyLines(next), manyLines(next), []string{"", "full\n", "full\nfind", "\n", strings.Repeat("x", 3000), strings.Repeat("x", 3001)}) {
		all = append(all, arguments{text: line, desk: desks[next(len(desks))]}, arguments{text: line, desk: none[(7*k)%len(none)]})
	}
	for k := range 60 {
		all = append(all, arguments{text: bad[next(len(bad))], desk: desks[next(len(desks))]}, arguments{text: scriptOf(chanceLines(next, k%51)...), desk: desks[next(len(desks))]})
	}
	for _, text := range badScripts()[:40] {
		all = append(all, arguments{text: text, desk: desks[next(len(desks))]})
	}
	return all
}

func TestFirstDeskIsNew(t *testing.T) {
	first, second := impl.FirstDesk(), impl.FirstDesk()
	overwrite(first)
	want(t, "FirstDesk", second, true, firstDesk())
	want(t, "FirstDesk", impl.FirstDesk(), true, firstDesk())
	checkSeparate(t, "FirstDesk", [][]int{first.Labels, second.Labels, impl.FirstDesk().Labels})
}

// A desk that was returned is not changed by lines on it, nor by what happens to the desk before it.
func TestDesksAreKept(t *testing.T) {
	for _, line := range append(lineSamples(), "fly", "", "broken", "set 99 0", "set 0 9") {
		before := firstDesk()
		after, _, ok := impl.DeskLine(before, line)
		expected, _ := oracleLine(firstDesk(), line)
		overwrite(before)
		want(t, "the desk behind "+line, after, ok, expected)
		for _, other := range lineSamples() {
			later, _, ok := impl.DeskLine(after, other)
			overwrite(later)
			want(t, "the desk behind "+line, after, ok, expected)
		}
	}
}

// What scripts leave behind is not changed by what happens to it.
func TestScriptsKeepNothing(t *testing.T) {
	for _, s := range []string{"", "full\n", "turn\nset 0 1\n", "labels 1:0/12\nset 2 2\nreverse\n", "set 9 9\nfly\n"} {
		before, _ := impl.DeskAfter(s)
		text, _ := impl.LabelsText(before.Side, before.Labels)
		overwrite(before)
		after, ok := impl.DeskAfter(s)
		want(t, "the labels behind "+s, oracleText(after.Side, after.Labels), ok, text)
	}
}
