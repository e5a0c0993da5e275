package tests

// The functions of chapter 9 for promise 11: the text is a necklace, the list cuts, the second one signs, names or counts, i a start or a number of cuts, and j a length.

import (
	"math"
	"slices"

	"loop.example/g01160/impl"
)

func hasBeads(a arguments) bool { return areBeads(a.text) }

func hasCuts(a arguments) bool { return hasBeads(a) && areCutsOf(a.text, a.list) }

func hasFairCuts(a arguments) bool { return isHalved(a.text) }

func hasSigns(a arguments) bool {
	isOther := func(sign int) bool { return sign*sign != 1 || sign > 1 }
	return hasBeads(a) && len(a.second) == len(a.text) && !slices.ContainsFunc(a.second, isOther) && (a.text == "" || a.second[0] == 1)
}

func functionsOfChapter9() []totalFunction {
	return []totalFunction{
		{"IsNecklace", func(a arguments) []any { return []any{impl.IsNecklace(a.text)} }, hasBeads},
		{"KindsOfBeads", func(a arguments) []any { return pair(impl.KindsOfBeads(a.text)) }, hasBeads},
		{"CountsOfBeads", func(a arguments) []any { return pair(impl.CountsOfBeads(a.text)) }, hasBeads},
		{"SharesOf", func(a arguments) []any { return pair(impl.SharesOf(a.text, a.list)) }, hasCuts},
		{"IsFairSplit", func(a arguments) []any { return pair(impl.IsFairSplit(a.text, a.list)) }, hasCuts},
		{"FewestCuts", func(a arguments) []any { return pair(impl.FewestCuts(a.text)) }, hasFairCuts},
		{"FirstSplit", func(a arguments) []any { return pair(impl.FirstSplit(a.text)) }, hasFairCuts},
		{"CountSplits", func(a arguments) []any { return pair(impl.CountSplits(a.text, a.i)) },
			func(a arguments) bool { return hasBeads(a) && a.i >= 0 && a.i <= 4 }},
		{"SignsOf", func(a arguments) []any { return pair(impl.SignsOf(a.text, a.list)) }, hasCuts},
		{"CutsOfSigns", func(a arguments) []any { return pair(impl.CutsOfSigns(a.text, a.second)) }, hasSigns},
		{"HalfWindow", func(a arguments) []any { return pair(impl.HalfWindow(a.text)) },
			func(a arguments) bool { return hasHalfWindow(a.text) }},
		{"WindowCounts", func(a arguments) []any { return pair(impl.WindowCounts(a.text, a.i, a.j)) },
			func(a arguments) bool { return hasWindowOf(a.text, a.i, a.j) }},
		{"ReverseBeads", func(a arguments) []any { return pair(impl.ReverseBeads(a.text)) }, hasBeads},
		{"RenameBeads", func(a arguments) []any { return pair(impl.RenameBeads(a.text, a.second)) },
			func(a arguments) bool { return hasBeads(a) && areNamesOf(a.second) }},
		{"SortedBeads", func(a arguments) []any { return pair(impl.SortedBeads(a.second)) },
			func(a arguments) bool { return areCountsOf(a.second) }},
		{"FewestForThree", func(a arguments) []any { return pair(impl.FewestForThree(a.text)) },
			func(a arguments) bool { return isForThree(a.text) }},
	}
}

// necklaceArguments has necklaces, good and bad, with lists and numbers of all kinds.
func necklaceArguments() []arguments {
	next := chance(902)
	names := allNames()
	var all []arguments
	add := func(text string, lists, seconds [][]int) {
		size := len(text)
		numbers := []int{0, 1, 4, 5, -1, size / 2, size - 1, size, size + 1, math.MaxInt, math.MinInt}
		for k := range max(len(lists), len(seconds)) {
			all = append(all, arguments{text: text, list: lists[k%len(lists)], second: seconds[k%len(seconds)], i: numbers[k%11], j: numbers[next(11)]})
		}
	}
	for _, s := range slices.Concat([]string{"", "a", "aa", "abba", "aaabbb", "aabbcc", "aaabbbccc", "abcdabcd"}, longNecklaces()[60:]) {
		size := len(s)
		cuts, _ := oracleSplit(s)
		good := [][]int{nil, cuts, cutsOfBits(2 * next(1<<max(size-1, 0)))}
		signs := [][]int{oracleSigns(s, cuts), oracleSigns(s, good[2])}
		counts := [][]int{{0, 0, 0, 0}, {4, 4, 4, 4}, {0, 16, 0, 0}, oracleCounts(s)}
		few := []int{next(10), 10 + next(10), 20 + next(10)}
		lists, seconds := good, slices.Concat(signs, counts, [][]int{names[next(24)], names[next(24)]})
		for _, k := range few {
			lists = append(lists, badCuts(size)[k])
			seconds = append(seconds, badNames()[k], badCounts()[k], badSigns(size)[k%7])
		}
		add(s, lists, seconds)
	}
	for _, s := range badNecklaces()[:60] {
		add(s, [][]int{nil, {1}}, [][]int{names[0], slices.Repeat([]int{1}, min(len(s), 100))})
	}
	return all
}
