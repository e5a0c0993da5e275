package tests

// The functions of chapter 8 for promise 11: n are the items, i how many of them each set has, or a set, j the number of colours, or the other set, and the list colours.

import (
	"math"
	"slices"

	"loop.example/g01160/impl"
)

func hasSets(a arguments) bool { return isKneser(a.n, a.i) }

func hasTwoSets(a arguments) bool { return min(a.i, a.j) >= 0 && max(a.i, a.j) <= 255 }

func hasEnoughColours(a arguments) bool {
	return isColourCount(a.j) && a.j >= oracleFewest(a.n, a.i)
}

func functionsOfChapter8() []totalFunction {
	return []totalFunction{
		{"SetsOf", func(a arguments) []any { return pair(impl.SetsOf(a.n, a.i)) }, hasSets},
		{"CountSets", func(a arguments) []any { return pair(impl.CountSets(a.n, a.i)) }, hasSets},
		{"AreApart", func(a arguments) []any { return pair(impl.AreApart(a.i, a.j)) }, hasTwoSets},
		{"DegreeOfSet", func(a arguments) []any { return pair(impl.DegreeOfSet(a.n, a.i)) }, hasSets},
		{"ColoursOf", func(a arguments) []any { return pair(impl.ColoursOf(a.n, a.i)) }, hasSets},
		{"FewestColours", func(a arguments) []any { return pair(impl.FewestColours(a.n, a.i)) }, hasSets},
		{"IsColouring", func(a arguments) []any { return pair(impl.IsColouring(a.n, a.i, a.list)) }, hasSets},
		{"FirstApart", func(a arguments) []any { return pair(impl.FirstApart(a.n, a.i, a.list)) },
			func(a arguments) bool { return hasSets(a) && oracleFirstApart(oracleSets(a.n, a.i), a.list) != nil }},
		{"ColourWith", func(a arguments) []any { return pair(impl.ColourWith(a.n, a.i, a.j)) },
			func(a arguments) bool { return hasSets(a) && a.n <= 6 && hasEnoughColours(a) }},
		{"MostMeeting", func(a arguments) []any { return pair(impl.MostMeeting(a.n, a.i)) }, hasSets},
		{"MeetingSets", func(a arguments) []any { return pair(impl.MeetingSets(a.n, a.i)) }, hasSets},
		{"StableSets", func(a arguments) []any { return pair(impl.StableSets(a.n, a.i)) }, hasSets},
		{"CountStable", func(a arguments) []any { return pair(impl.CountStable(a.n, a.i)) }, hasSets},
		{"ColourStableWith", func(a arguments) []any { return pair(impl.ColourStableWith(a.n, a.i, a.j)) },
			func(a arguments) bool {
				return hasSets(a) && a.n <= 7 && isColourCount(a.j) && (len(oracleStable(a.n, a.i)) == 0 || hasEnoughColours(a))
			}},
	}
}

// kneserArguments has all sets of some of the items with numbers of colours, good and bad, and with lists of all kinds.
func kneserArguments() []arguments {
	var all []arguments
	allKnesers(func(n, k int) {
		lists := slices.Concat(goodColours(n, k), otherColours(n, k)[:12], misshapenColours(n, k))
		counts := []int{1, 2, 3, 4, 5, 6, 7, 8, 0, 9, -1, 255, 256, math.MaxInt, math.MinInt}
		for i := range max(len(lists), len(counts)) {
			all = append(all, arguments{n: n, i: k, j: counts[i%len(counts)], list: lists[i%len(lists)]})
		}
	})
	next := chance(2700)
	for k, bad := range badKnesers() {
		list := otherColours(1+k%8, 1)[next(12)]
		all = append(all, arguments{n: bad[0], i: bad[1], j: next(10), list: list})
	}
	for _, two := range [][2]int{{0, 0}, {0, 255}, {255, 255}, {85, 170}, {256, 0}, {0, 256}, {-1, 255}, {255, -1}, {math.MinInt, math.MaxInt}} {
		all = append(all, arguments{n: 8, i: two[0], j: two[1]})
	}
	return all
}
