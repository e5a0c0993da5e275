package tests

// What chapter 8 says, computed anew: sets as lists of their items, least numbers of colours and greatest numbers of sets that meet by searches that know nothing of the chapter's formulas, first colourings by asking before each colour whether the others can follow.

import (
	"cmp"
	"math"
	"slices"
)

func isKneser(n, k int) bool { return n >= 1 && n <= 8 && k >= 1 && k <= n }

func isColourCount(count int) bool { return count >= 1 && count <= 8 }

func allKnesers(do func(n, k int)) {
	for n := 1; n <= 8; n++ {
		for k := 1; k <= n; k++ {
			do(n, k)
		}
	}
}

// oracleChoices is how many choices of k of n things there are: with the last thing, and without it.
func oracleChoices(n, k int) int {
	if k < 0 || k > n {
		return 0
	}
	if n == 0 {
		return 1
	}
	return oracleChoices(n-1, k-1) + oracleChoices(n-1, k)
}

// itemLists are all increasing lists of k of the items from the least one on.
func itemLists(least, n, k int) [][]int {
	if k == 0 {
		return [][]int{nil}
	}
	var lists [][]int
	for item := least; item < n; item++ {
		for _, rest := range itemLists(item+1, n, k-1) {
			lists = append(lists, append([]int{item}, rest...))
		}
	}
	return lists
}

func setNumber(items []int) int {
	number := 0
	for _, item := range items {
		power := 1
		for range item {
			power *= 2
		}
		number += power
	}
	return number
}

func setNumbers(sets [][]int) []int {
	var numbers []int
	for _, items := range sets {
		numbers = append(numbers, setNumber(items))
	}
	return numbers
}

func oracleSets(n, k int) [][]int {
	sets := itemLists(0, n, k)
	slices.SortFunc(sets, func(a, b []int) int { return cmp.Compare(setNumber(a), setNumber(b)) })
	return sets
}

func areApartLists(a, b []int) bool {
	return !slices.ContainsFunc(a, func(item int) bool { return slices.Contains(b, item) })
}

// oracleStable takes each two of the items of a set, the one that is told first the lesser one.
func oracleStable(n, k int) [][]int {
	var stable [][]int
	for _, items := range oracleSets(n, k) {
		near := 0
		for i, item := range items {
			for _, other := range items[i+1:] {
				if other == item+1 || item == 0 && other == n-1 {
					near++
				}
			}
		}
		if near == 0 {
			stable = append(stable, items)
		}
	}
	return stable
}

// apartness tells of each set which ones are apart from it.
func apartness(sets [][]int) [][]int {
	apart := make([][]int, len(sets))
	for i, a := range sets {
		for j, b := range sets {
			if areApartLists(a, b) {
				apart[i] = append(apart[i], j)
			}
		}
	}
	return apart
}

// oracleClash is the first two places that are apart and have equal colours, or nil.
func oracleClash(sets [][]int, colours []int) []int {
	for i, near := range apartness(sets) {
		for _, j := range near {
			if colours[i] == colours[j] {
				return []int{i, j}
			}
		}
	}
	return nil
}

func oracleIsColouring(sets [][]int, colours []int) bool {
	return len(colours) == len(sets) && slices.Min(colours) >= 0 && oracleClash(sets, colours) == nil
}

// oracleFirstApart is nil if there are none, or if the list is none.
func oracleFirstApart(sets [][]int, colours []int) []int {
	if len(colours) != len(sets) {
		return nil
	}
	var two []int
	for _, i := range oracleClash(sets, colours) {
		two = append(two, setNumber(sets[i]))
	}
	return two
}

func freeColours(near, colours []int, count int) []int {
	var free []int
	for colour := range count {
		if !slices.ContainsFunc(near, func(j int) bool { return colours[j] == colour }) {
			free = append(free, colour)
		}
	}
	return free
}

// canBeColoured tells whether the sets with the colour -1 can get colours: the one with the fewest that are left for it comes first, and of colours that nobody has one is tried for all.
func canBeColoured(apart [][]int, colours []int, count int) bool {
	least, free := -1, []int{}
	for i, colour := range colours {
		if colour >= 0 {
			continue
		}
		if left := freeColours(apart[i], colours, count); least < 0 || len(left) < len(free) {
			least, free = i, left
		}
	}
	if least < 0 {
		return true
	}
	triedNew := false
	for _, colour := range free {
		if isNew := !slices.Contains(colours, colour); isNew && triedNew {
			continue
		} else if isNew {
			triedNew = true
		}
		more := slices.Clone(colours)
		more[least] = colour
		if canBeColoured(apart, more, count) {
			return true
		}
	}
	return false
}

func withoutColours(sets [][]int) []int { return slices.Repeat([]int{-1}, len(sets)) }

// oracleFirstColours fails if there are no such colours.
func oracleFirstColours(sets [][]int, count int) ([]int, bool) {
	apart, colours := apartness(sets), withoutColours(sets)
	for i := range colours {
		free := freeColours(apart[i], colours, count)
		first := slices.IndexFunc(free, func(colour int) bool {
			colours[i] = colour
			return canBeColoured(apart, colours, count)
		})
		if first < 0 {
			return nil, false
		}
	}
	return colours, true
}

// fewestFound are kept from call to call, as the searches take long.
var fewestFound = map[[2]int]int{}

func oracleFewest(n, k int) int {
	if count, found := fewestFound[[2]int{n, k}]; found {
		return count
	}
	sets := oracleSets(n, k)
	apart, count := apartness(sets), 1
	for !canBeColoured(apart, withoutColours(sets), count) {
		count++
	}
	fewestFound[[2]int{n, k}] = count
	return count
}

// mostMeeting takes the set that is apart from most of those left: it is one of the sets that meet, so that none of these is, or it is not.
func mostMeeting(apart [][]int, left []int) int {
	worst, most := -1, 0
	for _, i := range left {
		count := 0
		for _, j := range apart[i] {
			if slices.Contains(left, j) {
				count++
			}
		}
		if count > most {
			worst, most = i, count
		}
	}
	if worst < 0 {
		return len(left)
	}
	without := slices.DeleteFunc(slices.Clone(left), func(i int) bool { return i == worst })
	if most == 1 {
		return mostMeeting(apart, without)
	}
	with := slices.DeleteFunc(slices.Clone(without), func(i int) bool { return slices.Contains(apart[worst], i) })
	return max(1+mostMeeting(apart, with), mostMeeting(apart, without))
}

func oracleMost(n, k int) int {
	sets := oracleSets(n, k)
	all := make([]int, len(sets))
	for i := range all {
		all[i] = i
	}
	return mostMeeting(apartness(sets), all)
}

// oracleMeeting are the sets with the item 0, or all if no two of them are apart.
func oracleMeeting(n, k int) [][]int {
	sets := oracleSets(n, k)
	if slices.ContainsFunc(apartness(sets), func(near []int) bool { return len(near) > 0 }) {
		return slices.DeleteFunc(sets, func(items []int) bool { return !slices.Contains(items, 0) })
	}
	return sets
}

// oracleToldColours are those that ColoursOf promises.
func oracleToldColours(n, k int) []int {
	var colours []int
	for _, items := range oracleSets(n, k) {
		colour := slices.Min(items)
		if n-2*k+1 < colour {
			colour = n - 2*k + 1
		}
		if 2*k > n {
			colour = 0
		}
		colours = append(colours, colour)
	}
	return colours
}

// allColourLists calls do with each list of numbers in least..greatest, in lexicographic order, until it returns false; do must not keep the list.
func allColourLists(length, least, greatest int, do func([]int) bool) {
	list := slices.Repeat([]int{least}, length)
	for do(list) {
		i := length - 1
		for i >= 0 && list[i] == greatest {
			list[i] = least
			i--
		}
		if i < 0 {
			return
		}
		list[i]++
	}
}

// goodColours are colourings of the sets.
func goodColours(n, k int) [][]int {
	told := oracleToldColours(n, k)
	lists := [][]int{told}
	first, _ := oracleFirstColours(oracleSets(n, k), oracleFewest(n, k))
	different, great, spread := make([]int, len(told)), make([]int, len(told)), make([]int, len(told))
	for i, colour := range told {
		different[i] = len(told) - 1 - i
		great[i] = math.MaxInt - colour
		spread[i] = colour << 32
	}
	return append(lists, first, different, great, spread)
}

// otherColours have one number for each set, and are no colourings, or only by chance.
func otherColours(n, k int) [][]int {
	size := oracleChoices(n, k)
	var lists [][]int
	for _, number := range []int{0, 1, 1 << 32, math.MaxInt, -1, math.MinInt} {
		lists = append(lists, slices.Repeat([]int{number}, size))
	}
	next := chance(100*n + k)
	for _, colours := range goodColours(n, k) {
		for _, number := range []int{-1, colours[next(size)], math.MinInt} {
			other := slices.Clone(colours)
			other[next(size)] = number
			lists = append(lists, other)
		}
	}
	for _, below := range []int{2, 3, 5, 8, 30} {
		for range 4 {
			list := make([]int, size)
			for i := range list {
				list[i] = next(below)
			}
			lists = append(lists, list)
		}
	}
	return lists
}

// misshapenColours have too few or too many numbers.
func misshapenColours(n, k int) [][]int {
	told := oracleToldColours(n, k)
	lists := [][]int{nil, {}, told[:len(told)-1], told[1:], append(slices.Clone(told), 0), append([]int{7}, told...), append(slices.Clone(told), told...), make([]int, 1000)}
	return slices.DeleteFunc(lists, func(list []int) bool { return len(list) == len(told) })
}

// badKnesers are numbers of items and of those of each set that there are not.
func badKnesers() [][2]int {
	var bad [][2]int
	for _, n := range []int{0, -1, -2, -8, 9, 10, 16, 62, 63, 64, 65, 100, 1 << 32, 1<<32 + 5, -1 << 32, math.MaxInt, math.MaxInt - 1, math.MinInt, math.MinInt + 1, math.MinInt + 5} {
		for _, k := range []int{1, 2, 0, -1, n, n - 1, n + 1, n / 2, math.MaxInt, math.MinInt} {
			bad = append(bad, [2]int{n, k})
		}
	}
	for n := 1; n <= 8; n++ {
		for _, k := range []int{0, -1, -2, -n, n + 1, n + 2, 2 * n, 9, 64, 1 << 32, 1<<32 + 1, -1<<32 + 1, math.MaxInt, math.MinInt, math.MinInt + 1, math.MinInt + n} {
			bad = append(bad, [2]int{n, k})
		}
	}
	return bad
}
