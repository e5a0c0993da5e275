package tests

// What chapter 9 says, computed anew: pieces as texts whose letters are counted, fair cuts among all choices of places as bits of a number, half windows of the turned text, and shares for three among all ways to give each bead to somebody.

import (
	"math"
	"math/bits"
	"slices"
	"strings"
)

// none stands for the number of a call that has to fail.
const none = -1

func areBeads(s string) bool { return len(s) <= 16 && strings.Trim(s, "abcd") == "" }

func oracleCounts(s string) []int {
	return []int{strings.Count(s, "a"), strings.Count(s, "b"), strings.Count(s, "c"), strings.Count(s, "d")}
}

func oracleKinds(s string) int {
	kinds := 0
	for _, count := range oracleCounts(s) {
		kinds += min(count, 1)
	}
	return kinds
}

func areNumbersParted(s string, sharers int) bool {
	return !slices.ContainsFunc(oracleCounts(s), func(count int) bool { return count%sharers != 0 })
}

func isHalved(s string) bool { return areBeads(s) && areNumbersParted(s, 2) }

func areCutsOf(s string, cuts []int) bool {
	sorted := slices.Sorted(slices.Values(cuts))
	return slices.Equal(slices.Compact(sorted), cuts) && !slices.ContainsFunc(cuts, func(cut int) bool { return cut < 1 || cut > len(s)-1 })
}

// oracleSharers has the beads of the first thief and those of the second one.
func oracleSharers(s string, cuts []int) (first, second string) {
	from := 0
	for _, cut := range append(slices.Clone(cuts), len(s)) {
		first, second = second, first+s[from:cut]
		from = cut
	}
	if len(cuts)%2 == 0 {
		first, second = second, first
	}
	return first, second
}

func oracleIsFair(s string, cuts []int) bool {
	first, second := oracleSharers(s, cuts)
	return slices.Equal(oracleCounts(first), oracleCounts(second))
}

// oracleSigns asks for each bead how many cuts are in front of it.
func oracleSigns(s string, cuts []int) []int {
	var signs []int
	for i := range len(s) {
		sign := 1
		for _, cut := range cuts {
			if cut <= i {
				sign *= -1
			}
		}
		signs = append(signs, sign)
	}
	return signs
}

// cutsOfBits has the cut k for the bit of 1<<k in a number without the bit 1.
func cutsOfBits(number int) []int {
	var cuts []int
	for k := range 64 {
		if number>>k%2 == 1 {
			cuts = append(cuts, k)
		}
	}
	return cuts
}

// allCuts calls do with all cuts of a necklace, as many as told, in no order that anything asks for.
func allCuts(s string, count int, do func([]int)) {
	for number := 0; number < 1<<max(len(s), 1); number += 2 {
		if bits.OnesCount(uint(number)) == count {
			do(cutsOfBits(number))
		}
	}
}

// oracleFairCuts are in lexicographic order.
func oracleFairCuts(s string, count int) [][]int {
	var fair [][]int
	allCuts(s, count, func(cuts []int) {
		if oracleIsFair(s, cuts) {
			fair = append(fair, cuts)
		}
	})
	slices.SortFunc(fair, slices.Compare[[]int])
	return fair
}

// oracleSplit tries as many cuts as there are places for, and fails if none are fair.
func oracleSplit(s string) ([]int, bool) {
	for count := 0; count < max(len(s), 1); count++ {
		if fair := oracleFairCuts(s, count); len(fair) > 0 {
			return fair[0], true
		}
	}
	return nil, false
}

func oracleFewestCuts(s string) int {
	if !areNumbersParted(s, 2) {
		return none
	}
	cuts, found := oracleSplit(s)
	if !found {
		return none
	}
	return len(cuts)
}

func oracleCountSplits(s string) []int {
	var counts []int
	for k := range 5 {
		counts = append(counts, len(oracleFairCuts(s, k)))
	}
	return counts
}

func hasHalfWindow(s string) bool { return isHalved(s) && s != "" && oracleKinds(s) <= 2 }

func oracleHalfWindow(s string) int {
	if !hasHalfWindow(s) {
		return none
	}
	for start := range len(s) {
		turned := s[start:] + s[:start]
		if slices.Equal(oracleCounts(turned[:len(s)/2]), oracleCounts(turned[len(s)/2:])) {
			return start
		}
	}
	return none
}

func hasWindowOf(s string, start, length int) bool {
	return areBeads(s) && start >= 0 && start < len(s) && length >= 0 && length <= len(s)
}

func oracleWindow(s string, start, length int) []int {
	turned := s[start:] + s[:start]
	return oracleCounts(turned[:length])
}

func isForThree(s string) bool { return areBeads(s) && len(s) <= 9 && areNumbersParted(s, 3) }

func oracleForThree(s string) int {
	if !isForThree(s) {
		return none
	}
	fewest := none
	allColourLists(len(s), 0, 2, func(owners []int) bool {
		var counts [3][256]int
		changes := 0
		for i, owner := range owners {
			counts[owner][s[i]]++
			if i > 0 && owners[i-1] != owner {
				changes++
			}
		}
		if counts[0] == counts[1] && counts[1] == counts[2] && (fewest == none || changes < fewest) {
			fewest = changes
		}
		return true
	})
	return fewest
}

func oracleReversed(s string) string {
	backwards := ""
	for _, letter := range s {
		backwards = string(letter) + backwards
	}
	return backwards
}

func areNamesOf(names []int) bool {
	return len(names) == 4 && !slices.ContainsFunc([]int{0, 1, 2, 3}, func(kind int) bool { return !slices.Contains(names, kind) })
}

func oracleRenamed(s string, names []int) string {
	letters := []string{"a", "b", "c", "d"}
	return strings.NewReplacer("a", letters[names[0]], "b", letters[names[1]], "c", letters[names[2]], "d", letters[names[3]]).Replace(s)
}

// areCountsOf takes each number away from what is left.
func areCountsOf(counts []int) bool {
	left := 16
	for _, count := range counts {
		if count < 0 || count > left {
			return false
		}
		left -= count
	}
	return len(counts) == 4
}

func oracleSorted(counts []int) string {
	return strings.Repeat("a", counts[0]) + strings.Repeat("b", counts[1]) + strings.Repeat("c", counts[2]) + strings.Repeat("d", counts[3])
}

func oracleNecklace(s string) necklaceFacts {
	f := necklaceFacts{
		counts: oracleCounts(s), kinds: oracleKinds(s), fewest: oracleFewestCuts(s), splits: oracleCountSplits(s),
		half: oracleHalfWindow(s), three: oracleForThree(s), backwards: oracleReversed(s)}
	if f.fewest != none {
		f.split, _ = oracleSplit(s)
	}
	return f
}

// allNecklaces calls do with all necklaces of so many beads.
func allNecklaces(length int, do func(string)) {
	allColourLists(length, 0, 3, func(kinds []int) bool {
		var text strings.Builder
		for _, kind := range kinds {
			text.WriteString("abcd"[kind : kind+1])
		}
		do(text.String())
		return true
	})
}

// firstNecklaces leaves those out that another one becomes if its kinds are renamed: each kind comes behind the ones before it.
func firstNecklaces(length, kinds int, do func(string)) {
	var add func(s string, used int)
	add = func(s string, used int) {
		if len(s) == length {
			do(s)
			return
		}
		for kind := range min(used+1, kinds) {
			add(s+"abcd"[kind:kind+1], max(used, kind+1))
		}
	}
	add("", 0)
}

func allNames() [][]int {
	var all [][]int
	allColourLists(4, 0, 3, func(names []int) bool {
		if areNamesOf(names) {
			all = append(all, slices.Clone(names))
		}
		return true
	})
	return all
}

func shuffled(letters string, next func(int) int) string {
	text := []byte(letters)
	for i := range text {
		j := i + next(len(text)-i)
		text[i], text[j] = text[j], text[i]
	}
	return string(text)
}

// longNecklaces have more beads than all necklaces can be tried of: those with even numbers of each kind, sorted and shuffled ones, and others.
func longNecklaces() []string {
	next := chance(900)
	var texts []string
	for _, length := range []int{8, 10, 12, 14, 16, 16} {
		for kinds := 1; kinds <= 4; kinds++ {
			letters := "abcd"[:kinds]
			for range length/2 - kinds {
				letters += "abcd"[next(kinds):][:1]
			}
			letters += letters[:length/2]
			sorted := strings.Join(slices.Sorted(slices.Values(strings.Split(letters[:length], ""))), "")
			texts = append(texts, sorted, shuffled(sorted, next), shuffled(sorted, next))
		}
	}
	for length := 7; length <= 16; length++ {
		letters := ""
		for range length {
			letters += "abcd"[next(4):][:1]
		}
		texts = append(texts, letters)
	}
	return texts
}

// badNecklaces have too many letters, or others.
func badNecklaces() []string {
	texts := []string{
		"e", "A", "D", "`", "@", "0", "1", "-", " ", "\n", "\x00", "\xff", "\x80", "\xe1", "\xe4", "é", "а", "ａ", "z", "{", ",", "aA", "Aa", "abcde", "eabcd", "abecd",
		"ab ", " ab", "ab\n", "a b", "a,b", "ab\x00", "\x00ab", "a\xffb", "ab\xe1", "\xe1b", "ABAB", "aaBB", "a-", "bäb", "aab\u0301b",
		strings.Repeat("a", 17), strings.Repeat("ab", 9), strings.Repeat("abcd", 8), strings.Repeat("a", 256), strings.Repeat("a", 272), strings.Repeat("abcd", 25000),
		strings.Repeat("e", 16), strings.Repeat("a", 15) + "e", "e" + strings.Repeat("a", 15), strings.Repeat("a", 16) + "e", strings.Repeat("a", 16) + "\n", strings.Repeat("é", 8),
	}
	for number := range 256 {
		if letter := string([]byte{byte(number)}); !areBeads(letter) {
			texts = append(texts, letter+"abba", "abb"+letter, "ab"+letter+"ab")
		}
	}
	return texts
}

// badCuts are no cuts of a necklace of so many beads.
func badCuts(length int) [][]int {
	lists := [][]int{
		{0}, {length}, {length + 1}, {2 * length}, {-1}, {-2}, {-length}, {1 << 32}, {1<<32 + 1}, {-1<<32 + 1}, {257}, {math.MaxInt}, {math.MinInt}, {math.MinInt + 1},
		{0, 1}, {-1, 1}, {math.MinInt, 1}, {1, length}, {1, length + 1}, {1, math.MaxInt}, {1, math.MinInt}, {1, 1<<32 + 2}, {length - 1, length},
		{1, 1}, {2, 1}, {2, 2}, {1, 2, 2}, {1, 3, 2}, {2, 1, 3}, {1, 2, 1}, {1, 2, 0}, {1, 2, 3, -1}, {1, 2, 3, length}, {length - 1, 1}, {length - 1, length - 1},
		counting(length + 1), make([]int, 16), make([]int, 1000),
	}
	if length > 0 {
		lists = append(lists, counting(length), counting(length + 1)[1:])
	}
	return lists
}

// badSigns are no signs of a necklace of so many beads, or such that give the first bead to the second thief.
func badSigns(length int) [][]int {
	ones := slices.Repeat([]int{1}, length)
	lists := [][]int{append(slices.Clone(ones), 1), append(slices.Clone(ones), -1), slices.Repeat([]int{1}, length+16), make([]int, length+1), {0, 0}, {2}, {-1}}
	if length == 0 {
		return lists
	}
	lists = append(lists, nil, ones[1:], slices.Repeat([]int{-1}, length), make([]int, length))
	for _, i := range []int{0, length / 2, length - 1} {
		for _, number := range []int{0, 2, -2, 3, 1<<32 + 1, 1<<32 - 1, -1<<32 + 1, 257, 255, math.MaxInt, math.MinInt, math.MinInt + 1} {
			signs := slices.Clone(ones)
			signs[i] = number
			lists = append(lists, signs)
		}
	}
	others := slices.Clone(ones)
	others[0] = -1
	return append(lists, others)
}

func badNames() [][]int {
	return [][]int{
		nil, {}, {0}, {0, 1, 2}, {1, 2, 3}, {0, 1, 2, 3, 4}, {0, 1, 2, 3, 0}, {0, 1, 2, 3, 3}, {-1, 0, 1, 2, 3}, {0, 0, 1, 2, 3}, {0, 1, 2, 3, 0, 1, 2, 3},
		{0, 1, 2, 2}, {0, 0, 2, 3}, {0, 1, 1, 3}, {0, 3, 3, 3}, {3, 3, 0, 0}, {0, 0, 0, 0}, {3, 3, 3, 3}, {1, 2, 3, 4}, {0, 1, 2, 4}, {4, 3, 2, 1}, {-1, 0, 1, 2}, {0, 1, 2, -1},
		{0, -1, 2, 3}, {0, 1, 2, 1<<32 + 3}, {1 << 32, 1, 2, 3}, {0, 1, 2, 259}, {0, 1, 2, math.MaxInt}, {math.MinInt, 1, 2, 3}, {97, 98, 99, 100}, make([]int, 1000),
	}
}

func badCounts() [][]int {
	return [][]int{
		nil, {}, {1}, {1, 2, 3}, {0, 0, 0}, {0, 0, 0, 0, 0}, {1, 1, 1, 1, 1}, {2, 2, 2, 2, -2}, {-1, 1, 1, 1}, {1, -1, 1, 1}, {1, 1, -1, 1}, {1, 1, 1, -1}, {0, 0, 0, -1},
		{17, 0, 0, 0}, {0, 17, 0, 0}, {0, 0, 17, 0}, {0, 0, 0, 17}, {16, 1, 0, 0}, {16, 0, 0, 1}, {8, 8, 1, 0}, {5, 4, 4, 4}, {4, 4, 4, 5}, {16, 16, 16, 16}, {17, -1, 0, 0}, {-16, 16, 16, 0},
		{20, -4, 0, 0}, {256, 0, 0, 0}, {1 << 32, 0, 0, 0}, {1<<32 + 2, 2, 2, 2}, {-1<<32 + 2, 2, 2, 2}, {math.MaxInt, 0, 0, 0}, {0, 0, 0, math.MinInt}, {math.MaxInt, math.MaxInt, 2, 0},
		{math.MaxInt, math.MaxInt, 4, 4}, {math.MinInt, math.MinInt, 8, 8}, {math.MaxInt, math.MinInt, 1, 1}, {1 << 62, 1 << 62, 1 << 62, 1 << 62}, make([]int, 1000),
	}
}

// badWindows are a start and a length, of which one is outside its limits, or both.
func badWindows(length int) [][2]int {
	var bad [][2]int
	for _, start := range []int{-1, -2, -length, length, length + 1, 2 * length, 1 << 32, -1 << 32, math.MaxInt, math.MinInt} {
		for _, count := range []int{0, 1, length, length / 2, -1, length + 1, math.MaxInt, math.MinInt} {
			if start != 0 || length == 0 {
				bad = append(bad, [2]int{start, count})
			}
		}
	}
	for _, count := range []int{-1, -2, -length - 1, length + 1, length + 2, 2*length + 1, 1 << 32, 1<<32 + 1, -1<<32 + 1, math.MaxInt, math.MaxInt - 1, math.MinInt, math.MinInt + 1} {
		bad = append(bad, [2]int{0, count}, [2]int{length - 1, count}, [2]int{length / 2, count})
	}
	return bad
}

// badSplitNumbers are outside 0..MaxKinds.
var badSplitNumbers = []int{-1, -2, -4, 5, 6, 15, 16, 64, 256, 1 << 32, 1<<32 + 1, -1 << 32, -1<<32 + 1, math.MaxInt, math.MinInt, math.MinInt + 1}
