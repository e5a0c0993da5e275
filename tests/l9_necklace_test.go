package tests

// Promise 9: fair cuts are at most as many as kinds, and half windows are found.

import (
	"math"
	"slices"
	"strings"
	"testing"

	"loop.example/g01160/impl"
)

// necklaceFacts are what the chapter tells of a necklace; splits are the numbers of fair cuts for 0 to 4 cuts, and a number is none if there is none.
type necklaceFacts struct {
	counts, split, splits      []int
	kinds, fewest, half, three int
	backwards                  string
}

func wantNumberOrNone(t *testing.T, what string, number int, ok bool, expected int) {
	t.Helper()
	if expected == none {
		wantFailure(t, what, ok, number)
	} else {
		want(t, what, number, ok, expected)
	}
}

func wantNecklace(t *testing.T, s string, expected necklaceFacts) {
	t.Helper()
	want(t, "IsNecklace", impl.IsNecklace(s), true, true)
	counts, ok := impl.CountsOfBeads(s)
	want(t, "CountsOfBeads", counts, ok, expected.counts)
	kinds, ok := impl.KindsOfBeads(s)
	want(t, "KindsOfBeads", kinds, ok, expected.kinds)
	fewest, ok := impl.FewestCuts(s)
	wantNumberOrNone(t, "FewestCuts", fewest, ok, expected.fewest)
	split, ok := impl.FirstSplit(s)
	if expected.fewest == none {
		wantFailure(t, "FirstSplit", ok, split)
	} else {
		want(t, "FirstSplit", split, ok, expected.split)
	}
	for k, splits := range expected.splits {
		count, ok := impl.CountSplits(s, k)
		want(t, "CountSplits", count, ok, splits)
	}
	half, ok := impl.HalfWindow(s)
	wantNumberOrNone(t, "HalfWindow", half, ok, expected.half)
	three, ok := impl.FewestForThree(s)
	wantNumberOrNone(t, "FewestForThree", three, ok, expected.three)
	backwards, ok := impl.ReverseBeads(s)
	want(t, "ReverseBeads", backwards, ok, expected.backwards)
	if t.Failed() {
		t.Fatalf("the necklace is %q", s)
	}
}

// wantShares is for cuts of a necklace.
func wantShares(t *testing.T, s string, cuts []int, isFair bool, shares, signs []int) {
	t.Helper()
	gotShares, ok := impl.SharesOf(s, cuts)
	want(t, "SharesOf", gotShares, ok, shares)
	fair, ok := impl.IsFairSplit(s, cuts)
	want(t, "IsFairSplit", fair, ok, isFair)
	gotSigns, ok := impl.SignsOf(s, cuts)
	want(t, "SignsOf", gotSigns, ok, signs)
	gotCuts, ok := impl.CutsOfSigns(s, signs)
	want(t, "CutsOfSigns", gotCuts, ok, cuts)
	if t.Failed() {
		t.Fatalf("the necklace is %q, the cuts are %v", s, cuts)
	}
}

func wantNoCuts(t *testing.T, s string, cuts []int) {
	t.Helper()
	shares, ok := impl.SharesOf(s, cuts)
	wantFailure(t, "SharesOf", ok, shares)
	fair, ok := impl.IsFairSplit(s, cuts)
	wantFailure(t, "IsFairSplit", ok, fair)
	signs, ok := impl.SignsOf(s, cuts)
	wantFailure(t, "SignsOf", ok, signs)
	if t.Failed() {
		t.Fatalf("the necklace is %q, the numbers are %v", s, cuts)
	}
}

func wantNoSigns(t *testing.T, s string, signs []int) {
	t.Helper()
	cuts, ok := impl.CutsOfSigns(s, signs)
	wantFailure(t, "CutsOfSigns", ok, cuts)
	if t.Failed() {
		t.Fatalf("the necklace is %q, the numbers are %v", s, signs)
	}
}

func wantWindow(t *testing.T, s string, start, length int, expected ...int) {
	t.Helper()
	counts, ok := impl.WindowCounts(s, start, length)
	want(t, "WindowCounts", counts, ok, expected)
}

func wantNoWindow(t *testing.T, s string, start, length int) {
	t.Helper()
	counts, ok := impl.WindowCounts(s, start, length)
	wantFailure(t, "WindowCounts", ok, counts)
}

func wantHalf(t *testing.T, s string, expected int) {
	t.Helper()
	half, ok := impl.HalfWindow(s)
	wantNumberOrNone(t, "HalfWindow of "+s, half, ok, expected)
}

func wantForThree(t *testing.T, s string, expected int) {
	t.Helper()
	three, ok := impl.FewestForThree(s)
	wantNumberOrNone(t, "FewestForThree of "+s, three, ok, expected)
}

func wantRenamed(t *testing.T, s string, names []int, expected string) {
	t.Helper()
	renamed, ok := impl.RenameBeads(s, names)
	want(t, "RenameBeads", renamed, ok, expected)
}

func wantSorted(t *testing.T, counts []int, expected string) {
	t.Helper()
	sorted, ok := impl.SortedBeads(counts)
	want(t, "SortedBeads", sorted, ok, expected)
}

func TestLimitsOfChapter9(t *testing.T) {
	if impl.MaxBeads != 16 || impl.MaxKinds != 4 {
		t.Error("limits", impl.MaxBeads, impl.MaxKinds)
	}
}

func TestExampleOfChapter9(t *testing.T) {
	wantNecklace(t, "abab", necklaceFacts{
		counts: []int{2, 2, 0, 0}, kinds: 2, fewest: 1, split: []int{2}, splits: []int{0, 1, 1, 0, 0}, half: 0, three: none, backwards: "baba"})
	wantNecklace(t, "aabb", necklaceFacts{
		counts: []int{2, 2, 0, 0}, kinds: 2, fewest: 2, split: []int{1, 3}, splits: []int{0, 0, 1, 1, 0}, half: 1, three: none, backwards: "bbaa"})
	wantNecklace(t, "abba", necklaceFacts{
		counts: []int{2, 2, 0, 0}, kinds: 2, fewest: 1, split: []int{2}, splits: []int{0, 1, 0, 1, 0}, half: 0, three: none, backwards: "abba"})
	wantShares(t, "abab", []int{2}, true, []int{1, 1, 0, 0}, []int{1, 1, -1, -1})
	wantShares(t, "abab", []int{1}, false, []int{1, 0, 0, 0}, []int{1, -1, -1, -1})
	wantShares(t, "aabb", []int{1, 3}, true, []int{1, 1, 0, 0}, []int{1, -1, -1, 1})
	wantShares(t, "aabb", []int{2}, false, []int{2, 0, 0, 0}, []int{1, 1, -1, -1})
	wantShares(t, "abba", []int{2}, true, []int{1, 1, 0, 0}, []int{1, 1, -1, -1})
	wantShares(t, "abba", []int{1, 3}, false, []int{2, 0, 0, 0}, []int{1, -1, -1, 1})
	wantRenamed(t, "aabb", []int{1, 0, 2, 3}, "bbaa")
	wantRenamed(t, "aabb", []int{2, 3, 0, 1}, "ccdd")
	wantSorted(t, []int{2, 2, 0, 0}, "aabb")
	wantWindow(t, "aabb", 1, 2, 1, 1, 0, 0)
	wantWindow(t, "aabb", 3, 2, 1, 1, 0, 0)
	wantWindow(t, "aabb", 3, 3, 2, 1, 0, 0)
}

func TestEmptyNecklace(t *testing.T) {
	wantNecklace(t, "", necklaceFacts{counts: []int{0, 0, 0, 0}, splits: []int{1, 0, 0, 0, 0}, half: none})
	wantShares(t, "", nil, true, []int{0, 0, 0, 0}, nil)
	wantShares(t, "", []int{}, true, []int{0, 0, 0, 0}, []int{})
	for _, cuts := range badCuts(0) {
		wantNoCuts(t, "", cuts)
	}
	for _, signs := range badSigns(0) {
		wantNoSigns(t, "", signs)
	}
	for _, start := range []int{0, 1, -1} {
		for _, length := range []int{0, 1, -1} {
			wantNoWindow(t, "", start, length)
		}
	}
	for _, names := range allNames() {
		wantRenamed(t, "", names, "")
	}
	wantSorted(t, []int{0, 0, 0, 0}, "")
}

func TestNecklacesOfOneBead(t *testing.T) {
	for kind, s := range []string{"a", "b", "c", "d"} {
		counts := make([]int, 4)
		counts[kind] = 1
		wantNecklace(t, s, necklaceFacts{counts: counts, kinds: 1, fewest: none, splits: make([]int, 5), half: none, three: none, backwards: s})
		wantShares(t, s, nil, false, counts, []int{1})
		wantNoCuts(t, s, []int{1})
		wantNoCuts(t, s, []int{0})
		wantNoSigns(t, s, []int{-1})
		wantNoSigns(t, s, nil)
		wantWindow(t, s, 0, 0, 0, 0, 0, 0)
		wantWindow(t, s, 0, 1, counts...)
		wantNoWindow(t, s, 0, 2)
		wantNoWindow(t, s, 1, 0)
		wantSorted(t, counts, s)
	}
}

func TestNecklacesOfOneKind(t *testing.T) {
	wantNecklace(t, "cc", necklaceFacts{
		counts: []int{0, 0, 2, 0}, kinds: 1, fewest: 1, split: []int{1}, splits: []int{0, 1, 0, 0, 0}, half: 0, three: none, backwards: "cc"})
	wantNecklace(t, "aaa", necklaceFacts{counts: []int{3, 0, 0, 0}, kinds: 1, fewest: none, splits: make([]int, 5), half: none, three: 2, backwards: "aaa"})
	wantNecklace(t, "dddd", necklaceFacts{
		counts: []int{0, 0, 0, 4}, kinds: 1, fewest: 1, split: []int{2}, splits: []int{0, 1, 1, 1, 0}, half: 0, three: none, backwards: "dddd"})
	wantNecklace(t, "bbbbbb", necklaceFacts{
		counts: []int{0, 6, 0, 0}, kinds: 1, fewest: 1, split: []int{3}, splits: []int{0, 1, 2, 4, 2}, half: 0, three: 2, backwards: "bbbbbb"})
	for length := 1; length <= 16; length++ {
		for kind, letter := range []string{"a", "b", "c", "d"} {
			s, counts := strings.Repeat(letter, length), make([]int, 4)
			counts[kind] = length
			wantSorted(t, counts, s)
			want(t, "IsNecklace", impl.IsNecklace(s), true, true)
			if length%2 == 0 {
				split, ok := impl.FirstSplit(s)
				want(t, "FirstSplit", split, ok, []int{length / 2})
				wantHalf(t, s, 0)
			} else {
				split, ok := impl.FirstSplit(s)
				wantFailure(t, "FirstSplit", ok, split)
				wantHalf(t, s, none)
			}
			if length%3 == 0 && length <= 9 {
				wantForThree(t, s, 2)
			} else {
				wantForThree(t, s, none)
			}
		}
	}
}

func TestNecklacesOfAllKinds(t *testing.T) {
	wantNecklace(t, "abcd", necklaceFacts{counts: []int{1, 1, 1, 1}, kinds: 4, fewest: none, splits: make([]int, 5), half: none, three: none, backwards: "dcba"})
	wantNecklace(t, "aabbccdd", necklaceFacts{
		counts: []int{2, 2, 2, 2}, kinds: 4, fewest: 4, split: []int{1, 3, 5, 7}, splits: []int{0, 0, 0, 0, 1}, half: none, three: none, backwards: "ddccbbaa"})
	wantNecklace(t, "abcdabcd", necklaceFacts{
		counts: []int{2, 2, 2, 2}, kinds: 4, fewest: 1, split: []int{4}, splits: []int{0, 1, 3, 0, 0}, half: none, three: none, backwards: "dcbadcba"})
	wantNecklace(t, "abcddcba", necklaceFacts{
		counts: []int{2, 2, 2, 2}, kinds: 4, fewest: 1, split: []int{4}, splits: []int{0, 1, 0, 3, 0}, half: none, three: none, backwards: "abcddcba"})
	wantShares(t, "abcddcba", []int{1, 4, 7}, true, []int{1, 1, 1, 1}, []int{1, -1, -1, -1, 1, 1, 1, -1})
	wantRenamed(t, "abcd", []int{1, 2, 3, 0}, "bcda")
	wantRenamed(t, "abcd", []int{3, 2, 1, 0}, "dcba")
	wantRenamed(t, "dacb", []int{2, 0, 3, 1}, "bcda")
	wantRenamed(t, "abcd", []int{0, 1, 2, 3}, "abcd")
	wantSorted(t, []int{1, 2, 3, 4}, "abbcccdddd")
}

func TestNecklacesOfMaxBeads(t *testing.T) {
	wantNecklace(t, "aaaabbbbccccdddd", necklaceFacts{
		counts: []int{4, 4, 4, 4}, kinds: 4, fewest: 4, split: []int{2, 6, 10, 14}, splits: []int{0, 0, 0, 0, 1}, half: none, three: none, backwards: "ddddccccbbbbaaaa"})
	wantNecklace(t, "abababababababab", necklaceFacts{
		counts: []int{8, 8, 0, 0}, kinds: 2, fewest: 1, split: []int{8}, splits: oracleCountSplits("abababababababab"), half: 0, three: none, backwards: "babababababababa"})
	wantNecklace(t, "aaaaaaaabbbbbbbb", necklaceFacts{
		counts: []int{8, 8, 0, 0}, kinds: 2, fewest: 2, split: []int{4, 12}, splits: oracleCountSplits("aaaaaaaabbbbbbbb"), half: 4, three: none, backwards: "bbbbbbbbaaaaaaaa"})
	wantNecklace(t, "aaaaaaaaaaaaaaab", necklaceFacts{
		counts: []int{15, 1, 0, 0}, kinds: 2, fewest: none, splits: make([]int, 5), half: none, three: none, backwards: "baaaaaaaaaaaaaaa"})
	alternating := slices.Repeat([]int{1, -1}, 8)
	wantShares(t, "abababababababab", counting(16)[1:], false, []int{8, 0, 0, 0}, alternating)
	wantShares(t, "aaaaaaaabbbbbbbb", counting(16)[1:], true, []int{4, 4, 0, 0}, alternating)
	wantWindow(t, "aaaabbbbccccdddd", 0, 16, 4, 4, 4, 4)
	wantWindow(t, "aaaabbbbccccdddd", 15, 16, 4, 4, 4, 4)
	wantWindow(t, "aaaabbbbccccdddd", 15, 0, 0, 0, 0, 0)
	wantWindow(t, "aaaabbbbccccdddd", 15, 1, 0, 0, 0, 1)
	wantWindow(t, "aaaabbbbccccdddd", 15, 2, 1, 0, 0, 1)
	wantWindow(t, "aaaabbbbccccdddd", 10, 9, 3, 0, 2, 4)
	wantSorted(t, []int{4, 4, 4, 4}, "aaaabbbbccccdddd")
	wantSorted(t, []int{16, 0, 0, 0}, strings.Repeat("a", 16))
	wantSorted(t, []int{0, 0, 0, 16}, strings.Repeat("d", 16))
	wantSorted(t, []int{13, 1, 1, 1}, strings.Repeat("a", 13)+"bcd")
	for _, text := range []string{strings.Repeat("a", 17), "aaaabbbbccccdddda", "abababababababababa"} {
		want(t, "IsNecklace", impl.IsNecklace(text), true, false)
	}
}

func TestCutsAtBothEnds(t *testing.T) {
	wantShares(t, "abcab", nil, false, []int{2, 2, 1, 0}, []int{1, 1, 1, 1, 1})
	wantShares(t, "abcab", []int{1}, false, []int{1, 0, 0, 0}, []int{1, -1, -1, -1, -1})
	wantShares(t, "abcab", []int{4}, false, []int{2, 1, 1, 0}, []int{1, 1, 1, 1, -1})
	wantShares(t, "abcab", []int{1, 4}, false, []int{1, 1, 0, 0}, []int{1, -1, -1, -1, 1})
	wantShares(t, "abcab", []int{1, 2, 3, 4}, false, []int{1, 1, 1, 0}, []int{1, -1, 1, -1, 1})
	wantNoCuts(t, "abcab", []int{0})
	wantNoCuts(t, "abcab", []int{5})
	wantNoCuts(t, "abcab", []int{0, 1, 2, 3, 4})
	wantNoCuts(t, "abcab", []int{1, 2, 3, 4, 5})
	wantNoCuts(t, "abcab", []int{2, 2})
	wantNoCuts(t, "abcab", []int{3, 2})
	wantShares(t, "aa", []int{1}, true, []int{1, 0, 0, 0}, []int{1, -1})
	wantNoCuts(t, "aa", []int{2})
}

// There are places for less than MaxKinds cuts in short necklaces.
func TestMoreCutsThanPlaces(t *testing.T) {
	for _, s := range []string{"", "a", "aa", "aaa", "aaaa"} {
		for k := max(len(s), 1); k <= 4; k++ {
			count, ok := impl.CountSplits(s, k)
			want(t, "CountSplits", count, ok, 0)
		}
	}
	count, ok := impl.CountSplits("aaaa", 3)
	want(t, "CountSplits", count, ok, 1)
	count, ok = impl.CountSplits("aabb", 4)
	want(t, "CountSplits", count, ok, 0)
	count, ok = impl.CountSplits("aaaaaa", 4)
	want(t, "CountSplits", count, ok, 2)
}

func TestAllShortNecklaces(t *testing.T) {
	for length := range 7 {
		allNecklaces(length, func(s string) { wantNecklace(t, s, oracleNecklace(s)) })
	}
}

func TestLongNecklaces(t *testing.T) {
	for _, s := range longNecklaces() {
		wantNecklace(t, s, oracleNecklace(s))
	}
}

// Fair cuts are at most as many as kinds, are fair and the first ones of so many, and none are fair if there are less.
func TestFairCutsAreAtMostAsManyAsKinds(t *testing.T) {
	tried := 0
	for length := 0; length <= 10; length += 2 {
		firstNecklaces(length, 4, func(s string) {
			if !isHalved(s) {
				return
			}
			tried++
			cuts, ok := impl.FirstSplit(s)
			kinds, isNecklace := impl.KindsOfBeads(s)
			if !ok || !isNecklace || len(cuts) > kinds || !areCutsOf(s, cuts) || !oracleIsFair(s, cuts) {
				t.Fatalf("FirstSplit(%q) = %v, %v", s, cuts, ok)
			}
			expected, found := oracleSplit(s)
			want(t, "FirstSplit of "+s, cuts, found, expected)
			fewest, ok := impl.FewestCuts(s)
			want(t, "FewestCuts of "+s, fewest, ok, len(cuts))
			fair, ok := impl.IsFairSplit(s, cuts)
			want(t, "IsFairSplit of "+s, fair, ok, true)
		})
	}
	if tried < 5000 {
		t.Errorf("only %d necklaces were tried", tried)
	}
}

// There is a half window of each necklace with at most two kinds and even numbers of them.
func TestHalfWindowsAreFound(t *testing.T) {
	for length := 2; length <= 12; length += 2 {
		firstNecklaces(length, 2, func(s string) {
			if !isHalved(s) {
				wantHalf(t, s, none)
				return
			}
			start, ok := impl.HalfWindow(s)
			want(t, "HalfWindow of "+s, start, ok, oracleHalfWindow(s))
			half, ok := impl.WindowCounts(s, start, length/2)
			whole := oracleCounts(s)
			want(t, "WindowCounts of "+s, half, ok, []int{whole[0] / 2, whole[1] / 2, 0, 0})
		})
	}
	for _, kinds := range []string{"ab", "ac", "ad", "bc", "bd", "cd", "ba", "ca", "da", "cb", "db", "dc"} {
		for i := 1; i <= 7; i++ {
			s := strings.Repeat(kinds[:1], 2*i) + strings.Repeat(kinds[1:], 16-2*i)
			wantHalf(t, s, i)
			wantHalf(t, s[i:]+s[:i], 0)
			wantHalf(t, s[2*i:]+s[:2*i], 8-i)
			wantHalf(t, s[1:]+s[:1], i-1)
		}
	}
}

// The half of the beads that is left is one, too, so that each half window that goes on from the last bead to the first one has one in front of it.
func TestHalfWindowsPastTheLastBead(t *testing.T) {
	for _, s := range []string{"aabb", "abba", "aaaabbbb", "abbbbbba", "ccccccddddddddcc"} {
		start, ok := impl.HalfWindow(s)
		whole := oracleCounts(s)
		for i, count := range whole {
			whole[i] = count / 2
		}
		want(t, "HalfWindow of "+s, start < len(s)/2, ok, true)
		wantWindow(t, s, start, len(s)/2, whole...)
		wantWindow(t, s, start+len(s)/2, len(s)/2, whole...)
	}
	wantWindow(t, "aabb", 3, 2, 1, 1, 0, 0)
	wantWindow(t, "aabb", 2, 2, 0, 2, 0, 0)
}

func TestNecklacesWithoutHalfWindows(t *testing.T) {
	for _, s := range []string{
		"", "a", "aaa", "ab", "abc", "aab", "aabbb", "abcabc", "aabbcc", "abcdabcd", "aabbccdd", "ccbbaa", "abababc", "ababababababacac",
		"aabbccddaabbccdd", "abab ", "ABAB", "aabbe", "aabbee", strings.Repeat("ab", 9), strings.Repeat("a", 18),
	} {
		wantHalf(t, s, none)
	}
}

func TestCutsOfAllShortNecklaces(t *testing.T) {
	for length := range 6 {
		allNecklaces(length, func(s string) { checkCuts(t, s) })
	}
	firstNecklaces(7, 4, func(s string) { checkCuts(t, s) })
}

func checkCuts(t *testing.T, s string) {
	t.Helper()
	for count := range max(len(s), 1) {
		allCuts(s, count, func(cuts []int) { checkShares(t, s, cuts) })
	}
}

func checkShares(t *testing.T, s string, cuts []int) {
	t.Helper()
	first, _ := oracleSharers(s, cuts)
	wantShares(t, s, cuts, oracleIsFair(s, cuts), oracleCounts(first), oracleSigns(s, cuts))
}

func TestCutsOfLongNecklaces(t *testing.T) {
	next := chance(901)
	for _, s := range longNecklaces() {
		checkShares(t, s, nil)
		checkShares(t, s, counting(len(s))[1:])
		checkShares(t, s, []int{1, len(s) - 1})
		for range 30 {
			checkShares(t, s, cutsOfBits(2*next(1<<(len(s)-1))))
		}
	}
}

// Signs and cuts tell the same: each list of signs that begins with 1 comes from its cuts, and each other one from none.
func TestAllSigns(t *testing.T) {
	for length := range 7 {
		s := "abcdab"[:length]
		allColourLists(length, -1, 1, func(signs []int) bool {
			if slices.Contains(signs, 0) || length > 0 && signs[0] != 1 {
				wantNoSigns(t, s, signs)
				return true
			}
			cuts, ok := impl.CutsOfSigns(s, signs)
			want(t, "whether CutsOfSigns has cuts", areCutsOf(s, cuts), ok, true)
			back, ok := impl.SignsOf(s, cuts)
			want(t, "SignsOf", back, ok, signs)
			return true
		})
	}
}

func TestNumbersThatAreNoCuts(t *testing.T) {
	for _, s := range slices.Concat([]string{"a", "ab", "aab", "abab", "abcd"}, longNecklaces()) {
		for _, cuts := range badCuts(len(s)) {
			wantNoCuts(t, s, cuts)
		}
		for _, signs := range badSigns(len(s)) {
			wantNoSigns(t, s, signs)
		}
	}
}

// All lists of some numbers, of which those that are strictly increasing and between the ends alone are cuts.
func TestAllListsAsCuts(t *testing.T) {
	for length := range 6 {
		s := "abcdabcd"[:length]
		for size := range 5 {
			allColourLists(size, -1, length+1, func(cuts []int) bool {
				if areCutsOf(s, cuts) {
					checkShares(t, s, cuts)
				} else {
					wantNoCuts(t, s, cuts)
				}
				return true
			})
		}
	}
}

func TestNumbersOfSplits(t *testing.T) {
	for _, s := range slices.Concat([]string{"", "a", "aa", "abab", "aabbccdd"}, longNecklaces()) {
		for k, expected := range oracleCountSplits(s) {
			count, ok := impl.CountSplits(s, k)
			want(t, "CountSplits of "+s, count, ok, expected)
		}
		for _, k := range badSplitNumbers {
			count, ok := impl.CountSplits(s, k)
			wantFailure(t, "CountSplits of "+s, ok, count)
		}
	}
}

func TestWindows(t *testing.T) {
	for _, s := range slices.Concat([]string{"", "a", "d", "ab", "abc", "abcd", "aab", "ddcba"}, longNecklaces()) {
		for start := range len(s) {
			for length := range len(s) + 1 {
				wantWindow(t, s, start, length, oracleWindow(s, start, length)...)
			}
		}
		for _, bad := range badWindows(len(s)) {
			wantNoWindow(t, s, bad[0], bad[1])
		}
		if t.Failed() {
			t.Fatalf("the necklace is %q", s)
		}
	}
}

func TestNecklacesForThree(t *testing.T) {
	for s, expected := range map[string]int{
		"": 0, "aaa": 2, "ddd": 2, "abcabcabc": 2, "aaabbb": 4, "ababab": 2, "aaabbbccc": 6, "bbbaaaddd": 6, "abbaab": 2, "aaaaaaaaa": 2, "aabbab": 3, "aaaaaabbb": 4, "abcbcacab": 2,
	} {
		wantForThree(t, s, expected)
		if expected != oracleForThree(s) {
			t.Errorf("three share %q with %d cuts", s, oracleForThree(s))
		}
	}
	for _, s := range []string{
		"a", "b", "ab", "aa", "aab", "abc", "aaaa", "aaab", "abcd", "aabb", "aaabb", "aaabbbc", "aaaaabbbb", "aaaabbbbc", "aaaaaaaa", "aaabbbcc", "aaabbbcccd",
		"aaaaaaaaaa", "aaaaaaaaaaaa", "aaabbbcccddd", "abcabcabcabc", "aaaaaaaaaaaaaaa", "aaabbbccc ", "AAA", "eee", "aaaeee", strings.Repeat("a", 18),
	} {
		wantForThree(t, s, none)
	}
}

// At most twice as many cuts as kinds, and not less than one for each but the first of the three.
func TestFewCutsAreEnoughForThree(t *testing.T) {
	tried := 0
	for length := 3; length <= 9; length += 3 {
		firstNecklaces(length, 4, func(s string) {
			if !isForThree(s) {
				return
			}
			tried++
			three, ok := impl.FewestForThree(s)
			kinds, _ := impl.KindsOfBeads(s)
			want(t, "FewestForThree of "+s, three, ok, oracleForThree(s))
			if three < 2 || three > 2*kinds {
				t.Errorf("FewestForThree(%q) = %d", s, three)
			}
		})
	}
	if tried != 1+1+10+1+84+280 {
		t.Errorf("%d necklaces were tried", tried)
	}
}

// As many cuts are needed backwards, and with other kinds.
func TestReversedAndRenamedNecklaces(t *testing.T) {
	names := allNames()
	if len(names) != 24 {
		t.Fatalf("%d names", len(names))
	}
	texts := slices.Concat([]string{"", "aabb", "abab", "aaabbb", "aabbcc", "abacbc", "aaabbbccc", "abcabcabc", "abbaccddb"}, longNecklaces())
	for i, s := range texts {
		backwards, ok := impl.ReverseBeads(s)
		want(t, "ReverseBeads", backwards, ok, oracleReversed(s))
		back, ok := impl.ReverseBeads(backwards)
		want(t, "ReverseBeads", back, ok, s)
		checkAlike(t, s, backwards)
		for _, kinds := range names {
			wantRenamed(t, s, kinds, oracleRenamed(s, kinds))
		}
		kinds := names[(5*i+1)%24]
		renamed, _ := impl.RenameBeads(s, kinds)
		checkAlike(t, s, renamed)
		wantHalf(t, renamed, oracleHalfWindow(s))
		counts, other := oracleCounts(s), make([]int, 4)
		for kind, count := range counts {
			other[kinds[kind]] = count
		}
		got, ok := impl.CountsOfBeads(renamed)
		want(t, "CountsOfBeads", got, ok, other)
	}
}

// checkAlike wants as many cuts and splits of two necklaces.
func checkAlike(t *testing.T, s, other string) {
	t.Helper()
	fewest, ok := impl.FewestCuts(s)
	otherFewest, otherOk := impl.FewestCuts(other)
	if fewest != otherFewest || ok != otherOk {
		t.Errorf("FewestCuts: %d of %q, %d of %q", fewest, s, otherFewest, other)
	}
	three, ok := impl.FewestForThree(s)
	otherThree, otherOk := impl.FewestForThree(other)
	if three != otherThree || ok != otherOk {
		t.Errorf("FewestForThree: %d of %q, %d of %q", three, s, otherThree, other)
	}
	for k := range 5 {
		count, ok := impl.CountSplits(s, k)
		want(t, "CountSplits of "+other, count, ok, oracleCountSplits(other)[k])
	}
}

func TestNamesThatThereAreNot(t *testing.T) {
	for _, s := range []string{"", "a", "abcd", "aabb", "dcbadcbadcbadcba"} {
		for _, names := range badNames() {
			renamed, ok := impl.RenameBeads(s, names)
			wantFailure(t, "RenameBeads", ok, renamed)
		}
	}
	allColourLists(4, -1, 4, func(names []int) bool {
		renamed, ok := impl.RenameBeads("abcd", names)
		if areNamesOf(names) {
			want(t, "RenameBeads", renamed, ok, oracleRenamed("abcd", names))
		} else {
			wantFailure(t, "RenameBeads", ok, renamed)
		}
		return true
	})
}

func TestSortedNecklaces(t *testing.T) {
	allColourLists(4, -1, 17, func(counts []int) bool {
		sorted, ok := impl.SortedBeads(counts)
		if !areCountsOf(counts) {
			wantFailure(t, "SortedBeads", ok, sorted)
			return !t.Failed()
		}
		want(t, "SortedBeads", sorted, ok, oracleSorted(counts))
		want(t, "IsNecklace", impl.IsNecklace(sorted), ok, true)
		return !t.Failed()
	})
	for _, counts := range badCounts() {
		sorted, ok := impl.SortedBeads(counts)
		wantFailure(t, "SortedBeads", ok, sorted)
	}
}

// A sorted necklace with even numbers needs as many cuts as it has kinds.
func TestSortedNecklacesNeedAllCuts(t *testing.T) {
	allColourLists(4, 0, 4, func(halves []int) bool {
		counts := []int{2 * halves[0], 2 * halves[1], 2 * halves[2], 2 * halves[3]}
		if areCountsOf(counts) {
			sorted, _ := impl.SortedBeads(counts)
			kinds, _ := impl.KindsOfBeads(sorted)
			fewest, ok := impl.FewestCuts(sorted)
			want(t, "FewestCuts of "+sorted, fewest, ok, kinds)
			want(t, "KindsOfBeads of "+sorted, kinds, ok, oracleKinds(sorted))
		}
		return true
	})
	for kind, s := range []string{strings.Repeat("a", 16), strings.Repeat("b", 14), "aaaaaabbbbbbbb", "aabbbbbbbbbbcccc", "aabbccdddddddddd"} {
		fewest, ok := impl.FewestCuts(s)
		want(t, "FewestCuts of "+s, fewest, ok, []int{1, 1, 2, 3, 4}[kind])
	}
}

// wantNothingOfBeads wants all functions to fail, whatever else they are told.
func wantNothingOfBeads(t *testing.T, s string) {
	t.Helper()
	want(t, "IsNecklace", impl.IsNecklace(s), true, false)
	counts, ok := impl.CountsOfBeads(s)
	wantFailure(t, "CountsOfBeads", ok, counts)
	split, ok := impl.FirstSplit(s)
	wantFailure(t, "FirstSplit", ok, split)
	for name, f := range map[string]func(string) (int, bool){
		"KindsOfBeads": impl.KindsOfBeads, "FewestCuts": impl.FewestCuts, "HalfWindow": impl.HalfWindow, "FewestForThree": impl.FewestForThree,
	} {
		number, ok := f(s)
		wantFailure(t, name, ok, number)
	}
	for _, cuts := range [][]int{nil, {}, {1}, {1, 3}, {0}, {len(s)}} {
		wantNoCuts(t, s, cuts)
	}
	for _, signs := range [][]int{nil, {}, {1}, slices.Repeat([]int{1}, len(s)), slices.Repeat([]int{-1}, len(s))} {
		wantNoSigns(t, s, signs)
	}
	for _, number := range []int{0, 1, 4, 5, -1, math.MinInt} {
		count, ok := impl.CountSplits(s, number)
		wantFailure(t, "CountSplits", ok, count)
		wantNoWindow(t, s, 0, number)
		wantNoWindow(t, s, number, 0)
		wantNoWindow(t, s, number, 1)
	}
	backwards, ok := impl.ReverseBeads(s)
	wantFailure(t, "ReverseBeads", ok, backwards)
	for _, names := range [][]int{nil, {0, 1, 2, 3}, {3, 2, 1, 0}, {0, 0, 0, 0}} {
		renamed, ok := impl.RenameBeads(s, names)
		wantFailure(t, "RenameBeads", ok, renamed)
	}
}

func TestTextsThatAreNoNecklaces(t *testing.T) {
	for _, s := range badNecklaces() {
		wantNothingOfBeads(t, s)
		if t.Failed() {
			t.Fatalf("the text is %q", s[:min(len(s), 40)])
		}
	}
}

// One other letter, at whichever place, makes a necklace none.
func TestOtherLetters(t *testing.T) {
	for _, s := range []string{"abcd", "aabbccddaabbccdd"} {
		for i := range s {
			for number := range 256 {
				text := s[:i] + string([]byte{byte(number)}) + s[i+1:]
				isOne := number >= 'a' && number <= 'd'
				want(t, "IsNecklace", impl.IsNecklace(text), true, isOne)
				counts, ok := impl.CountsOfBeads(text)
				if isOne {
					want(t, "CountsOfBeads", counts, ok, oracleCounts(text))
				} else {
					wantFailure(t, "CountsOfBeads", ok, counts)
				}
			}
		}
	}
}
