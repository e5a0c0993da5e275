package tests

// Promise 8: kneser graphs need as many colours as told, and no more sets meet than told.

import (
	"math"
	"slices"
	"testing"

	"loop.example/g01160/impl"
)

// kneserFacts are what the chapter tells of all sets of some of the items.
type kneserFacts struct {
	sets, told, meeting, stable []int
	degree, fewest              int
}

func wantKneser(t *testing.T, n, k int, expected kneserFacts) {
	t.Helper()
	sets, ok := impl.SetsOf(n, k)
	want(t, "SetsOf", sets, ok, expected.sets)
	count, ok := impl.CountSets(n, k)
	want(t, "CountSets", count, ok, len(expected.sets))
	degree, ok := impl.DegreeOfSet(n, k)
	want(t, "DegreeOfSet", degree, ok, expected.degree)
	told, ok := impl.ColoursOf(n, k)
	want(t, "ColoursOf", told, ok, expected.told)
	fewest, ok := impl.FewestColours(n, k)
	want(t, "FewestColours", fewest, ok, expected.fewest)
	most, ok := impl.MostMeeting(n, k)
	want(t, "MostMeeting", most, ok, len(expected.meeting))
	meeting, ok := impl.MeetingSets(n, k)
	want(t, "MeetingSets", meeting, ok, expected.meeting)
	stable, ok := impl.StableSets(n, k)
	want(t, "StableSets", stable, ok, expected.stable)
	count, ok = impl.CountStable(n, k)
	want(t, "CountStable", count, ok, len(expected.stable))
	if t.Failed() {
		t.Fatalf("%d of %d items", k, n)
	}
}

func wantApart(t *testing.T, a, b int, expected bool) {
	t.Helper()
	apart, ok := impl.AreApart(a, b)
	want(t, "AreApart", apart, ok, expected)
}

func wantNotAsked(t *testing.T, a, b int) {
	t.Helper()
	apart, ok := impl.AreApart(a, b)
	wantFailure(t, "AreApart", ok, apart)
}

func wantColouring(t *testing.T, n, k int, colours []int, expected bool) {
	t.Helper()
	is, ok := impl.IsColouring(n, k, colours)
	want(t, "IsColouring", is, ok, expected)
}

// wantClash is for lists with a number for each set; nothing is expected of those without a clash.
func wantClash(t *testing.T, n, k int, colours []int, expected ...int) {
	t.Helper()
	two, ok := impl.FirstApart(n, k, colours)
	if len(expected) == 0 {
		wantFailure(t, "FirstApart", ok, two)
	} else {
		want(t, "FirstApart", two, ok, expected)
	}
}

func wantColours(t *testing.T, n, k, count int, expected ...int) {
	t.Helper()
	colours, ok := impl.ColourWith(n, k, count)
	want(t, "ColourWith", colours, ok, expected)
}

func wantNoColours(t *testing.T, n, k, count int) {
	t.Helper()
	colours, ok := impl.ColourWith(n, k, count)
	wantFailure(t, "ColourWith", ok, colours)
}

func wantStableColours(t *testing.T, n, k, count int, expected ...int) {
	t.Helper()
	colours, ok := impl.ColourStableWith(n, k, count)
	want(t, "ColourStableWith", colours, ok, expected)
}

func wantNoStableColours(t *testing.T, n, k, count int) {
	t.Helper()
	colours, ok := impl.ColourStableWith(n, k, count)
	wantFailure(t, "ColourStableWith", ok, colours)
}

func powersOfTwo(n int) []int {
	powers := []int{1}
	for len(powers) < n {
		powers = append(powers, 2*powers[len(powers)-1])
	}
	return powers
}

// counting has the numbers from 0 on.
func counting(n int) []int {
	var numbers []int
	for i := range n {
		numbers = append(numbers, i)
	}
	return numbers
}

func TestLimitsOfChapter8(t *testing.T) {
	if impl.MaxItems != 8 || impl.MaxColoured != 6 {
		t.Error("limits", impl.MaxItems, impl.MaxColoured)
	}
}

func TestExampleOfChapter8(t *testing.T) {
	sets := []int{3, 5, 6, 9, 10, 12, 17, 18, 20, 24}
	wantKneser(t, 5, 2, kneserFacts{
		sets: sets, told: []int{0, 0, 1, 0, 1, 2, 0, 1, 2, 2}, meeting: []int{3, 5, 9, 17}, stable: []int{5, 9, 10, 18, 20}, degree: 3, fewest: 3})
	for _, two := range [][2]int{{3, 12}, {3, 20}, {3, 24}, {24, 6}, {5, 10}, {5, 18}, {9, 18}, {9, 20}, {10, 20}} {
		wantApart(t, two[0], two[1], true)
	}
	for _, two := range [][2]int{{3, 5}, {3, 3}, {24, 12}, {5, 9}, {9, 10}, {10, 18}, {18, 20}, {20, 5}} {
		wantApart(t, two[0], two[1], false)
	}
	wantColours(t, 5, 2, 3, 0, 0, 0, 1, 1, 1, 2, 2, 2, 1)
	wantColours(t, 5, 2, 4, 0, 0, 0, 1, 1, 1, 2, 2, 2, 1)
	wantNoColours(t, 5, 2, 2)
	wantNoColours(t, 5, 2, 1)
	wantStableColours(t, 5, 2, 3, 0, 0, 1, 1, 2)
	wantStableColours(t, 5, 2, 8, 0, 0, 1, 1, 2)
	wantNoStableColours(t, 5, 2, 2)
	wantColouring(t, 5, 2, []int{0, 0, 1, 0, 1, 2, 0, 1, 2, 2}, true)
	wantClash(t, 5, 2, []int{0, 0, 1, 0, 1, 2, 0, 1, 2, 2})
	wantColouring(t, 5, 2, []int{0, 0, 1, 0, 1, 1, 0, 1, 1, 1}, false)
	wantClash(t, 5, 2, []int{0, 0, 1, 0, 1, 1, 0, 1, 1, 1}, 6, 24)
	wantClash(t, 5, 2, make([]int, 10), 3, 12)
}

func TestOneItem(t *testing.T) {
	wantKneser(t, 1, 1, kneserFacts{sets: []int{1}, told: []int{0}, meeting: []int{1}, stable: []int{1}, degree: 0, fewest: 1})
	for count := 1; count <= 8; count++ {
		wantColours(t, 1, 1, count, 0)
		wantStableColours(t, 1, 1, count, 0)
	}
	for _, colour := range []int{0, 1, 8, math.MaxInt} {
		wantColouring(t, 1, 1, []int{colour}, true)
		wantClash(t, 1, 1, []int{colour})
	}
	wantColouring(t, 1, 1, []int{-1}, false)
	wantClash(t, 1, 1, []int{-1})
}

func TestTwoItems(t *testing.T) {
	wantKneser(t, 2, 1, kneserFacts{sets: []int{1, 2}, told: []int{0, 1}, meeting: []int{1}, stable: []int{1, 2}, degree: 1, fewest: 2})
	wantKneser(t, 2, 2, kneserFacts{sets: []int{3}, told: []int{0}, meeting: []int{3}, degree: 0, fewest: 1})
	wantNoColours(t, 2, 1, 1)
	wantColours(t, 2, 1, 2, 0, 1)
	wantNoStableColours(t, 2, 1, 1)
	wantStableColours(t, 2, 1, 2, 0, 1)
	wantColours(t, 2, 2, 1, 0)
	wantStableColours(t, 2, 2, 1)
	wantColouring(t, 2, 1, []int{5, 5}, false)
	wantClash(t, 2, 1, []int{5, 5}, 1, 2)
	wantColouring(t, 2, 1, []int{5, 4}, true)
	wantClash(t, 2, 1, []int{5, 4})
}

func TestSetsOfOneItem(t *testing.T) {
	for n := 2; n <= 8; n++ {
		powers, numbers := powersOfTwo(n), counting(n)
		wantKneser(t, n, 1, kneserFacts{sets: powers, told: numbers, meeting: []int{1}, stable: powers, degree: n - 1, fewest: n})
		wantColouring(t, n, 1, numbers, true)
		alike := slices.Clone(numbers)
		alike[n-1] = 0
		wantColouring(t, n, 1, alike, false)
		wantClash(t, n, 1, alike, 1, powers[n-1])
		if n <= 6 {
			wantColours(t, n, 1, n, numbers...)
			wantNoColours(t, n, 1, n-1)
		}
		if n <= 7 {
			wantStableColours(t, n, 1, n, numbers...)
			wantNoStableColours(t, n, 1, n-1)
		}
	}
}

func TestSetsOfAllItems(t *testing.T) {
	for n := 2; n <= 8; n++ {
		all := []int{2*powersOfTwo(n)[n-1] - 1}
		wantKneser(t, n, n, kneserFacts{sets: all, told: []int{0}, meeting: all, degree: 0, fewest: 1})
		for _, colour := range []int{0, 1, math.MaxInt} {
			wantColouring(t, n, n, []int{colour}, true)
			wantClash(t, n, n, []int{colour})
		}
	}
}

// Each set of half of the items is apart from that of the others alone.
func TestSetsOfHalfOfTheItems(t *testing.T) {
	wantKneser(t, 4, 2, kneserFacts{
		sets: []int{3, 5, 6, 9, 10, 12}, told: []int{0, 0, 1, 0, 1, 1}, meeting: []int{3, 5, 9}, stable: []int{5, 10}, degree: 1, fewest: 2})
	wantColours(t, 4, 2, 2, 0, 0, 0, 1, 1, 1)
	wantNoColours(t, 4, 2, 1)
	wantStableColours(t, 4, 2, 2, 0, 1)
	wantNoStableColours(t, 4, 2, 1)
	wantColours(t, 6, 3, 2, slices.Concat(make([]int, 10), slices.Repeat([]int{1}, 10))...)
	wantNoColours(t, 6, 3, 1)
	wantStableColours(t, 6, 3, 2, 0, 1)
	stable, ok := impl.StableSets(8, 4)
	want(t, "StableSets", stable, ok, []int{0b01010101, 0b10101010})
	most, ok := impl.MostMeeting(8, 4)
	want(t, "MostMeeting", most, ok, 35)
	fewest, ok := impl.FewestColours(8, 4)
	want(t, "FewestColours", fewest, ok, 2)
	degree, ok := impl.DegreeOfSet(8, 4)
	want(t, "DegreeOfSet", degree, ok, 1)
}

func TestSetsThatAllMeet(t *testing.T) {
	sets := []int{7, 11, 13, 14, 19, 21, 22, 25, 26, 28}
	wantKneser(t, 5, 3, kneserFacts{sets: sets, told: make([]int, 10), meeting: sets, degree: 0, fewest: 1})
	wantKneser(t, 3, 2, kneserFacts{sets: []int{3, 5, 6}, told: make([]int, 3), meeting: []int{3, 5, 6}, degree: 0, fewest: 1})
	for count := 1; count <= 8; count++ {
		wantColours(t, 5, 3, count, make([]int, 10)...)
		wantStableColours(t, 5, 3, count)
		wantStableColours(t, 7, 4, count)
	}
	wantColouring(t, 5, 3, slices.Repeat([]int{math.MaxInt}, 10), true)
	wantClash(t, 5, 3, slices.Repeat([]int{math.MaxInt}, 10))
	wantColouring(t, 5, 3, slices.Repeat([]int{-1}, 10), false)
	wantClash(t, 5, 3, slices.Repeat([]int{-1}, 10))
}

func TestGreatestKneserGraphs(t *testing.T) {
	wantColours(t, 6, 2, 4, 0, 0, 0, 1, 1, 1, 2, 2, 2, 1, 3, 3, 3, 1, 2)
	wantNoColours(t, 6, 2, 3)
	wantStableColours(t, 7, 2, 5, 0, 0, 1, 0, 1, 2, 0, 1, 2, 3, 1, 2, 3, 4)
	wantNoStableColours(t, 7, 2, 4)
	wantStableColours(t, 7, 3, 3, 0, 0, 0, 1, 1, 1, 2)
	wantNoStableColours(t, 7, 3, 2)
	stable, ok := impl.StableSets(7, 3)
	want(t, "StableSets", stable, ok, []int{21, 37, 41, 42, 74, 82, 84})
	stable, ok = impl.StableSets(8, 3)
	want(t, "StableSets", stable, ok, []int{21, 37, 41, 42, 69, 73, 74, 81, 82, 84, 138, 146, 148, 162, 164, 168})
	told, ok := impl.ColoursOf(7, 3)
	want(t, "ColoursOf", told, ok, []int{0, 0, 0, 1, 0, 0, 1, 0, 1, 2, 0, 0, 1, 0, 1, 2, 0, 1, 2, 2, 0, 0, 1, 0, 1, 2, 0, 1, 2, 2, 0, 1, 2, 2, 2})
	for k, expected := range [][3]int{{8, 8, 1}, {28, 6, 7}, {56, 4, 21}, {70, 2, 35}, {56, 1, 56}, {28, 1, 28}, {8, 1, 8}, {1, 1, 1}} {
		count, ok := impl.CountSets(8, k+1)
		want(t, "CountSets", count, ok, expected[0])
		fewest, ok := impl.FewestColours(8, k+1)
		want(t, "FewestColours", fewest, ok, expected[1])
		most, ok := impl.MostMeeting(8, k+1)
		want(t, "MostMeeting", most, ok, expected[2])
	}
}

func TestAllKneserGraphs(t *testing.T) {
	allKnesers(func(n, k int) {
		sets := oracleSets(n, k)
		apart := apartness(sets)
		wantKneser(t, n, k, kneserFacts{
			sets: setNumbers(sets), told: oracleToldColours(n, k), meeting: setNumbers(oracleMeeting(n, k)), stable: setNumbers(oracleStable(n, k)),
			degree: len(apart[len(sets)-1]), fewest: oracleFewest(n, k)})
	})
}

// The numbers that the chapter tells by formulas.
func TestFormulasOfChapter8(t *testing.T) {
	allKnesers(func(n, k int) {
		sets, fewest, most, stable := oracleChoices(n, k), n-2*k+2, oracleChoices(n-1, k-1), 0
		if 2*k <= n {
			stable = n * oracleChoices(n-k, k) / (n - k)
		} else {
			fewest, most = 1, sets
		}
		if k == 1 {
			stable = n
		}
		got, ok := impl.CountSets(n, k)
		want(t, "CountSets", got, ok, sets)
		got, ok = impl.DegreeOfSet(n, k)
		want(t, "DegreeOfSet", got, ok, oracleChoices(n-k, k))
		got, ok = impl.FewestColours(n, k)
		want(t, "FewestColours", got, ok, fewest)
		got, ok = impl.MostMeeting(n, k)
		want(t, "MostMeeting", got, ok, most)
		got, ok = impl.CountStable(n, k)
		want(t, "CountStable", got, ok, stable)
	})
}

// As many colours as told are needed, as a search finds none with less, and are enough, as ColoursOf has no more.
func TestKneserGraphsNeedAsManyColoursAsTold(t *testing.T) {
	allKnesers(func(n, k int) {
		fewest, ok := impl.FewestColours(n, k)
		want(t, "FewestColours", fewest, ok, oracleFewest(n, k))
		told, ok := impl.ColoursOf(n, k)
		want(t, "whether ColoursOf is a colouring", oracleIsColouring(oracleSets(n, k), told), ok, true)
		wantColouring(t, n, k, told, true)
		wantClash(t, n, k, told)
		used := slices.Compact(slices.Sorted(slices.Values(told)))
		want(t, "the colours of ColoursOf", used, ok, counting(fewest))
	})
}

// No more sets meet than told, as a search finds no more, and so many do.
func TestNoMoreSetsMeetThanTold(t *testing.T) {
	allKnesers(func(n, k int) {
		most, ok := impl.MostMeeting(n, k)
		want(t, "MostMeeting", most, ok, oracleMost(n, k))
		meeting, ok := impl.MeetingSets(n, k)
		want(t, "the number of MeetingSets", len(meeting), ok, most)
		sets, _ := impl.SetsOf(n, k)
		for i, a := range meeting {
			if !slices.Contains(sets, a) {
				t.Errorf("%d is no set of %d of %d items", a, k, n)
			}
			for _, b := range meeting[:i] {
				wantApart(t, a, b, false)
				if b >= a {
					t.Errorf("%d comes before %d", b, a)
				}
			}
		}
	})
}

// The degree is that of each set, whichever one is looked at.
func TestDegreesAreThoseOfEachSet(t *testing.T) {
	allKnesers(func(n, k int) {
		sets, _ := impl.SetsOf(n, k)
		for _, a := range sets {
			count := 0
			for _, b := range sets {
				if apart, ok := impl.AreApart(a, b); ok && apart {
					count++
				}
			}
			degree, ok := impl.DegreeOfSet(n, k)
			want(t, "DegreeOfSet", degree, ok, count)
		}
	})
}

func TestSetsThatAreApart(t *testing.T) {
	var lists [256][]int
	for k := 0; k <= 8; k++ {
		for _, items := range itemLists(0, 8, k) {
			lists[setNumber(items)] = items
		}
	}
	for a := range 256 {
		for b := range 256 {
			wantApart(t, a, b, areApartLists(lists[a], lists[b]))
		}
	}
	wantApart(t, 0, 0, true)
	wantApart(t, 0, 255, true)
	wantApart(t, 255, 255, false)
	wantApart(t, 85, 170, true)
	for _, bad := range []int{-1, -2, -255, -256, 256, 257, 511, 1 << 32, 1<<32 + 1, math.MaxInt, math.MinInt, math.MinInt + 1} {
		for _, other := range []int{0, 1, 2, 255, -1, 256, bad} {
			wantNotAsked(t, bad, other)
			wantNotAsked(t, other, bad)
		}
	}
}

// Each set that is stable is one of those of the whole graph, and turning the circle of items keeps it stable.
func TestStableSetsTurn(t *testing.T) {
	allKnesers(func(n, k int) {
		sets, _ := impl.SetsOf(n, k)
		stable, _ := impl.StableSets(n, k)
		for i, set := range stable {
			turned := set * 2
			if turned >= 1<<n {
				turned -= 1<<n - 1
			}
			if !slices.Contains(sets, set) || !slices.Contains(stable, turned) || i > 0 && stable[i-1] >= set {
				t.Errorf("StableSets(%d, %d) = %v", n, k, stable)
			}
		}
	})
}

func TestFirstColours(t *testing.T) {
	for n := 1; n <= 7; n++ {
		for k := 1; k <= n; k++ {
			sets, stable := oracleSets(n, k), oracleStable(n, k)
			for count := 1; count <= 8; count++ {
				expected, found := oracleFirstColours(sets, count)
				if found != (count >= oracleFewest(n, k)) {
					t.Fatalf("%d of %d items have colours with %d ones: %v", k, n, count, found)
				}
				switch {
				case n > 6 || !found:
					wantNoColours(t, n, k, count)
				default:
					wantColours(t, n, k, count, expected...)
					wantColouring(t, n, k, expected, true)
				}
				expected, found = oracleFirstColours(stable, count)
				if found != (len(stable) == 0 || count >= oracleFewest(n, k)) {
					t.Fatalf("stable sets of %d of %d items have colours with %d ones: %v", k, n, count, found)
				}
				if found {
					wantStableColours(t, n, k, count, expected...)
				} else {
					wantNoStableColours(t, n, k, count)
				}
			}
		}
	}
}

// The first colours are the first ones of all lists in their order that are a colouring.
func TestFirstColoursAmongAllLists(t *testing.T) {
	tried := 0
	for n := 1; n <= 6; n++ {
		for k := 1; k <= n; k++ {
			for count := 1; count <= 8; count++ {
				if math.Pow(float64(count), float64(oracleChoices(n, k))) > 70000 {
					continue
				}
				tried++
				sets := oracleSets(n, k)
				var first []int
				allColourLists(len(sets), 0, count-1, func(list []int) bool {
					if oracleIsColouring(sets, list) {
						first = slices.Clone(list)
					}
					return first == nil
				})
				if first == nil {
					wantNoColours(t, n, k, count)
				} else {
					wantColours(t, n, k, count, first...)
				}
			}
		}
	}
	if tried < 80 {
		t.Errorf("only %d graphs and counts were tried", tried)
	}
}

func TestItemsOfColouredSetsAreFewer(t *testing.T) {
	for k := 1; k <= 8; k++ {
		for count := 1; count <= 8; count++ {
			wantNoColours(t, 8, k, count)
			wantNoStableColours(t, 8, k, count)
			if k <= 7 {
				wantNoColours(t, 7, k, count)
			}
		}
	}
}

func checkColours(t *testing.T, n, k int, colours []int) {
	t.Helper()
	sets := oracleSets(n, k)
	wantColouring(t, n, k, colours, oracleIsColouring(sets, colours))
	wantClash(t, n, k, colours, oracleFirstApart(sets, colours)...)
	if t.Failed() {
		t.Fatalf("%d of %d items: %v", k, n, colours)
	}
}

func TestListsOfColours(t *testing.T) {
	allKnesers(func(n, k int) {
		for _, colours := range goodColours(n, k) {
			wantColouring(t, n, k, colours, true)
			wantClash(t, n, k, colours)
		}
		for _, colours := range slices.Concat(goodColours(n, k), otherColours(n, k)) {
			checkColours(t, n, k, colours)
		}
		for _, colours := range misshapenColours(n, k) {
			wantColouring(t, n, k, colours, false)
			wantClash(t, n, k, colours)
		}
	})
}

func TestAllListsOfFewColours(t *testing.T) {
	for _, g := range []struct{ n, k, least, greatest int }{
		{1, 1, -1, 3}, {2, 1, -1, 3}, {2, 2, -1, 3}, {3, 1, -1, 3}, {3, 2, -1, 3}, {4, 1, -1, 3}, {4, 2, -1, 1}, {4, 3, -1, 2}, {5, 1, -1, 1}, {5, 4, -1, 1}, {5, 2, 0, 1},
	} {
		allColourLists(oracleChoices(g.n, g.k), g.least, g.greatest, func(colours []int) bool {
			checkColours(t, g.n, g.k, colours)
			return true
		})
	}
}

// A colour that is that of a set that is apart, and nothing else, makes a colouring none.
func TestEachTwoSetsThatAreApart(t *testing.T) {
	allKnesers(func(n, k int) {
		sets := oracleSets(n, k)
		for i, near := range apartness(sets) {
			for j := range i {
				colours := counting(len(sets))
				colours[i] = j
				isApart := slices.Contains(near, j)
				wantColouring(t, n, k, colours, !isApart)
				if isApart {
					wantClash(t, n, k, colours, setNumber(sets[j]), setNumber(sets[i]))
				} else {
					wantClash(t, n, k, colours)
				}
			}
		}
	})
}

// Numbers below 0 are no colours, but FirstApart asks for a list of as many numbers alone.
func TestNumbersBelowZero(t *testing.T) {
	allKnesers(func(n, k int) {
		for _, number := range []int{-1, -2, -1 << 32, math.MinInt, math.MinInt + 1} {
			for _, i := range []int{0, oracleChoices(n, k) / 2, oracleChoices(n, k) - 1} {
				colours := oracleToldColours(n, k)
				colours[i] = number
				wantColouring(t, n, k, colours, false)
				wantClash(t, n, k, colours)
			}
		}
	})
	wantClash(t, 4, 2, []int{-1, -2, -3, -3, 2, 4}, 6, 9)
	wantClash(t, 4, 2, []int{-1, -2, -3, 3, 2, -1}, 3, 12)
}

// Colours that differ in their high bits alone are different ones.
func TestGreatColours(t *testing.T) {
	for _, great := range []int{1 << 8, 1 << 16, 1 << 31, 1 << 32, 1 << 62, math.MaxInt} {
		wantColouring(t, 2, 1, []int{great, 0}, true)
		wantClash(t, 2, 1, []int{great, 0})
		wantColouring(t, 2, 1, []int{great, great}, false)
		wantClash(t, 2, 1, []int{great, great}, 1, 2)
		wantColouring(t, 4, 2, []int{great, great, great, great - 1, great - 1, great - 1}, true)
	}
}

// wantNothingOfSets wants all functions to fail that take a number of items and that of those of each set.
func wantNothingOfSets(t *testing.T, n, k int) {
	t.Helper()
	for name, f := range map[string]func(int, int) ([]int, bool){
		"SetsOf": impl.SetsOf, "ColoursOf": impl.ColoursOf, "MeetingSets": impl.MeetingSets, "StableSets": impl.StableSets,
	} {
		list, ok := f(n, k)
		wantFailure(t, name, ok, list)
	}
	for name, f := range map[string]func(int, int) (int, bool){
		"CountSets": impl.CountSets, "DegreeOfSet": impl.DegreeOfSet, "FewestColours": impl.FewestColours, "MostMeeting": impl.MostMeeting, "CountStable": impl.CountStable,
	} {
		number, ok := f(n, k)
		wantFailure(t, name, ok, number)
	}
	for _, colours := range [][]int{nil, {}, {0}, {-1}, {0, 1}, {0, 0}, make([]int, 8), make([]int, 9), make([]int, 70)} {
		is, ok := impl.IsColouring(n, k, colours)
		wantFailure(t, "IsColouring", ok, is)
		wantClash(t, n, k, colours)
	}
	for _, count := range []int{0, 1, 2, 8, 9} {
		wantNoColours(t, n, k, count)
		wantNoStableColours(t, n, k, count)
	}
}

func TestSetsThatThereAreNot(t *testing.T) {
	for _, bad := range badKnesers() {
		wantNothingOfSets(t, bad[0], bad[1])
		if t.Failed() {
			t.Fatalf("%d of %d items", bad[1], bad[0])
		}
	}
}

func TestNumbersOfColoursThatThereAreNot(t *testing.T) {
	allKnesers(func(n, k int) {
		for _, count := range []int{0, -1, -2, -8, 9, 10, 16, 70, 1 << 32, 1<<32 + 8, -1<<32 + 8, math.MaxInt, math.MinInt, math.MinInt + 8} {
			wantNoColours(t, n, k, count)
			wantNoStableColours(t, n, k, count)
		}
	})
}
