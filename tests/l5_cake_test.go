package tests

// Promise 5: a full cell has all owners and favourites, and the envy of its cut is bounded.

import (
	"math"
	"slices"
	"testing"

	"loop.example/g01160/impl"
)

var badPersons = []int{-1, -2, -3, 3, 4, 5, 256, 1 << 32, math.MaxInt, math.MinInt}

// manySides have among them those whose number of points overflows to that of a side.
var manySides = append(slices.Clone(badSides), 11, -8, 1<<31, 1<<32, 1<<32+3, -1<<31, 1<<62, 1<<62+1, 1<<63-2, -1<<62, math.MinInt+1, math.MinInt+3)

func areTastes(t *testing.T, n int, tastes [][]int, expected bool) {
	t.Helper()
	are, ok := impl.AreTastes(n, tastes)
	want(t, "AreTastes", are, ok, expected)
}

func wantOwners(t *testing.T, n int, expected ...int) {
	t.Helper()
	for i, person := range expected {
		owner, ok := impl.OwnerAt(n, i)
		want(t, "OwnerAt", owner, ok, person)
	}
}

func wantPieces(t *testing.T, n int, tastes [][]int, person, i int, expected ...int) {
	t.Helper()
	pieces, ok := impl.PiecesOf(n, tastes, person, i)
	want(t, "PiecesOf", pieces, ok, expected)
}

// wantFavourites has the favourite of a person at each point.
func wantFavourites(t *testing.T, n int, tastes [][]int, person int, expected ...int) {
	t.Helper()
	for i, piece := range expected {
		favourite, ok := impl.FavouriteOf(n, tastes, person, i)
		want(t, "FavouriteOf", favourite, ok, piece)
	}
}

func wantLabels(t *testing.T, n int, tastes [][]int, expected ...int) {
	t.Helper()
	labels, ok := impl.CakeLabels(n, tastes)
	want(t, "CakeLabels", labels, ok, expected)
}

func wantFairCell(t *testing.T, n int, tastes [][]int, expected int) {
	t.Helper()
	cell, ok := impl.FairCell(n, tastes)
	want(t, "FairCell", cell, ok, expected)
}

func wantFairCut(t *testing.T, n int, tastes [][]int, expected int, expectedPieces ...int) {
	t.Helper()
	point, pieces, ok := impl.FairCut(n, tastes)
	want(t, "FairCut", point, ok, expected)
	want(t, "the pieces of FairCut", pieces, ok, expectedPieces)
}

func wantEnvy(t *testing.T, n int, tastes [][]int, i int, pieces []int, expected int) {
	t.Helper()
	envy, ok := impl.EnvyAt(n, tastes, i, pieces)
	want(t, "EnvyAt", envy, ok, expected)
}

func wantSum(t *testing.T, n int, tastes [][]int, i int, pieces []int, expected int) {
	t.Helper()
	sum, ok := impl.SumAt(n, tastes, i, pieces)
	want(t, "SumAt", sum, ok, expected)
}

func wantBestCut(t *testing.T, n int, tastes [][]int, envy, expected int, expectedPieces ...int) {
	t.Helper()
	least, ok := impl.LeastEnvy(n, tastes)
	want(t, "LeastEnvy", least, ok, envy)
	point, pieces, ok := impl.BestCut(n, tastes)
	want(t, "BestCut", point, ok, expected)
	want(t, "the pieces of BestCut", pieces, ok, expectedPieces)
}

func wantGreatest(t *testing.T, n int, tastes [][]int, expected int) {
	t.Helper()
	greatest, ok := impl.GreatestTaste(n, tastes)
	want(t, "GreatestTaste", greatest, ok, expected)
}

func wantRentEnvy(t *testing.T, n int, worths [][]int, i int, rooms []int, expected int) {
	t.Helper()
	envy, ok := impl.RentEnvy(n, worths, i, rooms)
	want(t, "RentEnvy", envy, ok, expected)
}

func wantFairRent(t *testing.T, n int, worths [][]int, expected int, expectedRooms ...int) {
	t.Helper()
	point, rooms, ok := impl.FairRent(n, worths)
	want(t, "FairRent", point, ok, expected)
	want(t, "the rooms of FairRent", rooms, ok, expectedRooms)
}

func wantBestRooms(t *testing.T, worths [][]int, expected ...int) {
	t.Helper()
	rooms, ok := impl.BestRooms(worths)
	want(t, "BestRooms", rooms, ok, expected)
}

func TestMaxTaste(t *testing.T) {
	if impl.MaxTaste != 9 {
		t.Error("MaxTaste", impl.MaxTaste)
	}
}

func TestExampleOfChapter5(t *testing.T) {
	tastes := [][]int{{1, 1, 1}, {1, 1, 1}, {1, 1, 1}}
	areTastes(t, 3, tastes, true)
	for person := range 3 {
		wantPieces(t, 3, tastes, person, 4, 1, 1, 1)
		wantPieces(t, 3, tastes, person, 5, 1, 0, 2)
		wantFavourites(t, 3, tastes, person, 0, 0, 0, 1, 0, 2, 1, 1, 2, 2)
	}
	wantOwners(t, 3, 0, 1, 2, 2, 0, 1, 0, 1, 2, 0)
	wantLabels(t, 3, tastes, 0, 0, 0, 1, 0, 2, 1, 1, 2, 2)
	wantFairCell(t, 3, tastes, 7)
	wantFairCut(t, 3, tastes, 4, 0, 1, 2)
	for _, pieces := range oracleSharings() {
		wantEnvy(t, 3, tastes, 4, pieces, 0)
		wantSum(t, 3, tastes, 4, pieces, 3)
		wantEnvy(t, 3, tastes, 0, pieces, 3)
		wantSum(t, 3, tastes, 0, pieces, 3)
		wantEnvy(t, 3, tastes, 1, pieces, 2)
	}
	wantBestCut(t, 3, tastes, 0, 4, 0, 1, 2)
	wantGreatest(t, 3, tastes, 1)
}

// All points are corners, at which one piece is the whole cake.
func TestCakeOfOneSlice(t *testing.T) {
	tastes := [][]int{{2}, {9}, {5}}
	wantOwners(t, 1, 0, 1, 2)
	for person := range 3 {
		wantFavourites(t, 1, tastes, person, 0, 1, 2)
	}
	wantPieces(t, 1, tastes, 1, 0, 9, 0, 0)
	wantPieces(t, 1, tastes, 2, 1, 0, 5, 0)
	wantPieces(t, 1, tastes, 0, 2, 0, 0, 2)
	wantLabels(t, 1, tastes, 0, 1, 2)
	wantFairCell(t, 1, tastes, 0)
	wantFairCut(t, 1, tastes, 0, 0, 1, 2)
	wantEnvy(t, 1, tastes, 0, []int{0, 1, 2}, 9)
	wantEnvy(t, 1, tastes, 0, []int{1, 0, 2}, 5)
	wantEnvy(t, 1, tastes, 1, []int{0, 2, 1}, 9)
	wantSum(t, 1, tastes, 0, []int{1, 0, 2}, 9)
	wantSum(t, 1, tastes, 2, []int{2, 0, 1}, 2)
	wantBestCut(t, 1, tastes, 5, 0, 1, 0, 2)
	wantGreatest(t, 1, tastes, 9)
}

func TestCakeOfTwoSlices(t *testing.T) {
	tastes := [][]int{{1, 0}, {0, 1}, {9, 9}}
	wantOwners(t, 2, 0, 1, 2, 2, 0, 1)
	wantPieces(t, 2, tastes, 0, 2, 1, 0, 0)
	wantPieces(t, 2, tastes, 1, 2, 0, 0, 1)
	wantPieces(t, 2, tastes, 2, 2, 9, 0, 9)
	wantPieces(t, 2, tastes, 2, 3, 0, 18, 0)
	wantFavourites(t, 2, tastes, 0, 0, 0, 0, 1, 1, 2)
	wantFavourites(t, 2, tastes, 1, 0, 1, 2, 1, 2, 2)
	wantFavourites(t, 2, tastes, 2, 0, 0, 0, 1, 1, 2)
	wantLabels(t, 2, tastes, 0, 1, 0, 1, 1, 2)
	wantFairCell(t, 2, tastes, 3)
	wantFairCut(t, 2, tastes, 2, 1, 2, 0)
	wantEnvy(t, 2, tastes, 2, []int{1, 2, 0}, 1)
	wantEnvy(t, 2, tastes, 2, []int{0, 1, 2}, 1)
	wantEnvy(t, 2, tastes, 2, []int{0, 2, 1}, 9)
	wantEnvy(t, 2, tastes, 0, []int{0, 1, 2}, 18)
	wantSum(t, 2, tastes, 2, []int{0, 2, 1}, 2)
	wantSum(t, 2, tastes, 2, []int{0, 1, 2}, 10)
	wantBestCut(t, 2, tastes, 1, 0, 1, 2, 0)
	wantGreatest(t, 2, tastes, 9)
}

// Pieces without slices are no favourites, even if no other one is worth more.
func TestCakesThatAreWorthNothing(t *testing.T) {
	for n := 1; n <= impl.MaxSide; n++ {
		tastes := rowsBy(n, func(person, k int) int { return 0 })
		for i, p := range oraclePoints(n) {
			least := slices.IndexFunc(p, func(size int) bool { return size > 0 })
			for person := range 3 {
				wantPieces(t, n, tastes, person, i, 0, 0, 0)
				favourite, ok := impl.FavouriteOf(n, tastes, person, i)
				want(t, "FavouriteOf", favourite, ok, least)
			}
			wantEnvy(t, n, tastes, i, []int{2, 0, 1}, 0)
			wantSum(t, n, tastes, i, []int{2, 0, 1}, 0)
		}
		wantBestCut(t, n, tastes, 0, 0, 0, 1, 2)
		wantGreatest(t, n, tastes, 0)
	}
	// The first slice is worth nothing, and the last ones are, too.
	tastes := [][]int{{0, 3, 0}, {0, 0, 0}, {0, 3, 3}}
	wantFavourites(t, 3, tastes, 0, 0, 0, 0, 1, 1, 2, 1, 1, 2, 2)
	wantFavourites(t, 3, tastes, 1, 0, 0, 0, 0, 0, 0, 1, 1, 1, 2)
	wantFavourites(t, 3, tastes, 2, 0, 0, 0, 1, 1, 2, 1, 1, 2, 2)
	wantLabels(t, 3, tastes, 0, 0, 0, 1, 1, 0, 1, 1, 2, 2)
}

func TestGreatestCake(t *testing.T) {
	tastes := rowsBy(8, func(person, k int) int { return 9 })
	areTastes(t, 8, tastes, true)
	wantPieces(t, 8, tastes, 1, 0, 72, 0, 0)
	wantPieces(t, 8, tastes, 2, 17, 27, 27, 18)
	wantSum(t, 8, tastes, 17, []int{1, 2, 0}, 72)
	wantEnvy(t, 8, tastes, 0, []int{0, 1, 2}, 72)
	wantEnvy(t, 8, tastes, 17, []int{0, 1, 2}, 9)
	wantBestCut(t, 8, tastes, 9, 17, 0, 1, 2)
	wantGreatest(t, 8, tastes, 9)
}

func TestRents(t *testing.T) {
	worths := [][]int{{5, 1, 1}, {1, 5, 1}, {1, 1, 5}}
	wantRentEnvy(t, 3, worths, 0, []int{0, 1, 2}, 0)
	wantRentEnvy(t, 3, worths, 0, []int{1, 0, 2}, 7)
	wantRentEnvy(t, 3, worths, 4, []int{1, 0, 2}, 4)
	wantFairRent(t, 3, worths, 0, 0, 1, 2)
	wantBestRooms(t, worths, 0, 1, 2)
	// The room that all like costs so much that nobody envies who has it.
	worths = [][]int{{6, 0, 0}, {5, 0, 0}, {4, 0, 0}}
	wantRentEnvy(t, 5, worths, 0, []int{0, 1, 2}, 0)
	wantRentEnvy(t, 5, worths, 0, []int{2, 0, 1}, 1)
	wantRentEnvy(t, 1, worths, 2, []int{0, 1, 2}, 5)
	wantRentEnvy(t, 8, worths, 0, []int{0, 1, 2}, 2)
	wantFairRent(t, 5, worths, 0, 0, 1, 2)
	wantFairRent(t, 8, worths, 4, 0, 1, 2)
	wantFairRent(t, 1, worths, 0, 0, 1, 2)
	wantBestRooms(t, worths, 0, 1, 2)
}

// If several points and rooms are equally good, the first ones are told.
func TestEquallyGoodRooms(t *testing.T) {
	nothing := rowsBy(3, func(person, room int) int { return 0 })
	wantBestRooms(t, nothing, 0, 1, 2)
	wantFairRent(t, 8, nothing, 17, 0, 1, 2)
	wantRentEnvy(t, 8, nothing, 17, []int{0, 1, 2}, 1)
	wantRentEnvy(t, 8, nothing, 0, []int{2, 1, 0}, 8)
	wantFairRent(t, 1, nothing, 0, 0, 1, 2)
	wantFairRent(t, 6, nothing, 12, 0, 1, 2)
	wantBestRooms(t, rowsBy(3, func(person, room int) int { return 20 }), 0, 1, 2)
	wantBestRooms(t, [][]int{{0, 20, 0}, {0, 20, 0}, {0, 0, 0}}, 0, 1, 2)
	wantBestRooms(t, [][]int{{0, 0, 20}, {0, 0, 20}, {1, 0, 0}}, 1, 2, 0)
	wantBestRooms(t, [][]int{{0, 20, 0}, {0, 0, 20}, {20, 0, 0}}, 1, 2, 0)
	wantBestRooms(t, [][]int{{0, 1, 0}, {0, 0, 0}, {0, 0, 0}}, 1, 0, 2)
}

func checkPoint(t *testing.T, n int, tastes [][]int, i int) {
	t.Helper()
	worths := oracleCakeAt(n, tastes, i)
	for person := range 3 {
		wantPieces(t, n, tastes, person, i, worths[person]...)
		favourite, ok := impl.FavouriteOf(n, tastes, person, i)
		want(t, "FavouriteOf", favourite, ok, oracleFavourite(n, tastes, person, i))
	}
	for _, pieces := range oracleSharings() {
		wantEnvy(t, n, tastes, i, pieces, oracleEnvy(worths, pieces))
		wantSum(t, n, tastes, i, pieces, oracleSum(worths, pieces))
	}
}

func checkCake(t *testing.T, n int, tastes [][]int) {
	t.Helper()
	areTastes(t, n, tastes, true)
	for i := range oraclePoints(n) {
		checkPoint(t, n, tastes, i)
	}
	wantLabels(t, n, tastes, oracleCakeLabels(n, tastes)...)
	wantFairCell(t, n, tastes, oracleFound(n, oracleCakeLabels(n, tastes)))
	point, pieces := oracleFairCut(n, tastes)
	wantFairCut(t, n, tastes, point, pieces...)
	best := oracleBestCut(n, tastes)
	wantBestCut(t, n, tastes, best.envy, best.point, best.own...)
	wantGreatest(t, n, tastes, slices.Max(slices.Concat(tastes...)))
	checkLawsOfCakes(t, n, tastes)
	if t.Failed() {
		t.Fatalf("the tastes are %v", tastes)
	}
}

// What the chapter tells of labels and of the cut of a full cell themselves.
func checkLawsOfCakes(t *testing.T, n int, tastes [][]int) {
	t.Helper()
	labels, _ := impl.CakeLabels(n, tastes)
	keeps, ok := impl.KeepsSides(n, labels)
	want(t, "that labels keep sides", keeps, ok, true)
	cell, _ := impl.FairCell(n, tastes)
	full, ok := impl.IsFull(n, labels, cell)
	want(t, "that the cell is full", full, ok, true)
	point, pieces, _ := impl.FairCut(n, tastes)
	want(t, "that pieces are one for each person", isSharing(pieces), true, true)
	for k, i := range oracleCells(n)[cell] {
		if k == 0 {
			want(t, "the point of FairCut", point, true, i)
		}
		owner, _ := impl.OwnerAt(n, i)
		favourite, ok := impl.FavouriteOf(n, tastes, owner, i)
		want(t, "the favourite of an owner", favourite, ok, pieces[owner])
		want(t, "the label of a point", labels[i], ok, favourite)
	}
	envy, _ := impl.EnvyAt(n, tastes, point, pieces)
	greatest, ok := impl.GreatestTaste(n, tastes)
	want(t, "that the envy is bounded", envy <= 2*greatest, ok, true)
	least, ok := impl.LeastEnvy(n, tastes)
	want(t, "that no envy is less", least <= envy, ok, true)
	point, pieces, _ = impl.BestCut(n, tastes)
	wantEnvy(t, n, tastes, point, pieces, least)
}

func TestAllSmallCakes(t *testing.T) {
	for n, from := range map[int][]int{1: {0, 1, 2, 3, 4, 5, 6, 7, 8, 9}, 2: {0, 1, 9}, 3: {0, 2}} {
		allRows(n, from, func(tastes [][]int) { checkCake(t, n, tastes) })
	}
}

func TestManyCakes(t *testing.T) {
	for n := 1; n <= impl.MaxSide; n++ {
		for _, tastes := range tasteSamples(n) {
			checkCake(t, n, tastes)
		}
	}
}

func TestOwners(t *testing.T) {
	for n := 1; n <= impl.MaxSide; n++ {
		for i := range oraclePoints(n) {
			owner, ok := impl.OwnerAt(n, i)
			want(t, "OwnerAt", owner, ok, oracleOwner(n, i))
		}
		for _, cell := range oracleCells(n) {
			var owners []int
			for _, i := range cell {
				owner, _ := impl.OwnerAt(n, i)
				owners = append(owners, owner)
			}
			want(t, "that a cell has points of all three", isSharing(owners), true, true)
		}
		for _, i := range badPoints(n) {
			owner, ok := impl.OwnerAt(n, i)
			wantFailure(t, "OwnerAt", ok, owner)
		}
	}
}

func checkRent(t *testing.T, n int, worths [][]int) {
	t.Helper()
	best := oracleFairRent(n, worths)
	wantFairRent(t, n, worths, best.point, best.own...)
	wantRentEnvy(t, n, worths, best.point, best.own, best.envy)
	rooms, ok := impl.BestRooms(worths)
	want(t, "BestRooms", rooms, ok, oracleBestRooms(worths))
	for i := range oraclePoints(n) {
		left := oracleRentAt(n, worths, i)
		for _, own := range oracleSharings() {
			envy := oracleEnvy(left, own)
			wantRentEnvy(t, n, worths, i, own, envy)
			if envy == 0 {
				want(t, "the sum of rooms without envy", oracleSum(worths, own), ok, oracleSum(worths, rooms))
			}
		}
	}
	if t.Failed() {
		t.Fatalf("the side is %d, and the worths are %v", n, worths)
	}
}

func TestManyRents(t *testing.T) {
	for n := 1; n <= impl.MaxSide; n++ {
		for _, worths := range worthSamples() {
			checkRent(t, n, worths)
		}
	}
}

func TestAllSmallRents(t *testing.T) {
	n := 0
	allRows(3, []int{0, 2}, func(worths [][]int) {
		checkRent(t, n%impl.MaxSide+1, worths)
		n++
	})
}

func TestBestRooms(t *testing.T) {
	allRows(3, []int{0, 1, 20}, func(worths [][]int) { wantBestRooms(t, worths, oracleBestRooms(worths)...) })
}

// checkNoTastes wants all functions to fail that take tastes.
func checkNoTastes(t *testing.T, n int, tastes [][]int) {
	t.Helper()
	pieces, ok := impl.PiecesOf(n, tastes, 0, 0)
	wantFailure(t, "PiecesOf", ok, pieces)
	favourite, ok := impl.FavouriteOf(n, tastes, 0, 0)
	wantFailure(t, "FavouriteOf", ok, favourite)
	labels, ok := impl.CakeLabels(n, tastes)
	wantFailure(t, "CakeLabels", ok, labels)
	cell, ok := impl.FairCell(n, tastes)
	wantFailure(t, "FairCell", ok, cell)
	point, pieces, ok := impl.FairCut(n, tastes)
	wantFailure(t, "FairCut", ok, point, pieces)
	envy, ok := impl.EnvyAt(n, tastes, 0, []int{0, 1, 2})
	wantFailure(t, "EnvyAt", ok, envy)
	greatest, ok := impl.GreatestTaste(n, tastes)
	wantFailure(t, "GreatestTaste", ok, greatest)
	least, ok := impl.LeastEnvy(n, tastes)
	wantFailure(t, "LeastEnvy", ok, least)
	point, pieces, ok = impl.BestCut(n, tastes)
	wantFailure(t, "BestCut", ok, point, pieces)
	sum, ok := impl.SumAt(n, tastes, 0, []int{0, 1, 2})
	wantFailure(t, "SumAt", ok, sum)
}

func checkNoWorths(t *testing.T, n int, worths [][]int) {
	t.Helper()
	envy, ok := impl.RentEnvy(n, worths, 0, []int{0, 1, 2})
	wantFailure(t, "RentEnvy", ok, envy)
	point, rooms, ok := impl.FairRent(n, worths)
	wantFailure(t, "FairRent", ok, point, rooms)
}

func TestRowsThatAreNoTastesAndNoWorths(t *testing.T) {
	for n := 1; n <= impl.MaxSide; n++ {
		for _, rows := range badRows(n, impl.MaxTaste) {
			areTastes(t, n, rows, false)
			checkNoTastes(t, n, rows)
		}
		for side := 1; side <= impl.MaxSide; side++ {
			areTastes(t, n, rowsOfSide(side), side == n)
		}
		for _, rows := range badRows(3, 20) {
			checkNoWorths(t, n, rows)
			rooms, ok := impl.BestRooms(rows)
			wantFailure(t, "BestRooms", ok, rooms)
		}
	}
}

func TestSidesThatThereAreNot(t *testing.T) {
	for _, n := range manySides {
		for _, tastes := range [][][]int{nil, {}, {{}, {}, {}}, {{1}, {1}, {1}}, {{1, 2, 3}, {4, 5, 6}, {7, 8, 9}}, rowsOfSide(8), rowsOfSide(n)} {
			are, ok := impl.AreTastes(n, tastes)
			wantFailure(t, "AreTastes", ok, are)
			checkNoTastes(t, n, tastes)
			checkNoWorths(t, n, tastes)
		}
		for _, i := range []int{0, 1, -1, n, math.MaxInt, math.MinInt} {
			owner, ok := impl.OwnerAt(n, i)
			wantFailure(t, "OwnerAt", ok, owner)
		}
	}
}

func TestPersonsAndPointsThatThereAreNot(t *testing.T) {
	for n := 1; n <= impl.MaxSide; n++ {
		tastes, worths := rowsOfSide(n), worthSamples()[5]
		for _, i := range badPoints(n) {
			for _, pieces := range oracleSharings() {
				envy, ok := impl.EnvyAt(n, tastes, i, pieces)
				wantFailure(t, "EnvyAt", ok, envy)
				sum, ok := impl.SumAt(n, tastes, i, pieces)
				wantFailure(t, "SumAt", ok, sum)
				envy, ok = impl.RentEnvy(n, worths, i, pieces)
				wantFailure(t, "RentEnvy", ok, envy)
			}
			for _, person := range append([]int{0, 1, 2}, badPersons...) {
				wantNoPerson(t, n, tastes, person, i)
			}
		}
		for i := range oraclePoints(n) {
			for _, person := range badPersons {
				wantNoPerson(t, n, tastes, person, i)
			}
		}
	}
}

func wantNoPerson(t *testing.T, n int, tastes [][]int, person, i int) {
	t.Helper()
	pieces, ok := impl.PiecesOf(n, tastes, person, i)
	wantFailure(t, "PiecesOf", ok, pieces)
	favourite, ok := impl.FavouriteOf(n, tastes, person, i)
	wantFailure(t, "FavouriteOf", ok, favourite)
}

func TestListsThatAreNoPieces(t *testing.T) {
	for n := 1; n <= impl.MaxSide; n++ {
		tastes, worths := rowsOfSide(n), worthSamples()[5]
		for i := range oraclePoints(n) {
			for _, list := range badSharings() {
				envy, ok := impl.EnvyAt(n, tastes, i, list)
				wantFailure(t, "EnvyAt", ok, envy)
				sum, ok := impl.SumAt(n, tastes, i, list)
				wantFailure(t, "SumAt", ok, sum)
				envy, ok = impl.RentEnvy(n, worths, i, list)
				wantFailure(t, "RentEnvy", ok, envy)
			}
		}
	}
}

// The people may share one list of tastes or worths, and what is told for them stays the same.
func TestPeopleOfOneList(t *testing.T) {
	row := []int{3, 0, 5}
	together, apart := [][]int{row, row, row}, [][]int{{3, 0, 5}, {3, 0, 5}, {3, 0, 5}}
	for i := range oraclePoints(3) {
		checkPoint(t, 3, together, i)
	}
	point, pieces := oracleFairCut(3, apart)
	wantFairCut(t, 3, together, point, pieces...)
	best := oracleFairRent(3, apart)
	wantFairRent(t, 3, together, best.point, best.own...)
	wantBestRooms(t, together, oracleBestRooms(apart)...)
	want(t, "the list", row, true, []int{3, 0, 5})
}
