package tests

// Promise 6: maps have full rooms, and exact fixed points with signs that add up to one.

import (
	"math"
	"slices"
	"testing"

	"loop.example/g01160/impl"
)

func areImages(t *testing.T, n int, images [][]int, expected bool) {
	t.Helper()
	want(t, "AreImages", impl.AreImages(n, images), true, expected)
}

func wantMapLabels(t *testing.T, n int, images [][]int, full int, expected ...int) {
	t.Helper()
	labels, ok := impl.MapLabels(n, images)
	want(t, "MapLabels", labels, ok, expected)
	cell, ok := impl.FullOfMap(n, images)
	want(t, "FullOfMap", cell, ok, full)
}

func wantMoves(t *testing.T, n int, images [][]int, cell int, expected ...[]int) {
	t.Helper()
	moves, ok := impl.MovesOf(n, images, cell)
	want(t, "MovesOf", moves, ok, expected)
}

func wantAreas(t *testing.T, n int, images [][]int, cell int, expected ...int) {
	t.Helper()
	areas, ok := impl.AreasOf(n, images, cell)
	want(t, "AreasOf", areas, ok, expected)
}

// wantFixedIn has the sign of the fixed point of a cell, and its weights.
func wantFixedIn(t *testing.T, n int, images [][]int, cell, expected int, expectedWeights ...int) {
	t.Helper()
	weights, ok := impl.WeightsIn(n, images, cell)
	want(t, "WeightsIn", weights, ok, expectedWeights)
	sign, ok := impl.SignIn(n, images, cell)
	want(t, "SignIn", sign, ok, expected)
}

func wantNoneFixedIn(t *testing.T, n int, images [][]int, cells ...int) {
	t.Helper()
	for _, cell := range cells {
		weights, ok := impl.WeightsIn(n, images, cell)
		wantFailure(t, "WeightsIn", ok, weights)
		sign, ok := impl.SignIn(n, images, cell)
		wantFailure(t, "SignIn", ok, sign)
	}
}

// wantFixed is for regular images.
func wantFixed(t *testing.T, n int, images [][]int, expectedSigns []int, expected ...[]int) {
	t.Helper()
	regular, ok := impl.IsRegular(n, images)
	want(t, "IsRegular", regular, ok, true)
	fixed, ok := impl.FixedPoints(n, images)
	want(t, "FixedPoints", fixed, ok, expected)
	signs, ok := impl.SignsOfFixed(n, images)
	want(t, "SignsOfFixed", signs, ok, expectedSigns)
}

func wantIrregular(t *testing.T, n int, images [][]int) {
	t.Helper()
	regular, ok := impl.IsRegular(n, images)
	want(t, "IsRegular", regular, ok, false)
	fixed, ok := impl.FixedPoints(n, images)
	wantFailure(t, "FixedPoints", ok, fixed)
	signs, ok := impl.SignsOfFixed(n, images)
	wantFailure(t, "SignsOfFixed", ok, signs)
}

func wantPointOf(t *testing.T, n, cell int, weights []int, expected ...int) {
	t.Helper()
	point, ok := impl.PointOfWeights(n, cell, weights)
	want(t, "PointOfWeights", point, ok, expected)
}

func wantImageOf(t *testing.T, n int, images [][]int, cell int, weights []int, expected ...int) {
	t.Helper()
	image, ok := impl.ImageOfWeights(n, images, cell, weights)
	want(t, "ImageOfWeights", image, ok, expected)
}

func wantConstant(t *testing.T, n int, to []int, expected [][]int) {
	t.Helper()
	images, ok := impl.ConstantImages(n, to)
	want(t, "ConstantImages", images, ok, expected)
}

func wantTurned(t *testing.T, n int, images [][]int, expected ...[]int) {
	t.Helper()
	turned, ok := impl.TurnedImages(n, images)
	want(t, "TurnedImages", turned, ok, expected)
}

func TestMaxMapped(t *testing.T) {
	if impl.MaxMapped != 5 {
		t.Error("MaxMapped", impl.MaxMapped)
	}
}

func TestExampleOfChapter6(t *testing.T) {
	images := [][]int{{2, 2, 2}, {2, 2, 2}, {2, 2, 2}, {2, 2, 2}, {2, 2, 2}, {2, 2, 2}}
	wantConstant(t, 2, []int{2, 2, 2}, images)
	areImages(t, 2, images, true)
	wantMapLabels(t, 2, images, 3, 0, 0, 0, 1, 1, 2)
	wantMoves(t, 2, images, 1, []int{-1, -1, 2}, []int{-1, 2, -1}, []int{2, -1, -1})
	wantAreas(t, 2, images, 1, -3, -3, -3)
	wantFixedIn(t, 2, images, 1, 1, 1, 1, 1)
	wantMoves(t, 2, images, 0, []int{-4, 2, 2}, []int{-1, -1, 2}, []int{-1, 2, -1})
	wantAreas(t, 2, images, 0, -3, 6, 6)
	wantNoneFixedIn(t, 2, images, 0, 2, 3)
	wantFixed(t, 2, images, []int{1}, []int{1, 1, 1, 1})
	wantPointOf(t, 2, 1, []int{1, 1, 1}, 2, 2, 2, 3)
	wantImageOf(t, 2, images, 1, []int{1, 1, 1}, 6, 6, 6, 3)
	wantTurned(t, 2, images, images...)
}

// The triangle of side 1 is one cell: it has a fixed point, or this is not told.
func TestMapsOfOneCell(t *testing.T) {
	middle := allAlike(1, 1, 1, 1)
	wantMapLabels(t, 1, middle, 0, 0, 1, 2)
	wantMoves(t, 1, middle, 0, []int{-2, 1, 1}, []int{1, -2, 1}, []int{1, 1, -2})
	wantAreas(t, 1, middle, 0, 3, 3, 3)
	wantFixedIn(t, 1, middle, 0, 1, 1, 1, 1)
	wantFixed(t, 1, middle, []int{1}, []int{0, 1, 1, 1})

	round := [][]int{{0, 3, 0}, {0, 0, 3}, {3, 0, 0}}
	wantMapLabels(t, 1, round, 0, 0, 1, 2)
	wantAreas(t, 1, round, 0, 9, 9, 9)
	wantFixed(t, 1, round, []int{1}, []int{0, 1, 1, 1})
	wantTurned(t, 1, round, round...)

	uneven := [][]int{{0, 3, 0}, {1, 1, 1}, {2, 1, 0}}
	wantMoves(t, 1, uneven, 0, []int{-3, 3, 0}, []int{1, -2, 1}, []int{2, 1, -3})
	wantAreas(t, 1, uneven, 0, 5, 9, 3)
	wantFixed(t, 1, uneven, []int{1}, []int{0, 5, 9, 3})
	wantPointOf(t, 1, 0, []int{5, 9, 3}, 5, 9, 3, 17)
	wantImageOf(t, 1, uneven, 0, []int{5, 9, 3}, 15, 27, 9, 17)
	wantTurned(t, 1, uneven, []int{0, 2, 1}, []int{0, 0, 3}, []int{1, 1, 1})
}

func TestCommonDivisorsOfAreas(t *testing.T) {
	images := [][]int{{1, 2, 0}, {0, 1, 2}, {2, 0, 1}}
	wantAreas(t, 1, images, 0, 4, 4, 4)
	wantFixedIn(t, 1, images, 0, 1, 1, 1, 1)
	images = [][]int{{1, 1, 1}, {0, 1, 2}, {3, 0, 0}}
	wantAreas(t, 1, images, 0, 6, 3, 4)
	wantFixedIn(t, 1, images, 0, 1, 6, 3, 4)
	images = [][]int{{0, 3, 0}, {0, 1, 2}, {2, 1, 0}}
	wantAreas(t, 1, images, 0, 4, 9, 6)
	wantFixedIn(t, 1, images, 0, 1, 4, 9, 6)
	images = [][]int{{1, 1, 1}, {1, 0, 2}, {1, 1, 1}}
	wantAreas(t, 1, images, 0, 4, 3, 5)
	wantFixedIn(t, 1, images, 0, 1, 4, 3, 5)
}

// The first cell is an up cell, the second one is not, and both have areas greater than 0; in the last one, an area of 0 leaves no doubt.
func TestSeveralFixedPoints(t *testing.T) {
	images := [][]int{{0, 6, 0}, {0, 0, 6}, {6, 0, 0}, {6, 0, 0}, {0, 6, 0}, {6, 0, 0}}
	wantMapLabels(t, 2, images, 2, 0, 0, 2, 1, 2, 2)
	wantAreas(t, 2, images, 0, 9, 18, 36)
	wantFixedIn(t, 2, images, 0, 1, 1, 2, 4)
	wantAreas(t, 2, images, 1, 9, 9, 9)
	wantFixedIn(t, 2, images, 1, -1, 1, 1, 1)
	wantAreas(t, 2, images, 2, 18, 9, 36)
	wantFixedIn(t, 2, images, 2, 1, 2, 1, 4)
	wantAreas(t, 2, images, 3, -18, 0, 9)
	wantNoneFixedIn(t, 2, images, 3)
	wantFixed(t, 2, images, []int{1, -1, 1}, []int{0, 1, 2, 4}, []int{1, 1, 1, 1}, []int{2, 2, 1, 4})
	wantPointOf(t, 2, 0, []int{1, 2, 4}, 8, 2, 4, 7)
	wantImageOf(t, 2, images, 0, []int{1, 2, 4}, 24, 6, 12, 7)
	wantTurned(t, 2, images, []int{0, 6, 0}, []int{0, 6, 0}, []int{0, 0, 6}, []int{0, 0, 6}, []int{6, 0, 0}, []int{0, 6, 0})
}

// All areas are 0, as nothing moves: the label is that of the first number that is not 0.
func TestImagesThatAreTheirOwnPoints(t *testing.T) {
	wantMapLabels(t, 1, ownPoints(1), 0, 0, 1, 2)
	wantMapLabels(t, 3, ownPoints(3), 8, 0, 0, 0, 0, 0, 0, 1, 1, 1, 2)
	for n := 1; n <= impl.MaxMapped; n++ {
		images := ownPoints(n)
		for cell := range n * n {
			wantMoves(t, n, images, cell, []int{0, 0, 0}, []int{0, 0, 0}, []int{0, 0, 0})
			wantAreas(t, n, images, cell, 0, 0, 0)
		}
		wantNoneFixedIn(t, n, images, 0, n*n-1)
		wantIrregular(t, n, images)
		wantTurned(t, n, images, images...)
	}
}

// A fixed point that is a point of the mesh, or between two of them, makes areas 0.
func TestMapsThatAreNotRegular(t *testing.T) {
	corner := allAlike(1, 3, 0, 0)
	wantAreas(t, 1, corner, 0, 9, 0, 0)
	between := allAlike(1, 2, 1, 0)
	wantAreas(t, 1, between, 0, 6, 3, 0)
	swapped := [][]int{{0, 3, 0}, {3, 0, 0}, {0, 0, 3}}
	wantAreas(t, 1, swapped, 0, 0, 0, 0)
	half := [][]int{{0, 3, 0}, {3, 0, 0}, {3, 0, 0}}
	wantAreas(t, 1, half, 0, 9, 9, 0)
	for _, images := range [][][]int{corner, between, swapped, half} {
		wantMapLabels(t, 1, images, 0, 0, 1, 2)
		wantNoneFixedIn(t, 1, images, 0)
		wantIrregular(t, 1, images)
	}
	// 4 2 0 is in the middle of an edge, 3 3 0 is a point, and 3 1 2 is on an edge inside, where another cell has areas less than 0, too.
	wantAreas(t, 2, allAlike(2, 4, 2, 0), 0, 3, 6, 0)
	wantAreas(t, 2, allAlike(2, 3, 3, 0), 0, 0, 9, 0)
	wantAreas(t, 2, allAlike(2, 3, 1, 2), 0, 0, 3, 6)
	wantAreas(t, 2, allAlike(2, 3, 1, 2), 1, -3, -6, 0)
	for _, to := range [][]int{{4, 2, 0}, {3, 3, 0}, {3, 1, 2}, {6, 0, 0}, {0, 0, 6}} {
		wantNoneFixedIn(t, 2, allAlike(2, to...), 0, 1, 2, 3)
		wantIrregular(t, 2, allAlike(2, to...))
	}
}

func TestGreatestMap(t *testing.T) {
	images := allAlike(5, 15, 0, 0)
	wantConstant(t, 5, []int{15, 0, 0}, images)
	areImages(t, 5, images, true)
	wantMapLabels(t, 5, images, 0, 0, 1, 2, 1, 1, 2, 1, 1, 1, 2, 1, 1, 1, 1, 2, 1, 1, 1, 1, 1, 2)
	wantMoves(t, 5, images, 24, []int{12, 0, -12}, []int{15, -3, -12}, []int{15, 0, -15})
	wantIrregular(t, 5, images)
	images = allAlike(5, 5, 4, 6)
	wantMapLabels(t, 5, images, 14, 0, 0, 0, 0, 0, 0, 0, 0, 0, 0, 1, 1, 1, 2, 2, 1, 1, 1, 1, 2, 2)
	wantPointOf(t, 5, 24, []int{1000000, 1000000, 1000000}, 1000000, 1000000, 13000000, 3000000)
	wantImageOf(t, 5, images, 24, []int{1000000, 1000000, 1000000}, 15000000, 12000000, 18000000, 3000000)
}

func TestWeights(t *testing.T) {
	images := [][]int{{6, 0, 0}, {0, 0, 6}, {1, 2, 3}, {0, 6, 0}, {3, 3, 0}, {2, 0, 4}}
	wantPointOf(t, 2, 0, []int{1, 0, 0}, 2, 0, 0, 1)
	wantPointOf(t, 2, 0, []int{0, 1, 0}, 1, 1, 0, 1)
	wantPointOf(t, 2, 0, []int{0, 0, 7}, 7, 0, 7, 7)
	wantPointOf(t, 2, 2, []int{1, 10, 100}, 1, 121, 100, 111)
	wantPointOf(t, 2, 3, []int{2, 4, 6}, 2, 4, 18, 12)
	wantImageOf(t, 2, images, 0, []int{1, 0, 0}, 6, 0, 0, 1)
	wantImageOf(t, 2, images, 0, []int{0, 1, 0}, 0, 0, 6, 1)
	wantImageOf(t, 2, images, 2, []int{1, 10, 100}, 300, 360, 6, 111)
	wantImageOf(t, 2, images, 3, []int{0, 1000000, 3}, 3000006, 3000000, 12, 1000003)
}

func checkCell(t *testing.T, n int, images [][]int, cell int) {
	t.Helper()
	wantMoves(t, n, images, cell, oracleMoves(n, images, cell)...)
	wantAreas(t, n, images, cell, oracleAreas(n, images, cell)...)
	weights := oracleWeights(n, images, cell)
	if weights == nil {
		wantNoneFixedIn(t, n, images, cell)
	} else {
		wantFixedIn(t, n, images, cell, oracleSignIn(n, images, cell), weights...)
	}
	for _, weights := range goodWeights() {
		wantImageOf(t, n, images, cell, weights, oracleMix(n, images, cell, weights)...)
	}
}

func checkMap(t *testing.T, n int, images [][]int) {
	t.Helper()
	areImages(t, n, images, true)
	labels := oracleMapLabels(n, images)
	wantMapLabels(t, n, images, oracleFound(n, labels), labels...)
	for cell := range n * n {
		checkCell(t, n, images, cell)
	}
	if oracleIsRegular(n, images) {
		fixed, signs := oracleFixed(n, images)
		wantFixed(t, n, images, signs, fixed...)
	} else {
		wantIrregular(t, n, images)
	}
	wantTurned(t, n, images, oracleTurnedImages(n, images)...)
	checkLawsOfMaps(t, n, images)
	if t.Failed() {
		t.Fatalf("the side is %d, and the images are %v", n, images)
	}
}

// What the chapter tells of full cells and of fixed points themselves.
func checkLawsOfMaps(t *testing.T, n int, images [][]int) {
	t.Helper()
	labels, _ := impl.MapLabels(n, images)
	keeps, ok := impl.KeepsSides(n, labels)
	want(t, "that labels keep sides", keeps, ok, true)
	cell, _ := impl.FullOfMap(n, images)
	full, ok := impl.IsFull(n, labels, cell)
	want(t, "that the cell is full", full, ok, true)
	fixed, regular := impl.FixedPoints(n, images)
	signs, ok := impl.SignsOfFixed(n, images)
	want(t, "that there are signs", ok, true, regular)
	want(t, "that there are as many signs", len(signs), true, len(fixed))
	for k, f := range fixed {
		wantFixedIn(t, n, images, f[0], signs[k], f[1:]...)
		point, ok := impl.PointOfWeights(n, f[0], f[1:])
		wantImageOf(t, n, images, f[0], f[1:], 3*point[0], 3*point[1], 3*point[2], point[3])
		want(t, "the sum of the weights", f[1]+f[2]+f[3], ok, point[3])
	}
	turned, _ := impl.TurnedImages(n, images)
	turnedSigns, ok := impl.SignsOfFixed(n, turned)
	want(t, "that turned images are as regular", ok, true, regular)
	if regular {
		want(t, "the sum of the signs", sumOf(signs), true, 1)
		want(t, "the sum of the signs of turned images", sumOf(turnedSigns), true, 1)
		want(t, "the number of signs of turned images", len(turnedSigns), true, len(signs))
	}
	twice, _ := impl.TurnedImages(n, turned)
	wantTurned(t, n, twice, images...)
}

func sumOf(numbers []int) int {
	sum := 0
	for _, number := range numbers {
		sum += number
	}
	return sum
}

func TestAllMapsOfOneCell(t *testing.T) {
	allImages(1, oraclePoints(3), func(images [][]int) { checkMap(t, 1, images) })
}

func TestAllMapsOfSideTwoToFewImages(t *testing.T) {
	allImages(2, [][]int{{6, 0, 0}, {0, 6, 0}, {2, 1, 3}}, func(images [][]int) { checkMap(t, 2, images) })
}

// The samples have maps with one fixed point and with several, and such that are not regular, with areas greater than 0 and less in cells of both kinds.
func TestManyMaps(t *testing.T) {
	for n := 1; n <= impl.MaxMapped; n++ {
		count, kinds := map[int]int{}, map[[2]bool]int{}
		for _, images := range imageSamples(n) {
			checkMap(t, n, images)
			fixed, ok := impl.FixedPoints(n, images)
			if !ok {
				count[0]++
			}
			count[len(fixed)]++
			for _, f := range fixed {
				kinds[[2]bool{oracleIsUp(n, f[0]), oracleAreas(n, images, f[0])[0] > 0}]++
			}
		}
		if count[0] < 5 || count[1] < 5 || n > 2 && (count[3] < 5 || len(kinds) < 4) {
			t.Errorf("side %d: the samples have too few maps of some kind: %v, %v", n, count, kinds)
		}
	}
}

func TestAllConstantImages(t *testing.T) {
	for n := 1; n <= impl.MaxMapped; n++ {
		for _, to := range oraclePoints(3 * n) {
			images := allAlike(n, to...)
			wantConstant(t, n, to, images)
			areImages(t, n, images, true)
			checkMap(t, n, images)
		}
		for _, to := range badImages(n) {
			images, ok := impl.ConstantImages(n, to)
			wantFailure(t, "ConstantImages", ok, images)
		}
	}
}

func TestPointsOfWeights(t *testing.T) {
	for n := 1; n <= impl.MaxMapped; n++ {
		for cell := range n * n {
			for _, weights := range goodWeights() {
				wantPointOf(t, n, cell, weights, oracleMix(n, oraclePoints(n), cell, weights)...)
			}
		}
	}
}

// checkNoImages wants all functions to fail that take images.
func checkNoImages(t *testing.T, n int, images [][]int) {
	t.Helper()
	areImages(t, n, images, false)
	labels, ok := impl.MapLabels(n, images)
	wantFailure(t, "MapLabels", ok, labels)
	full, ok := impl.FullOfMap(n, images)
	wantFailure(t, "FullOfMap", ok, full)
	regular, ok := impl.IsRegular(n, images)
	wantFailure(t, "IsRegular", ok, regular)
	fixed, ok := impl.FixedPoints(n, images)
	wantFailure(t, "FixedPoints", ok, fixed)
	signs, ok := impl.SignsOfFixed(n, images)
	wantFailure(t, "SignsOfFixed", ok, signs)
	turned, ok := impl.TurnedImages(n, images)
	wantFailure(t, "TurnedImages", ok, turned)
	for _, cell := range []int{0, 1, -1} {
		wantNothingOfCell(t, n, images, cell)
	}
}

// wantNothingOfCell wants all functions to fail that take images and a cell.
func wantNothingOfCell(t *testing.T, n int, images [][]int, cell int) {
	t.Helper()
	moves, ok := impl.MovesOf(n, images, cell)
	wantFailure(t, "MovesOf", ok, moves)
	areas, ok := impl.AreasOf(n, images, cell)
	wantFailure(t, "AreasOf", ok, areas)
	wantNoneFixedIn(t, n, images, cell)
	for _, weights := range goodWeights() {
		image, ok := impl.ImageOfWeights(n, images, cell, weights)
		wantFailure(t, "ImageOfWeights", ok, image)
	}
}

func TestListsThatAreNoImages(t *testing.T) {
	for n := 1; n <= impl.MaxMapped; n++ {
		for _, images := range badMaps(n) {
			checkNoImages(t, n, images)
		}
		for side := range 9 {
			if side != n {
				checkNoImages(t, n, imagesOfSide(side))
			}
		}
		images := imagesOfSide(n)
		areImages(t, n, images, true)
		areImages(t, n, images[:len(images)-1], false)
	}
}

func TestSidesOfMapsThatThereAreNot(t *testing.T) {
	for _, n := range mappedSides {
		for _, images := range [][][]int{nil, {}, {{}}, {{0, 0, 0}}, {{n, n, n}, {n, n, n}, {n, n, n}}, imagesOfSide(1), imagesOfSide(2), imagesOfSide(5), imagesOfSide(n)} {
			checkNoImages(t, n, images)
		}
		for _, to := range [][]int{nil, {}, {0, 0, 0}, {1, 1, 1}, {2, 0, 0}, {2, 2, 2}, {5, 5, 5}, {n, n, n}, {3 * n, 0, 0}} {
			images, ok := impl.ConstantImages(n, to)
			wantFailure(t, "ConstantImages", ok, images)
		}
		for _, cell := range []int{0, 1, -1, n, math.MaxInt, math.MinInt} {
			for _, weights := range goodWeights() {
				point, ok := impl.PointOfWeights(n, cell, weights)
				wantFailure(t, "PointOfWeights", ok, point)
			}
		}
	}
}

func TestCellsOfMapsThatThereAreNot(t *testing.T) {
	for n := 1; n <= impl.MaxMapped; n++ {
		for _, cell := range []int{-1, -2, -n * n, n * n, n*n + 1, 64, 256, 1 << 32, math.MaxInt, math.MinInt} {
			for _, images := range [][][]int{allAlike(n, n, n, n), ownPoints(n), imageSamples(n)[1]} {
				wantNothingOfCell(t, n, images, cell)
			}
			for _, weights := range goodWeights() {
				point, ok := impl.PointOfWeights(n, cell, weights)
				wantFailure(t, "PointOfWeights", ok, point)
			}
		}
	}
}

func TestListsThatAreNoWeights(t *testing.T) {
	for n := 1; n <= impl.MaxMapped; n++ {
		for _, weights := range badWeights() {
			for cell := range n * n {
				point, ok := impl.PointOfWeights(n, cell, weights)
				wantFailure(t, "PointOfWeights", ok, point)
				image, ok := impl.ImageOfWeights(n, allAlike(n, n, n, n), cell, weights)
				wantFailure(t, "ImageOfWeights", ok, image)
			}
		}
	}
}

// Points may share one image, and what is told of them stays the same.
func TestPointsOfOneImage(t *testing.T) {
	image := []int{4, 1, 1}
	together := slices.Repeat([][]int{image}, 6)
	checkMap(t, 2, together)
	turned, ok := impl.TurnedImages(2, together)
	want(t, "TurnedImages", turned, ok, allAlike(2, 1, 4, 1))
	turned[0][0] = 99
	want(t, "the next image", turned[1], ok, []int{1, 4, 1})
	want(t, "the image", image, ok, []int{4, 1, 1})
}
