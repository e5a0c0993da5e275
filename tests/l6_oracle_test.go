package tests

// What chapter 6 says, computed anew: areas by the last two numbers of the moves, fixed points by solving for them in fractions.

import (
	"math"
	"math/big"
	"slices"
)

func isMappedSide(n int) bool { return n >= 1 && n <= 5 }

func isMappedCell(n, cell int) bool { return isMappedSide(n) && cell >= 0 && cell < n*n }

// isImageOf looks for the image among the points of a triangle that is three times as great.
func isImageOf(n int, image []int) bool { return isMappedSide(n) && oracleIndex(3*n, image...) >= 0 }

func areImagesOf(n int, images [][]int) bool {
	return isMappedSide(n) && len(images) == len(oraclePoints(n)) &&
		!slices.ContainsFunc(images, func(image []int) bool { return !isImageOf(n, image) })
}

func areWeightsOf(list []int) bool {
	return len(list) == 3 && slices.Min(list) >= 0 && slices.Max(list) >= 1 && slices.Max(list) <= 1000000
}

func oracleMove(n int, images [][]int, i int) []int {
	p := oraclePoints(n)[i]
	return []int{images[i][0] - p[0] - p[0] - p[0], images[i][1] - p[1] - p[1] - p[1], images[i][2] - p[2] - p[2] - p[2]}
}

func oracleMapLabels(n int, images [][]int) []int {
	var labels []int
	for i, p := range oraclePoints(n) {
		var less, some []int
		for k, by := range oracleMove(n, images, i) {
			if by < 0 {
				less = append(less, k)
			}
			if p[k] > 0 {
				some = append(some, k)
			}
		}
		labels = append(labels, append(less, some...)[0])
	}
	return labels
}

func oracleMoves(n int, images [][]int, cell int) [][]int {
	var moves [][]int
	for _, i := range oracleCells(n)[cell] {
		moves = append(moves, oracleMove(n, images, i))
	}
	return moves
}

// oracleAreas takes the numbers with the index 1 and 2: as those of a move have the sum 0, this is the same.
func oracleAreas(n int, images [][]int, cell int) []int {
	moves := oracleMoves(n, images, cell)
	var areas []int
	for k := range 3 {
		p, q := moves[(k+1)%3], moves[(k+2)%3]
		areas = append(areas, p[1]*q[2]-p[2]*q[1])
	}
	return areas
}

// oracleTold is "fixed" or "none", or "" if the areas of the cell do not tell.
func oracleTold(n int, images [][]int, cell int) string {
	var greater, less int
	for _, area := range oracleAreas(n, images, cell) {
		if area > 0 {
			greater++
		}
		if area < 0 {
			less++
		}
	}
	switch {
	case greater == 3 || less == 3:
		return "fixed"
	case greater > 0 && less > 0:
		return "none"
	}
	return ""
}

// oracleShares are what each point of a cell has of the one point there that does not move; nil if there is not one alone.
func oracleShares(n int, images [][]int, cell int) []*big.Rat {
	moves := oracleMoves(n, images, cell)
	return solved([][]*big.Rat{
		fractions(moves[0][0], moves[1][0], moves[2][0], 0),
		fractions(moves[0][1], moves[1][1], moves[2][1], 0),
		fractions(1, 1, 1, 1),
	})
}

func fractions(numbers ...int) []*big.Rat {
	var list []*big.Rat
	for _, number := range numbers {
		list = append(list, big.NewRat(int64(number), 1))
	}
	return list
}

// solved has the numbers whose products with those of each row, but for its last one, have this last one as their sum; nil if there are none or several. It changes the rows, which are as many as the numbers.
func solved(rows [][]*big.Rat) []*big.Rat {
	for column := range rows {
		pivot := column
		for pivot < len(rows) && rows[pivot][column].Sign() == 0 {
			pivot++
		}
		if pivot == len(rows) {
			return nil
		}
		rows[column], rows[pivot] = rows[pivot], rows[column]
		for r := range rows {
			if r != column {
				factor := new(big.Rat).Quo(rows[r][column], rows[column][column])
				for k := range rows[r] {
					rows[r][k] = new(big.Rat).Sub(rows[r][k], new(big.Rat).Mul(factor, rows[column][k]))
				}
			}
		}
	}
	var found []*big.Rat
	for k, row := range rows {
		found = append(found, new(big.Rat).Quo(row[len(rows)], row[k]))
	}
	return found
}

// oracleWeights are nil for a cell without a fixed point: it has one if all shares are greater than 0.
func oracleWeights(n int, images [][]int, cell int) []int {
	shares := oracleShares(n, images, cell)
	if shares == nil || slices.ContainsFunc(shares, func(share *big.Rat) bool { return share.Sign() <= 0 }) {
		return nil
	}
	for whole := int64(1); ; whole++ {
		var weights []int
		for _, share := range shares {
			if times := new(big.Rat).Mul(share, big.NewRat(whole, 1)); times.IsInt() {
				weights = append(weights, int(times.Num().Int64()))
			}
		}
		if len(weights) == 3 {
			return weights
		}
	}
}

func oracleSignIn(n int, images [][]int, cell int) int {
	if (oracleAreas(n, images, cell)[0] > 0) == oracleIsUp(n, cell) {
		return 1
	}
	return -1
}

func oracleIsRegular(n int, images [][]int) bool {
	for cell := range n * n {
		if oracleTold(n, images, cell) == "" {
			return false
		}
	}
	return true
}

// oracleFixed is for regular images.
func oracleFixed(n int, images [][]int) (fixed [][]int, signs []int) {
	for cell := range n * n {
		if weights := oracleWeights(n, images, cell); weights != nil {
			fixed = append(fixed, []int{cell, weights[0], weights[1], weights[2]})
			signs = append(signs, oracleSignIn(n, images, cell))
		}
	}
	return fixed, signs
}

// oracleMix has what a list has at the points of a cell, and 1 behind it.
func oracleMix(n int, at [][]int, cell int, weights []int) []int {
	sums := []int{0, 0, 0, 0}
	for k := range sums {
		for corner, i := range oracleCells(n)[cell] {
			sums[k] += append(slices.Clone(at[i]), 1)[k] * weights[corner]
		}
	}
	return sums
}

func oracleTurnedImages(n int, images [][]int) [][]int {
	turned := make([][]int, len(images))
	for i, p := range oraclePoints(n) {
		image := images[oracleIndex(n, p[1], p[2], p[0])]
		turned[i] = []int{image[2], image[0], image[1]}
	}
	return turned
}

// imagesBy makes images of any three numbers for each point: those below 0 become 0, and the greatest ones make the sum right.
func imagesBy(n int, imageOf func(i int, p []int) []int) [][]int {
	var images [][]int
	for i, p := range oraclePoints(n) {
		image := slices.Clone(imageOf(i, p))
		for k := range image {
			image[k] = max(image[k], 0)
		}
		for sum := image[0] + image[1] + image[2]; sum != 3*n; sum = image[0] + image[1] + image[2] {
			greatest := slices.Index(image, slices.Max(image))
			image[greatest] = max(0, image[greatest]+3*n-sum)
		}
		images = append(images, image)
	}
	return images
}

func allAlike(n int, to ...int) [][]int {
	return imagesBy(n, func(i int, p []int) []int { return to })
}

func ownPoints(n int) [][]int {
	return imagesBy(n, func(i int, p []int) []int { return []int{3 * p[0], 3 * p[1], 3 * p[2]} })
}

func cornersOf(n int) [][]int { return [][]int{{3 * n, 0, 0}, {0, 3 * n, 0}, {0, 0, 3 * n}} }

// imageSamples are images of all kinds for a side, the same ones in each run: at the corners, near the points themselves, and anywhere.
func imageSamples(n int) [][][]int {
	next := chance(n + 1300)
	all := oraclePoints(3 * n)
	samples := [][][]int{
		ownPoints(n),
		imagesBy(n, func(i int, p []int) []int { return []int{3 * p[1], 3 * p[2], 3 * p[0]} }),
		imagesBy(n, func(i int, p []int) []int { return []int{3 * p[2], 3 * p[0], 3 * p[1]} }),
		imagesBy(n, func(i int, p []int) []int { return []int{3 * p[1], 3 * p[0], 3 * p[2]} }),
		imagesBy(n, func(i int, p []int) []int { return []int{2*p[0] + p[1], 2*p[1] + p[2], 2*p[2] + p[0]} }),
		imagesBy(n, func(i int, p []int) []int { return []int{n, n, n} }),
		imagesBy(n, func(i int, p []int) []int { return []int{9*p[0] - 2*n, 9*p[1] - 2*n, 9*p[2] - 2*n} }),
		imagesBy(n, func(i int, p []int) []int { return cornersOf(n)[i%3] }),
	}
	for range 30 {
		samples = append(samples,
			imagesBy(n, func(i int, p []int) []int { return all[next(len(all))] }),
			imagesBy(n, func(i int, p []int) []int { return cornersOf(n)[next(3)] }),
			imagesBy(n, func(i int, p []int) []int {
				return []int{3*p[0] + next(5) - 2, 3*p[1] + next(5) - 2, 3*p[2] + next(5) - 2}
			}),
			imagesBy(n, func(i int, p []int) []int { return []int{next(3 * n), n + next(3) - 1, next(3 * n)} }),
			imagesBy(n, func(i int, p []int) []int { return []int{9*p[1] - next(2*n), 9*p[2] - next(2*n), 9*p[0] - next(2*n)} }))
	}
	return samples
}

// allImages calls do with all images that are among these; do must not keep them.
func allImages(n int, among [][]int, do func([][]int)) {
	size := len(oraclePoints(n))
	images := make([][]int, size)
	count := 1
	for range size {
		count *= len(among)
	}
	for number := range count {
		for i := range images {
			images[i] = among[number%len(among)]
			number /= len(among)
		}
		do(images)
	}
}

// badImages are lists that are no image for the side n, among them such whose sum is right, or becomes so by overflow.
func badImages(n int) [][]int {
	return [][]int{
		nil, {}, {3 * n}, {3 * n, 0}, {n, n}, {n, n, n, 0}, {3 * n, 0, 0, 0}, {n, n, n, n}, make([]int, 100),
		{0, 0, 0}, {n, n, n - 1}, {n, n, n + 1}, {3*n - 1, 0, 0}, {0, 3*n + 1, 0}, {n, 0, 0}, {0, n, 0},
		{3*n + 1, -1, 0}, {-1, 3*n + 1, 0}, {0, 3*n + 1, -1}, {n, 2*n + 1, -1}, {-1, n, 2*n + 1}, {-n, 2 * n, 2 * n}, {2 * n, -n, 2 * n}, {2 * n, 2 * n, -n},
		{256 + 3*n, 0, 0}, {0, 1<<32 + 3*n, 0}, {1 << 32, 0, 3*n - 1<<32}, {math.MaxInt, 0, 0}, {0, 0, math.MinInt},
		{math.MaxInt, math.MaxInt, 3*n + 2}, {3*n + 2, math.MaxInt, math.MaxInt}, {math.MinInt, math.MinInt, 3 * n}, {3 * n, math.MinInt, math.MinInt}, {math.MaxInt, math.MinInt, 3*n + 1},
	}
}

// badMaps are lists that are no images for the side n.
func badMaps(n int) [][][]int {
	good := func() [][]int { return allAlike(n, n, n, n) }
	size := len(good())
	maps := [][][]int{nil, {}, good()[:1], good()[:size-1], good()[1:], append(good(), []int{n, n, n}), append(good(), nil), append(good(), good()...), make([][]int, size), make([][]int, 100), oraclePoints(n)}
	for _, image := range badImages(n) {
		for _, i := range []int{0, size / 2, size - 1} {
			other := good()
			other[i] = image
			maps = append(maps, other)
		}
	}
	return maps
}

// badWeights are lists that are no weights, among them such whose sum is that of some.
func badWeights() [][]int {
	return [][]int{
		nil, {}, {1}, {1, 1}, {1, 1, 1, 1}, {1, 1, 1, 0}, {0, 0, 0}, {0, 0, 0, 0}, make([]int, 100),
		{-1, 1, 1}, {1, -1, 1}, {1, 1, -1}, {-1, 0, 0}, {0, 2, -1}, {-3, -3, -3}, {-1, -1, 3},
		{1000001, 0, 0}, {0, 1000001, 0}, {1, 1, 1000001}, {1000001, 1000001, 1000001}, {1 << 32, 1, 1}, {1, 1 << 32, 0},
		{math.MaxInt, 0, 0}, {0, math.MaxInt, 1}, {0, 0, math.MaxInt}, {math.MinInt, 1, 1}, {1, math.MinInt, 1}, {1, 1, math.MinInt}, {math.MaxInt, math.MaxInt, 3}, {math.MinInt, math.MinInt, 1},
	}
}

// goodWeights are the least and the greatest ones among others, some of them with a common divisor.
func goodWeights() [][]int {
	return [][]int{
		{1, 1, 1}, {1, 0, 0}, {0, 1, 0}, {0, 0, 1}, {1000000, 1000000, 1000000}, {1000000, 0, 0}, {0, 1000000, 1}, {0, 0, 1000000},
		{1, 2, 3}, {6, 2, 4}, {0, 7, 5}, {999999, 1, 1000000}, {2, 2, 2}, {5, 0, 5}, {12, 345, 6789},
	}
}

// mappedSides are those that there are not: they have sides for which there are triangles, and such three times which overflows to 2 or 5 or 15.
var mappedSides = []int{0, -1, -2, -3, 6, 7, 8, 9, 10, 100, -5, 1 << 32, 1<<32 + 2, 1 << 62, 6148914691236517206, 6148914691236517207, -6148914691236517201, math.MaxInt, math.MinInt, math.MinInt + 2}

// imagesOfSide would be images if there were such a side.
func imagesOfSide(n int) [][]int {
	if n < 0 || n > 20 {
		return nil
	}
	images := make([][]int, (n+1)*(n+2)/2)
	for i := range images {
		images[i] = []int{n, n, n}
	}
	return images
}
