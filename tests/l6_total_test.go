package tests

// The functions of chapter 6 for promise 11: n is the side, i a cell, the list weights or an image, and the rows images.

import (
	"math"
	"slices"

	"loop.example/g01160/impl"
)

func hasImages(a arguments) bool { return areImagesOf(a.n, a.rows) }

func hasRegularImages(a arguments) bool { return hasImages(a) && oracleIsRegular(a.n, a.rows) }

func hasMappedCell(a arguments) bool { return hasImages(a) && isMappedCell(a.n, a.i) }

func hasFixedPoint(a arguments) bool {
	return hasMappedCell(a) && oracleTold(a.n, a.rows, a.i) == "fixed"
}

func functionsOfChapter6() []totalFunction {
	return []totalFunction{
		{"AreImages", func(a arguments) []any { return []any{impl.AreImages(a.n, a.rows)} }, hasImages},
		{"MapLabels", func(a arguments) []any { return pair(impl.MapLabels(a.n, a.rows)) }, hasImages},
		{"FullOfMap", func(a arguments) []any { return pair(impl.FullOfMap(a.n, a.rows)) }, hasImages},
		{"MovesOf", func(a arguments) []any { return pair(impl.MovesOf(a.n, a.rows, a.i)) }, hasMappedCell},
		{"AreasOf", func(a arguments) []any { return pair(impl.AreasOf(a.n, a.rows, a.i)) }, hasMappedCell},
		{"WeightsIn", func(a arguments) []any { return pair(impl.WeightsIn(a.n, a.rows, a.i)) }, hasFixedPoint},
		{"SignIn", func(a arguments) []any { return pair(impl.SignIn(a.n, a.rows, a.i)) }, hasFixedPoint},
		{"IsRegular", func(a arguments) []any { return pair(impl.IsRegular(a.n, a.rows)) }, hasImages},
		{"FixedPoints", func(a arguments) []any { return pair(impl.FixedPoints(a.n, a.rows)) }, hasRegularImages},
		{"SignsOfFixed", func(a arguments) []any { return pair(impl.SignsOfFixed(a.n, a.rows)) }, hasRegularImages},
		{"PointOfWeights", func(a arguments) []any { return pair(impl.PointOfWeights(a.n, a.i, a.list)) },
			func(a arguments) bool { return isMappedCell(a.n, a.i) && areWeightsOf(a.list) }},
		{"ImageOfWeights", func(a arguments) []any { return pair(impl.ImageOfWeights(a.n, a.rows, a.i, a.list)) },
			func(a arguments) bool { return hasMappedCell(a) && areWeightsOf(a.list) }},
		{"ConstantImages", func(a arguments) []any { return pair(impl.ConstantImages(a.n, a.list)) },
			func(a arguments) bool { return isImageOf(a.n, a.list) }},
		{"TurnedImages", func(a arguments) []any { return pair(impl.TurnedImages(a.n, a.rows)) }, hasImages},
	}
}

// mappedArguments has each side with cells, good and bad, and with images, weights and lists of all kinds.
func mappedArguments() []arguments {
	var all []arguments
	for n := 1; n <= impl.MaxMapped; n++ {
		maps := slices.Concat([][][]int{allAlike(n, n, n, n), allAlike(n, 3*n, 0, 0)}, imageSamples(n)[:20])
		lists := slices.Concat(goodWeights(), [][]int{{n, n, n}, {3 * n, 0, 0}, {0, 1, 3*n - 1}})
		for k, images := range maps {
			all = append(all, arguments{n: n, i: k % (n * n), list: lists[k%len(lists)], rows: images})
			all = append(all, arguments{n: n, i: k * 7 % (n * n), list: lists[(k+7)%len(lists)], rows: images})
		}
		maps = slices.Concat(maps[:10], badMaps(n))
		lists = slices.Concat(lists[:5], badWeights(), badImages(n))
		cells := []int{0, n*n - 1, n * n, -1, math.MaxInt, math.MinInt}
		next := chance(n + 1700)
		for _, images := range maps {
			all = append(all, arguments{n: n, i: cells[next(len(cells))], list: lists[next(len(lists))], rows: images})
		}
	}
	for _, n := range mappedSides {
		for _, images := range [][][]int{nil, {{0, 0, 0}}, imagesOfSide(2), imagesOfSide(n)} {
			all = append(all, arguments{n: n, list: []int{1, 1, 1}, rows: images}, arguments{n: n, i: 1, list: []int{n, n, n}, rows: images})
		}
	}
	return all
}
