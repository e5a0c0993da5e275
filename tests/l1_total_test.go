package tests

// The functions of chapter 1 for promise 11.

import "loop.example/g01160/impl"

func functionsOfChapter1() []totalFunction {
	return []totalFunction{
		{"CountPoints", func(a arguments) []any { return pair(impl.CountPoints(a.n)) }, hasSide},
		{"PointAt", func(a arguments) []any { return pair(impl.PointAt(a.n, a.i)) }, hasPoint},
		{"IndexOfPoint", func(a arguments) []any { return pair(impl.IndexOfPoint(a.n, a.list)) },
			func(a arguments) bool { return isSide(a.n) && oracleIndex(a.n, a.list...) >= 0 }},
		{"NeighboursOf", func(a arguments) []any { return pair(impl.NeighboursOf(a.n, a.i)) }, hasPoint},
		{"CellsOf", func(a arguments) []any { return pair(impl.CellsOf(a.n)) }, hasSide},
		{"CellsWith", func(a arguments) []any { return pair(impl.CellsWith(a.n, a.i, a.j)) },
			func(a arguments) bool { return areNeighboursOf(a.n, a.i, a.j) }},
		{"IsUpCell", func(a arguments) []any { return pair(impl.IsUpCell(a.n, a.i)) },
			func(a arguments) bool { return isCellOf(a.n, a.i) }},
		{"BorderOf", func(a arguments) []any { return pair(impl.BorderOf(a.n)) }, hasSide},
		{"SidesOf", func(a arguments) []any { return pair(impl.SidesOf(a.n, a.i)) }, hasPoint},
		{"AreLabels", func(a arguments) []any { return pair(impl.AreLabels(a.n, a.list)) }, hasSide},
		{"KeepsSides", func(a arguments) []any { return pair(impl.KeepsSides(a.n, a.list)) }, areLabelsOf},
		{"FirstBroken", func(a arguments) []any { return pair(impl.FirstBroken(a.n, a.list)) },
			func(a arguments) bool { return areLabelsOf(a) && oracleBroken(a.n, a.list) >= 0 }},
		{"TurnLabels", func(a arguments) []any { return pair(impl.TurnLabels(a.n, a.list)) }, areLabelsOf},
		{"MirrorLabels", func(a arguments) []any { return pair(impl.MirrorLabels(a.n, a.list)) }, areLabelsOf},
		{"CountKeeping", func(a arguments) []any { return pair(impl.CountKeeping(a.n)) },
			func(a arguments) bool { return isSide(a.n) && a.n <= 7 }},
		{"LabelsText", func(a arguments) []any { return pair(impl.LabelsText(a.n, a.list)) }, areLabelsOf},
		{"ParseLabels", func(a arguments) []any { return triple(impl.ParseLabels(a.text)) },
			func(a arguments) bool { return a.text == "2:0/02/112" || a.text == "1:1/11" }},
	}
}
