package impl

import (
	"slices"
	"strconv"
	"strings"
)

const MaxSide = 8

// maxCountedSide is less than MaxSide because the document lets CountKeeping end there.
const maxCountedSide = 7

// maxPoints is what the greatest triangle has, so that one array type holds the labels of each.
const maxPoints = (MaxSide + 1) * (MaxSide + 2) / 2

// spot is a point told by its three numbers.
type spot [3]int

// trio is a cell told by the numbers of its points, increasing.
type trio [3]int

// mesh is the triangle of a side in 1..MaxSide.
type mesh struct {
	side int
}

// labelled is a mesh with a label for each of its points; the marks behind them stay 0.
type labelled struct {
	mesh  mesh
	marks [maxPoints]int
}

func meshOf(n int) (mesh, bool) {
	return mesh{side: n}, n >= 1 && n <= MaxSide
}

// spotOf checks each number before the sum, which could otherwise overflow and be right by chance.
func spotOf(list []int, sum int) (spot, bool) {
	if len(list) != 3 {
		return spot{}, false
	}
	for _, number := range list {
		if number < 0 || number > sum {
			return spot{}, false
		}
	}
	p := spot(list)
	return p, p[0]+p[1]+p[2] == sum
}

func (p spot) isBeside(q spot) bool {
	var more, less, same int
	for k := range p {
		switch q[k] - p[k] {
		case 1:
			more++
		case -1:
			less++
		case 0:
			same++
		}
	}
	return more == 1 && less == 1 && same == 1
}

func (p spot) zeros() []int {
	var found []int
	for k, number := range p {
		if number == 0 {
			found = append(found, k)
		}
	}
	return found
}

func (c trio) has(i int) bool {
	return slices.Contains(c[:], i)
}

func (m mesh) size() int {
	return (m.side + 1) * (m.side + 2) / 2
}

func (m mesh) hasPoint(i int) bool {
	return i >= 0 && i < m.size()
}

func (m mesh) areNeighbours(i, j int) bool {
	return m.hasPoint(i) && m.hasPoint(j) && m.spotAt(i).isBeside(m.spotAt(j))
}

// spotAt passes the rows of equal a, each of which has one point more than the row before it.
func (m mesh) spotAt(i int) spot {
	row := 0
	for i > row {
		row++
		i -= row
	}
	return spot{m.side - row, row - i, i}
}

func (m mesh) indexOf(p spot) int {
	row := m.side - p[0]
	return row*(row+1)/2 + p[2]
}

// cells needs no sorting: of the two cells that begin with the same point, the one with the next point of the row is the first.
func (m mesh) cells() []trio {
	cells := make([]trio, 0, m.side*m.side)
	for row := range m.side {
		first := row * (row + 1) / 2
		for i := first; i <= first+row; i++ {
			below := i + row + 1
			if i < first+row {
				cells = append(cells, trio{i, i + 1, below + 1})
			}
			cells = append(cells, trio{i, below, below + 1})
		}
	}
	return cells
}

func (m mesh) cellAt(number int) (trio, bool) {
	cells := m.cells()
	if number < 0 || number >= len(cells) {
		return trio{}, false
	}
	return cells[number], true
}

// isUp takes 1 from the numbers in the order of the points, as in an up cell the point with more of an earlier number comes first.
func (m mesh) isUp(c trio) bool {
	var lessened [3]spot
	for k, i := range c {
		lessened[k] = m.spotAt(i)
		lessened[k][k]--
	}
	return lessened[0] == lessened[1] && lessened[1] == lessened[2]
}

func (m mesh) border() []int {
	border := make([]int, 0, 3*m.side)
	at := spot{m.side, 0, 0}
	for from := range 3 {
		to := (from + 1) % 3
		for range m.side {
			border = append(border, m.indexOf(at))
			at[from]--
			at[to]++
		}
	}
	return border
}

func listsOfThree[T ~[3]int](threes []T) [][]int {
	lists := make([][]int, len(threes))
	for k, three := range threes {
		lists[k] = slices.Clone(three[:])
	}
	return lists
}

func (m mesh) withLabels(labels []int) (labelled, bool) {
	if len(labels) != m.size() {
		return labelled{}, false
	}
	for _, label := range labels {
		if label < 0 || label > 2 {
			return labelled{}, false
		}
	}
	l := labelled{mesh: m}
	copy(l.marks[:], labels)
	return l, true
}

func labelledOf(n int, labels []int) (labelled, bool) {
	m, ok := meshOf(n)
	if !ok {
		return labelled{}, false
	}
	return m.withLabels(labels)
}

func (l labelled) labelOf(p spot) int {
	return l.marks[l.mesh.indexOf(p)]
}

func (l labelled) firstBroken() (int, bool) {
	for i := range l.mesh.size() {
		if l.mesh.spotAt(i)[l.marks[i]] == 0 {
			return i, true
		}
	}
	return 0, false
}

func (l labelled) turnedAt(p spot) int {
	return (l.labelOf(spot{p[1], p[2], p[0]}) + 1) % 3
}

func (l labelled) mirroredAt(p spot) int {
	label := l.labelOf(spot{p[1], p[0], p[2]})
	if label == 2 {
		return 2
	}
	return 1 - label
}

func (m mesh) labelsBy(labelAt func(spot) int) []int {
	labels := make([]int, m.size())
	for i := range labels {
		labels[i] = labelAt(m.spotAt(i))
	}
	return labels
}

func (l labelled) text() string {
	var text strings.Builder
	text.WriteString(strconv.Itoa(l.mesh.side))
	text.WriteByte(':')
	for i := range l.mesh.size() {
		if i > 0 && l.mesh.spotAt(i)[2] == 0 {
			text.WriteByte('/')
		}
		text.WriteByte(byte('0' + l.marks[i]))
	}
	return text.String()
}

// CountPoints returns the number of points: (n + 1) (n + 2) / 2.
func CountPoints(n int) (int, bool) {
	m, ok := meshOf(n)
	if !ok {
		return 0, false
	}
	return m.size(), true
}

// PointAt returns the three numbers of the point i.
func PointAt(n int, i int) ([]int, bool) {
	m, ok := meshOf(n)
	if !ok || !m.hasPoint(i) {
		return nil, false
	}
	p := m.spotAt(i)
	return p[:], true
}

// IndexOfPoint returns the number of the point with three numbers. It fails if there is none.
func IndexOfPoint(n int, point []int) (int, bool) {
	m, isMesh := meshOf(n)
	p, isSpot := spotOf(point, n)
	if !isMesh || !isSpot {
		return 0, false
	}
	return m.indexOf(p), true
}

// NeighboursOf returns all neighbours of a point, increasing.
func NeighboursOf(n int, i int) ([]int, bool) {
	m, ok := meshOf(n)
	if !ok || !m.hasPoint(i) {
		return nil, false
	}
	p := m.spotAt(i)
	var found []int
	for j := range m.size() {
		if p.isBeside(m.spotAt(j)) {
			found = append(found, j)
		}
	}
	return found, true
}

// CellsOf returns all cells, n n of them.
func CellsOf(n int) ([][]int, bool) {
	m, ok := meshOf(n)
	if !ok {
		return nil, false
	}
	return listsOfThree(m.cells()), true
}

// CellsWith returns the numbers of all cells that have two neighbours i and j, increasing: one or two.
func CellsWith(n int, i int, j int) ([]int, bool) {
	m, ok := meshOf(n)
	if !ok || !m.areNeighbours(i, j) {
		return nil, false
	}
	var found []int
	for number, c := range m.cells() {
		if c.has(i) && c.has(j) {
			found = append(found, number)
		}
	}
	return found, true
}

// IsUpCell reports whether a cell is an up cell.
func IsUpCell(n int, cell int) (bool, bool) {
	m, ok := meshOf(n)
	if !ok {
		return false, false
	}
	c, ok := m.cellAt(cell)
	if !ok {
		return false, false
	}
	return m.isUp(c), true
}

// BorderOf returns the border.
func BorderOf(n int) ([]int, bool) {
	m, ok := meshOf(n)
	if !ok {
		return nil, false
	}
	return m.border(), true
}

// SidesOf returns all indices k for which the number with the index k of a point is 0, increasing.
func SidesOf(n int, i int) ([]int, bool) {
	m, ok := meshOf(n)
	if !ok || !m.hasPoint(i) {
		return nil, false
	}
	return m.spotAt(i).zeros(), true
}

// AreLabels reports whether a list, whose numbers may be any, is labels for n.
func AreLabels(n int, labels []int) (bool, bool) {
	m, ok := meshOf(n)
	if !ok {
		return false, false
	}
	_, are := m.withLabels(labels)
	return are, true
}

// KeepsSides reports whether labels keep sides.
func KeepsSides(n int, labels []int) (bool, bool) {
	l, ok := labelledOf(n, labels)
	if !ok {
		return false, false
	}
	_, broken := l.firstBroken()
	return !broken, true
}

// FirstBroken returns the first point whose label is not allowed by sides. It fails if there is none.
func FirstBroken(n int, labels []int) (int, bool) {
	l, ok := labelledOf(n, labels)
	if !ok {
		return 0, false
	}
	return l.firstBroken()
}

// TurnLabels returns the labels with which the point a, b, c has the label of the point b, c, a, and 1 more, where 3 is 0: they keep sides if the others do.
func TurnLabels(n int, labels []int) ([]int, bool) {
	l, ok := labelledOf(n, labels)
	if !ok {
		return nil, false
	}
	return l.mesh.labelsBy(l.turnedAt), true
}

// MirrorLabels returns those with which the point a, b, c has the label of the point b, a, c, with 0 and 1 exchanged.
func MirrorLabels(n int, labels []int) ([]int, bool) {
	l, ok := labelledOf(n, labels)
	if !ok {
		return nil, false
	}
	return l.mesh.labelsBy(l.mirroredAt), true
}

// CountKeeping returns how many labels of n keep sides, n in 1..7: two for each point of the border but the corners, one for these, and three for all others, multiplied.
func CountKeeping(n int) (int, bool) {
	m, ok := meshOf(n)
	if !ok || n > maxCountedSide {
		return 0, false
	}
	count := 1
	for i := range m.size() {
		count *= 3 - len(m.spotAt(i).zeros())
	}
	return count, true
}

// LabelsText returns n, a :, and the labels of all points as digits, those with equal a together, with / between them.
func LabelsText(n int, labels []int) (string, bool) {
	l, ok := labelledOf(n, labels)
	if !ok {
		return "", false
	}
	return l.text(), true
}

// ParseLabels returns n and the labels with a LabelsText. It fails if there are none.
func ParseLabels(s string) (int, []int, bool) {
	if len(s) < 2 {
		return 0, nil, false
	}
	m, ok := meshOf(int(s[0]) - '0')
	if !ok || len(s) != len("n:")+m.size()+m.side {
		return 0, nil, false
	}
	labels := make([]int, 0, m.size())
	for _, digit := range []byte(s[2:]) {
		if digit != '/' {
			labels = append(labels, int(digit)-'0')
		}
	}
	// What was skipped or not looked at is wrong unless the labels have this very text.
	l, ok := m.withLabels(labels)
	if !ok || l.text() != s {
		return 0, nil, false
	}
	return m.side, labels, true
}
