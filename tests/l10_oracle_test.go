package tests

// What chapter 10 says, computed anew: lines by patterns of all that they may be, replies by what the other chapters' tests compute.

import (
	"math"
	"regexp"
	"slices"
	"strconv"
	"strings"

	"loop.example/g01160/impl"
)

const numberForm = `(0|[1-9][0-9]{0,5})`

var (
	setForm   = regexp.MustCompile(`^set ` + numberForm + ` ` + numberForm + `$`)
	beadsForm = regexp.MustCompile(`^beads (-|[abcd]{1,16})$`)
	boardForm = regexp.MustCompile(`^(board|need) ([012/]+)$`)
)

// labelsForms has the pattern of all lines with labels of the side n at the index n.
var labelsForms = func() []*regexp.Regexp {
	forms := make([]*regexp.Regexp, 9)
	for n := 1; n <= 8; n++ {
		var rows []string
		for size := 1; size <= n+1; size++ {
			rows = append(rows, "([012]{"+strconv.Itoa(size)+"})")
		}
		forms[n] = regexp.MustCompile(`^labels ` + strconv.Itoa(n) + ":" + strings.Join(rows, "/") + `$`)
	}
	return forms
}()

func digitsOf(text string) []int {
	var digits []int
	for _, digit := range text {
		digits = append(digits, int(digit-'0'))
	}
	return digits
}

// numberOrNo is for numbers that are below 0 if there is none.
func numberOrNo(number int) string {
	if number < 0 {
		return "no"
	}
	return strconv.Itoa(number)
}

func orDash(text string) string {
	if text == "" {
		return "-"
	}
	return text
}

func commaList(numbers []int) string {
	text := ""
	for _, number := range numbers {
		text += "," + strconv.Itoa(number)
	}
	return orDash(strings.TrimPrefix(text, ","))
}

func oracleDegree(n int, labels []int) int {
	degree := 0
	for _, cell := range oracleFullCells(n, labels) {
		degree += oracleSign(n, labels, cell)
	}
	return degree
}

// splitReplies are kept from call to call, as trying all cuts takes long.
var splitReplies = map[string]string{}

func oracleSplitReply(s string) string {
	if reply, found := splitReplies[s]; found {
		return reply
	}
	reply := "no"
	if areNumbersParted(s, 2) {
		cuts, _ := oracleSplit(s)
		reply = commaList(cuts)
	}
	splitReplies[s] = reply
	return reply
}

// oracleCutsReply counts the cuts of the other reply.
func oracleCutsReply(s string) string {
	switch reply := oracleSplitReply(s); reply {
	case "no":
		return "no"
	case "-":
		return "0"
	default:
		return strconv.Itoa(1 + strings.Count(reply, ","))
	}
}

func oracleBoardReply(name, text string) string {
	if !isBoardText(text) {
		return "what"
	}
	lines := strings.Split(text, "/")
	rows, columns, board := len(lines), len(lines[0]), digitsOf(strings.Join(lines, ""))
	if name == "need" {
		return numberOrNo(oracleNeed(rows, columns, board, 1))
	}
	if countZeros(board) > 0 {
		return "no"
	}
	return strconv.Itoa(oracleWinner(rows, columns, board))
}

func oracleSetReply(d *impl.Desk, point, label string) string {
	i, _ := strconv.Atoi(point)
	k, _ := strconv.Atoi(label)
	if i >= len(d.Labels) || k > 2 {
		return "no"
	}
	d.Labels = slices.Replace(slices.Clone(d.Labels), i, i+1, k)
	return oracleText(d.Side, d.Labels)
}

func oracleQuestion(d impl.Desk, line string) string {
	switch line {
	case "show":
		return oracleText(d.Side, d.Labels)
	case "string":
		return orDash(d.Beads)
	case "broken":
		return numberOrNo(oracleBroken(d.Side, d.Labels))
	case "full":
		return commaList(oracleFullCells(d.Side, d.Labels))
	case "find":
		return numberOrNo(oracleFound(d.Side, d.Labels))
	case "degree":
		return strconv.Itoa(oracleDegree(d.Side, d.Labels))
	case "cuts":
		return oracleCutsReply(d.Beads)
	case "split":
		return oracleSplitReply(d.Beads)
	case "half":
		return numberOrNo(oracleHalfWindow(d.Beads))
	case "three":
		return numberOrNo(oracleForThree(d.Beads))
	}
	return "what"
}

// oracleLine returns the desk behind a line, and its reply; the desk before it stays as it is.
func oracleLine(d impl.Desk, line string) (impl.Desk, string) {
	switch line {
	case "turn":
		d.Labels = oracleTurn(d.Side, d.Labels)
		return d, oracleText(d.Side, d.Labels)
	case "mirror":
		d.Labels = oracleMirror(d.Side, d.Labels)
		return d, oracleText(d.Side, d.Labels)
	case "reverse":
		d.Beads = oracleReversed(d.Beads)
		return d, orDash(d.Beads)
	}
	for n := 1; n <= 8; n++ {
		if rows := labelsForms[n].FindStringSubmatch(line); rows != nil {
			d.Side, d.Labels = n, digitsOf(strings.Join(rows[1:], ""))
			return d, strings.TrimPrefix(line, "labels ")
		}
	}
	if words := setForm.FindStringSubmatch(line); words != nil {
		reply := oracleSetReply(&d, words[1], words[2])
		return d, reply
	}
	if words := beadsForm.FindStringSubmatch(line); words != nil {
		d.Beads = strings.Trim(words[1], "-")
		return d, words[1]
	}
	if words := boardForm.FindStringSubmatch(line); words != nil {
		return d, oracleBoardReply(words[1], words[2])
	}
	return d, oracleQuestion(d, line)
}

func isFailure(reply string) bool { return reply == "no" || reply == "what" }

// scriptFacts are what a script does.
type scriptFacts struct {
	replies []string
	failed  []int
	desk    impl.Desk
}

func oracleScript(lines []string) scriptFacts {
	f := scriptFacts{desk: impl.Desk{Side: 2, Labels: []int{0, 0, 2, 1, 1, 2}, Beads: "aabb"}}
	for k, line := range lines {
		desk, reply := oracleLine(f.desk, line)
		f.desk = desk
		f.replies = append(f.replies, reply)
		if isFailure(reply) {
			f.failed = append(f.failed, k+1)
		}
	}
	return f
}

// scriptOf ends each line.
func scriptOf(lines ...string) string {
	text := ""
	for _, line := range lines {
		text += line + "\n"
	}
	return text
}

func isScriptText(s string) bool {
	return len(s) <= 3000 && strings.Count(s, "\n") <= 50 && (s == "" || strings.HasSuffix(s, "\n"))
}

func isDeskOf(d impl.Desk) bool {
	return areLabelsOf(arguments{n: d.Side, list: d.Labels}) && areBeads(d.Beads)
}

func isLineText(line string) bool { return len(line) <= 3000 && strings.Count(line, "\n") == 0 }

// plainLines are the lines of one word, with and without an effect.
func plainLines() []string {
	return []string{"turn", "mirror", "reverse", "show", "string", "broken", "full", "find", "degree", "cuts", "split", "half", "three"}
}

// deskBeads have all kinds of fair cuts, half windows and shares for three, and none.
func deskBeads() []string {
	return []string{
		"", "a", "d", "aa", "ab", "abc", "abcd", "aabb", "abab", "abba", "aaa", "bbbccc", "abcabc", "cacaca", "aabbcc", "aabbccdd", "aaabbbccc", "abcabcabc", "ddddddddd", "aaaaaaaaaa",
		"aaaabbbbccccdddd", "abcdabcdabcdabcd", "ddccbbaaddccbbaa", "aaaaaaaaaaaaaaab", "dddddddddddddddd", "aaaaaaaabbbbbbbb",
	}
}

// deskLabels are some labels of a side, with many full cells and with none, that keep sides and that do not.
func deskLabels(n int) [][]int {
	return slices.Concat(sampleLabels(n)[:8], doorLabels(n)[:12])
}

// deskBoards are texts of boards, full ones and others.
func deskBoards() []string {
	texts := []string{"0", "1", "2", "12/21", "12/11", "00/00", "22/22", "11/11", "10/02", "12/01", "20/02", "020/020/020", strings.Repeat("0", 30), strings.Repeat("1", 30), "2" + strings.Repeat("/2", 29)}
	for _, g := range [][2]int{{1, 5}, {5, 1}, {2, 3}, {3, 3}, {4, 4}, {5, 6}, {6, 5}, {3, 10}, {15, 2}} {
		for _, board := range sampleBoards(g[0], g[1])[5:11] {
			texts = append(texts, oracleBoardText(g[0], g[1], board))
		}
	}
	return texts
}

// manyLines are lines of each kind, which a word or a text is known for; some of them are refused with no.
func manyLines(next func(int) int) []string {
	lines := slices.Concat(plainLines(), []string{"beads -"})
	for n := 1; n <= 8; n++ {
		labels := deskLabels(n)
		lines = append(lines, "labels "+oracleText(n, labels[next(len(labels))]))
	}
	for range 8 {
		lines = append(lines, "set "+strconv.Itoa(next(8))+" "+strconv.Itoa(next(4)), "set "+strconv.Itoa(next(46))+" "+strconv.Itoa(next(3)))
	}
	for range 6 {
		lines = append(lines, "beads "+orDash(deskBeads()[next(len(deskBeads()))]))
	}
	boards := deskBoards()
	for range 3 {
		lines = append(lines, "board "+boards[next(len(boards))], "need "+boards[next(len(boards))])
	}
	return append(lines, "set 0 0", "set 0 2", "set 0 3", "set 999999 0", "set 0 999999", "set 999999 999999")
}

// lineSamples has one line or two of each kind.
func lineSamples() []string {
	return append(plainLines(), "labels 2:0/02/112", "labels 1:0/12", "set 1 2", "set 0 0", "set 10 1", "beads abba", "beads -", "board 12/21", "need 10/02")
}

// badWords are no numbers that a line may have.
var badWords = []string{
	"", "-", "00", "01", "000", "0000000", "010", "007", "+1", "-1", "+0", "-0", "--1", "1-", "1000000", "9999999", "10000000", "1000001", "4294967296", "4294967297", "9223372036854775807", "9223372036854775808",
	"-9223372036854775808", "18446744073709551616", "18446744073709551617", "99999999999999999999999999", strings.Repeat("0", 500), strings.Repeat("9", 500), "0x1", "0b1", "0o1", "1_0", "0_1", "1e0", "1.0", "1.", ".1", "1,", "1,0", "1/1",
	"a", "x", "1a", "a1", "one", "I", "K", "\t1", "1\t", "1\r", "\x00", "1\x00", "\xb1", "\x80", "\xff", "1\xff", "１", "١", "²", "½", "é", "true", "nil", "NaN", "inf",
}

// badLabelTexts, badBoardTexts and badBeadTexts are texts of none.
var badLabelTexts = []string{
	"", "-", "0", "2", "2:", ":", "0:0", "9:0", "1:0", "1:0/1", "1:0/123", "1:0/1/2", "1:0/12/", "1:/0/12", "1:0//12", "1:012", "1:01/2", "1:0/13", "1:0/1a", "1:3/12", "1;0/12", "1/0/12", "01:0/12", "+1:0/12", "-1:0/12", "1:0/1\xff",
	"1:0/1２", "1:0/12\r", "1:0/12,", "1:0,12", "2:0/12", "1:0/02/112", "2:0/02/1122", "2:0/02/11", "2:0/021/12", "2:0/02/113", "2:0/02/112/0000", "2:0/02\t112", "2:0/02/112\x00", "[0 1 2]", "0,1,2", "12/21", "abba",
}

var badBoardTexts = []string{
	"", "-", "/", "//", "3", "13", "12/2", "1/22", "12/23", "1//1", "/12", "12/", "12/21/", "12/21/2", "a", "aabb", "1a", "12\\21", "12|21", "12,21", "12-21", "+1", "1\xff", "\xb1", "１", "12/2\t", "12\r", "12\x00", "1:0/12", "2:12/21", "012/01", strings.Repeat("1", 31),
	strings.Repeat("1/", 30) + "1", "111111/111111/111111/111111/111111/111111", strings.Repeat("12345", 100), strings.Repeat("1", 2000), strings.Repeat("/", 2000),
}

var badBeadTexts = []string{
	"", "--", "-a", "a-", "-aabb", "A", "AABB", "aabB", "e", "aabbe", "eaabb", "0", "1", "12", "aabb,", "a,b", "aa-bb", "ab\xff", "\xe1", "é", "ａ", "а", "ab\x00", "ab\t", "\tab", "ab\r", "–", "_", "nil", strings.Repeat("a", 17), strings.Repeat("ab", 9), strings.Repeat("abcd", 700),
}

// badLines are to be told what, on whatever desk.
func badLines() []string {
	lines := []string{
		"", " ", "  ", strings.Repeat(" ", 100), "-", "what", "no", "fly", "labels", "set", "beads", "board", "need", "set 1", "set 0", "labels ", "beads ", "board ", "need ", "set ", "set  ", "set   ", " set", "help", "quit", "desk", "I", "0", "1", "12/21", "2:0/02/112", "aabb", "a", "labels:1:0/12",
		"labelled 1:0/12", "label 1:0/12", "bead aabb", "boards 12/21", "needs 12/21", "sets 1 2", "turns", "tur", "turnmirror", "turn mirror", "show string", "showstring", "full,find", "full;find", "FULL", "Full", "fulL", "SET 1 2", "Set 1 2", "LABELS 1:0/12", "BEADS aabb", "Beads AABB", "BOARD 12/21", "Need 12/21",
		"\xff", "\x80\x81", "full\xff", "\xfffull", "é", "full\u00a0", "set\u00a01\u00a02", "set 1\u00a02", "full\x00", "\x00", "\t", "full\t", "\tfull", "set\t1\t2", "set\t1 2", "set 1\t2", "full\r", "set 1 2\r", "beads aabb\r", "set(1, 2)", "set 1,2", "set 1, 2", "set 1/2", "set 1:2", "set -", "set - -",
		"turn 1", "mirror 0", "reverse aabb", "show 2:0/02/112", "string -", "broken 0", "full -", "find 1", "degree 0", "cuts aabb", "split 1", "half 0", "three aaabbb", strings.Repeat("full", 700), strings.Repeat("full ", 500),
		"set 1 2 0", "set 1 2 0 0", "set 1 2 ", "set 1  2", "set  1 2", " set 1 2", "set 1 2  ", "set 12", "set 1 2 set 1 2", "labels 1:0/12 ", "labels  1:0/12", " labels 1:0/12", "labels 1:0/12 1:0/12", "labels 1: 0/12", "labels 1:0/12 -", "labels 1 012", "labels 0 1 2", "labels 1 0 1 2",
		"beads aabb ", "beads  aabb", " beads aabb", "beads aabb aabb", "beads aa bb", "beads a a b b", "beads - ", "beads  -", "beads - -", " beads -", "board 12/21 ", "board  12/21", " board 12/21", "board 12 21", "board 2 2 12/21", "need 12/21 ", "need  12/21", " need 12/21", "need 12/21 1", "need 1 12/21", "need 12/21 2",
	}
	for _, word := range badWords {
		lines = append(lines, "set "+word+" 1", "set 1 "+word, "set "+word+" "+word, "set "+word+" 99", "set 99 "+word, "set 999999 "+word, "set "+word+" 999999", "set "+word)
	}
	for _, word := range plainLines() {
		lines = append(lines, word+" ", " "+word, word+" "+word, word+"  ", word+" 0", word+" -", strings.ToUpper(word), strings.ToUpper(word[:1])+word[1:], word+word, word[1:], word[:len(word)-1], word+"\t", word+"\r", word+"s", "-"+word, word+"\xff", word+".")
	}
	add := func(name string, texts []string) {
		for _, text := range texts {
			lines = append(lines, name+" "+text)
		}
	}
	add("labels", badLabelTexts)
	add("board", badBoardTexts)
	add("need", badBoardTexts)
	add("beads", badBeadTexts)
	return lines
}

// sampleDesks are desks of each side, the same ones in each run.
func sampleDesks() []impl.Desk {
	var desks []impl.Desk
	beads := deskBeads()
	for n := 1; n <= 8; n++ {
		for _, labels := range deskLabels(n) {
			desks = append(desks, impl.Desk{Side: n, Labels: labels, Beads: beads[len(desks)%len(beads)]})
		}
	}
	return desks
}

// badDesks are a desk with something that it may not have.
func badDesks() []impl.Desk {
	first := []int{0, 0, 2, 1, 1, 2}
	desks := []impl.Desk{{}, {Side: 2}, {Side: 2, Labels: []int{}}, {Labels: first}, {Beads: "aabb"}, {Side: 2, Beads: "aabb"}, {Labels: first, Beads: "aabb"}, {Side: 9, Labels: make([]int, 55), Beads: "aabb"}, {Side: 0, Labels: []int{0}}, {Side: -1}, {Side: -2}, {Side: -3, Labels: []int{0}}}
	for _, side := range []int{0, 1, 3, 8, 9, -1, -2, -3, -5, 258, 1<<32 + 2, -1<<32 + 2, math.MaxInt, math.MinInt, math.MinInt + 2} {
		desks = append(desks, impl.Desk{Side: side, Labels: first, Beads: "aabb"})
	}
	for n := 1; n <= 8; n++ {
		for _, labels := range badLists(n) {
			desks = append(desks, impl.Desk{Side: n, Labels: labels, Beads: "aabb"}, impl.Desk{Side: n, Labels: labels})
		}
	}
	for _, beads := range append(badBeadTexts[1:], "-", " ", "aabb ", " aabb", "aabb\n", "\n", "what", "no") {
		desks = append(desks, impl.Desk{Side: 2, Labels: first, Beads: beads}, impl.Desk{Side: 1, Labels: []int{0, 1, 2}, Beads: beads})
	}
	return desks
}

// chanceLines are at most so many lines of all kinds, good and bad, that make a script together; what does not fit in is left out.
func chanceLines(next func(int) int, count int) []string {
	good, bad := manyLines(next), badLines()
	var lines []string
	left := 3000
	for range count {
		line := good[next(len(good))]
		if next(6) == 0 {
			line = bad[next(len(bad))]
		}
		if len(line) < min(left, 200) {
			left -= len(line) + 1
			lines = append(lines, line)
		}
	}
	return lines
}

// badScripts have a last line that does not end, too many lines, or too many bytes.
func badScripts() []string {
	texts := []string{
		"a", "full", " ", "-", "\r", "\x00", "\xff", "full\r", "\nfull", "full\nfind", "full\nfind\ndegree", "full\n ", "full\n\n ", "full\n\x00", "full\n\r", "full\\n", "full;", "full\u0085", "full\u2028", "full\r\nfind",
		strings.Repeat("\n", 51), strings.Repeat("\n", 52), strings.Repeat("\n", 100), strings.Repeat("\n", 3000), strings.Repeat("\n", 3001), strings.Repeat("\n", 50) + "a", strings.Repeat("\n", 51) + "a", strings.Repeat("full\n", 50) + "full", strings.Repeat("full\n", 51), strings.Repeat("full\n", 600),
		strings.Repeat("a", 3000), strings.Repeat("a", 3000) + "\n", strings.Repeat("a", 2999) + "\n\n", "\n" + strings.Repeat("a", 2999) + "\n", strings.Repeat(" ", 3000) + "\n", strings.Repeat("a", 100000), strings.Repeat("a", 100000) + "\n", strings.Repeat(strings.Repeat("x", 59)+"\n", 50) + "\n",
		strings.Repeat(strings.Repeat("x", 60)+"\n", 50), strings.Repeat("full\n", 49) + strings.Repeat("a", 2755) + "\n", strings.Repeat(strings.Repeat("x", 99)+"\n", 30) + "full\n", strings.Repeat("é", 1500) + "\n",
	}
	for _, line := range lineSamples() {
		texts = append(texts, line, "full\n"+line, line+"\n"+line, line+"\n ", line+"\r", line+"\\n")
	}
	return texts
}
