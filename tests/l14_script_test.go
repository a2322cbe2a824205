package tests

import (
	"fmt"
	"regexp"
	"slices"
	"strconv"
	"strings"
	"sync"
	"testing"

	"loop.example/g00660/impl"
)

const tooLong = "too long\n"

func scriptOf(lines ...string) string {
	var text strings.Builder
	for _, line := range lines {
		text.WriteString(line + "\n")
	}
	return text.String()
}

func wantScript(t *testing.T, text string, want string) {
	t.Helper()
	if got := impl.RunScript(text); got != want {
		t.Errorf("RunScript(%q) = %q; want %q", text, got, want)
	}
}

// wantDialogue has lines and their outputs by turns. Each beginning of the script is run too.
func wantDialogue(t *testing.T, linesAndOutputs ...string) {
	t.Helper()
	text, want := "", ""
	wantScript(t, text, want)
	for pair := range slices.Chunk(linesAndOutputs, 2) {
		text += pair[0] + "\n"
		want += pair[1] + "\n"
		wantScript(t, text, want)
	}
}

// wantLastOutput checks what a line puts out behind others.
func wantLastOutput(t *testing.T, before []string, line string, want string) {
	t.Helper()
	text := scriptOf(before...) + line + "\n"
	wantScript(t, text, impl.RunScript(scriptOf(before...))+want+"\n")
}

// scriptModel says in other words than the program what a script puts out: it has a pattern for
// each form of a line, and the carts alone.
type scriptModel struct{ carts [4]impl.Cart }

var (
	qtyLine    = regexp.MustCompile(`^ *([0-3]) +(add|set) +([a-z0-9]{1,8}) +([1-9][0-9]{0,2}) *$`)
	itemLine   = regexp.MustCompile(`^ *([0-3]) +(remove|save|back) +([a-z0-9]{1,8}) *$`)
	aloneLine  = regexp.MustCompile(`^ *([0-3]) +(clear|undo|redo) *$`)
	toggleLine = regexp.MustCompile(`^ *([0-3]) +toggle +([0-3]) +([1-9]|[1-3][0-9]|40) *$`)
	tellLine   = regexp.MustCompile(`^ *tell +([0-3]) +([0-3]) *$`)
	queryLine  = regexp.MustCompile(`^ *([0-3]) +(show|total|history) *$`)
)

var cmdKinds = map[string]int64{"add": 1, "set": 2, "remove": 3, "save": 4, "back": 5, "clear": 6, "undo": 7, "redo": 8}

func newModel() *scriptModel {
	var m scriptModel
	for dev := range m.carts {
		m.carts[dev] = impl.CartNew()
	}
	return &m
}

func number(word string) int64 {
	n, err := strconv.ParseInt(word, 10, 64)
	if err != nil {
		panic(err)
	}
	return n
}

// modelCmd returns the device and the command of a line, if it has one.
func modelCmd(line string) (int64, impl.Cmd, bool) {
	if w := qtyLine.FindStringSubmatch(line); w != nil {
		return number(w[1]), impl.Cmd{Kind: cmdKinds[w[2]], Item: w[3], Qty: number(w[4])}, true
	}
	if w := itemLine.FindStringSubmatch(line); w != nil {
		return number(w[1]), impl.Cmd{Kind: cmdKinds[w[2]], Item: w[3]}, true
	}
	if w := aloneLine.FindStringSubmatch(line); w != nil {
		return number(w[1]), impl.Cmd{Kind: cmdKinds[w[2]]}, true
	}
	if w := toggleLine.FindStringSubmatch(line); w != nil {
		return number(w[1]), toggleCmd(number(w[2]), number(w[3])), true
	}
	return 0, impl.Cmd{}, false
}

func (m *scriptModel) query(c impl.Cart, verb string) string {
	lines, total := linesBy(replayed(c))
	switch verb {
	case "total":
		return fmt.Sprintf("total %d", total)
	case "history":
		return strings.TrimSuffix("history "+told(sortedOps(c)), " ")
	}
	shown := "show"
	for _, line := range lines {
		shown += fmt.Sprintf(" %s:%d%s", line.Item, line.Qty, map[bool]string{true: "*"}[line.Saved])
	}
	return shown
}

func (m *scriptModel) output(t *testing.T, line string) string {
	t.Helper()
	if dev, x, ok := modelCmd(line); ok {
		next, code := expected(m.carts[dev], dev, x)
		m.carts[dev] = next
		return map[int64]string{impl.CcOk: "ok", impl.CcNone: "none", impl.CcThere: "there", impl.CcFull: "full"}[code]
	}
	if w := tellLine.FindStringSubmatch(line); w != nil {
		from, to := number(w[1]), number(w[2])
		m.carts[to] = mustMerge(t, m.carts[from], m.carts[to])
		return "ok"
	}
	if w := queryLine.FindStringSubmatch(line); w != nil {
		return m.query(m.carts[number(w[1])], w[2])
	}
	return "what"
}

// modelOutputs has an element for each line, which is empty for a line without words.
func modelOutputs(t *testing.T, lines []string) []string {
	t.Helper()
	m := newModel()
	var outputs []string
	for _, line := range lines {
		output := ""
		if strings.Trim(line, " ") != "" {
			output = m.output(t, line) + "\n"
		}
		outputs = append(outputs, output)
	}
	return outputs
}

func wantAsModel(t *testing.T, lines ...string) {
	t.Helper()
	wantScript(t, scriptOf(lines...), strings.Join(modelOutputs(t, lines), ""))
}

var oddWords = []string{
	"", "4", "-1", "03", "+1", "00", "41", "1000", "1000000000", "Tea", "toolong12", "tea-", "fly", "Show", "addd", "\t", "\x00", "\xff", "\u00a0", "*",
	"tell", "add", "show", "undo", "toggle",
}

// line returns a line of any form, sometimes with a word too few, too many or odd, and with more spaces.
func (d *dice) line() string {
	dev, item, qty := strconv.Itoa(int(d.roll(4))), diceItems[d.roll(int64(len(diceItems)))], strconv.Itoa(int(1+d.roll(999)))
	words := [][]string{
		{dev, "add", item, qty}, {dev, "add", item, qty}, {dev, "set", item, qty}, {dev, "remove", item}, {dev, "save", item}, {dev, "back", item}, {dev, "clear"},
		{dev, "undo"}, {dev, "redo"}, {dev, "toggle", strconv.Itoa(int(d.roll(4))), strconv.Itoa(int(1 + d.roll(6)))},
		{"tell", dev, strconv.Itoa(int(d.roll(4)))}, {"tell", dev, strconv.Itoa(int(d.roll(4)))}, {dev, "show"}, {dev, "total"}, {dev, "history"}, {},
	}[d.roll(16)]
	place := int(d.roll(int64(len(words) + 1)))
	odd := oddWords[d.roll(int64(len(oddWords)))]
	switch d.roll(16) {
	case 0:
		words = slices.Insert(words, place, odd)
	case 1:
		words = words[:place]
	case 2:
		words = append(words[:place:place], words[min(place+1, len(words)):]...)
	case 3:
		if place < len(words) {
			words[place] = odd
		}
	case 4:
		return "  " + strings.Join(words, "   ") + " "
	}
	return strings.Join(words, " ")
}

func (d *dice) script(count int) []string {
	var lines []string
	for range count {
		lines = append(lines, d.line())
	}
	return lines
}

func TestScriptExample(t *testing.T) {
	wantDialogue(t,
		"0 add tea 2", "ok", "0 save tea", "ok", "0 show", "show tea:2*", "0 total", "total 0",
		"1 add egg 3", "ok", "tell 0 1", "ok", "1 show", "show egg:3 tea:2*")
}

func TestScriptOfOneDevice(t *testing.T) {
	wantDialogue(t,
		"0 show", "show", "0 total", "total 0", "0 history", "history",
		"0 undo", "none", "0 redo", "none", "0 clear", "none", "0 toggle 0 1", "none",
		"0 add tea 2", "ok", "0 add tea 3", "there", "0 set tea 4", "ok", "0 set egg 4", "none", "0 save egg", "none",
		"0 back tea", "none", "0 save tea", "ok", "0 save tea", "none", "0 show", "show tea:4*", "0 total", "total 0",
		"0 back tea", "ok", "0 back tea", "none", "0 back egg", "none", "0 show", "show tea:4", "0 total", "total 4",
		"0 remove egg", "none", "0 remove tea", "ok", "0 remove tea", "none", "0 show", "show", "0 total", "total 0",
		"0 undo", "ok", "0 show", "show tea:4", "0 redo", "ok", "0 redo", "none", "0 show", "show", "0 toggle 0 5", "ok",
		"0 clear", "ok", "0 clear", "none",
		"0 history", "history add tea 2; set tea 4; save tea; back tea; remove tea (undone); remove tea")
	wantDialogue(t,
		"3 add b 1", "ok", "3 add a 20", "ok", "3 add 0 300", "ok", "3 add ab 999", "ok", "3 show", "show 0:300 a:20 ab:999 b:1", "3 total", "total 1320",
		"3 save a", "ok", "3 save ab", "ok", "3 show", "show 0:300 a:20* ab:999* b:1", "3 total", "total 301",
		"3 clear", "ok", "3 show", "show a:20* ab:999*", "3 total", "total 0", "3 clear", "none", "3 undo", "ok", "3 show", "show a:20* ab:999* b:1",
		"3 undo", "ok", "3 total", "total 301", "3 redo", "ok", "3 redo", "ok", "3 redo", "none", "3 toggle 3 1", "ok", "3 toggle 3 1", "ok", "3 toggle 3 9", "none",
		"3 history", "history add b 1; add a 20; add 0 300; add ab 999; save a; save ab; remove 0; remove b")
}

// What a device does is not seen on another one until it is told.
func TestScriptOfSeveralDevices(t *testing.T) {
	wantDialogue(t,
		"0 add tea 2", "ok", "1 add tea 3", "ok", "1 show", "show tea:3", "2 show", "show", "2 remove tea", "none", "2 toggle 0 1", "none",
		"tell 0 2", "ok", "2 show", "show tea:2", "2 add tea 7", "there", "2 remove tea", "ok", "0 show", "show tea:2", "2 toggle 0 1", "ok", "2 toggle 1 1", "none",
		"tell 2 0", "ok", "0 show", "show", "0 history", "history add tea 2 (undone); remove tea", "0 undo", "none", "0 redo", "ok", "0 toggle 2 1", "ok", "0 show", "show tea:2",
		"tell 0 1", "ok", "1 show", "show tea:3", "1 history", "history add tea 2; add tea 3; remove tea (undone)", "0 history", "history add tea 2; remove tea (undone)",
		"tell 1 0", "ok", "0 show", "show tea:3", "2 show", "show", "3 history", "history")
	wantDialogue(t,
		"0 add tea 2", "ok", "1 add egg 1", "ok", "2 add oat 5", "ok", "3 add fig 4", "ok", "3 save fig", "ok",
		"tell 0 1", "ok", "tell 1 2", "ok", "tell 2 3", "ok", "3 show", "show egg:1 fig:4* oat:5 tea:2", "0 show", "show tea:2", "1 show", "show egg:1 tea:2",
		"tell 3 0", "ok", "0 show", "show egg:1 fig:4* oat:5 tea:2", "0 total", "total 8", "0 clear", "ok", "0 show", "show fig:4*",
		"1 set tea 9", "ok", "tell 0 1", "ok", "1 show", "show fig:4*", "1 total", "total 0",
		"1 history", "history add tea 2; add egg 1; add oat 5; add fig 4; set tea 9; save fig; remove egg; remove oat; remove tea")
}

func TestScriptTell(t *testing.T) {
	for from := range 4 {
		for to := range 4 {
			tell := fmt.Sprintf("tell %d %d", from, to)
			show := "show"
			if from == to {
				show = "show tea:2"
			}
			// Without operations, and again when nothing has changed.
			wantDialogue(t, tell, "ok", tell, "ok", fmt.Sprintf("%d show", to), "show", fmt.Sprintf("%d add tea 2", from), "ok", fmt.Sprintf("%d show", to), show,
				tell, "ok", tell, "ok", fmt.Sprintf("%d show", to), "show tea:2", tell, "ok", fmt.Sprintf("%d history", from), "history add tea 2", fmt.Sprintf("%d undo", from), "ok",
				tell, "ok", fmt.Sprintf("%d history", to), "history add tea 2 (undone)")
			// A device without operations tells one that has some.
			if from != to {
				wantDialogue(t, fmt.Sprintf("%d add tea 2", to), "ok", tell, "ok", fmt.Sprintf("%d show", to), "show tea:2", fmt.Sprintf("%d show", from), "show")
			}
		}
	}
	wantScript(t, strings.Repeat("tell 2 1\n", 40), strings.Repeat("ok\n", 40))
	wantScript(t, strings.Repeat("tell 3 3\n", 40), strings.Repeat("ok\n", 40))
}

func addLines(dev int, count int) []string {
	var lines []string
	for i := range count {
		lines = append(lines, fmt.Sprintf("%d add i%02d 1", dev, i))
	}
	return lines
}

func okDialogue(lines []string) []string {
	var dialogue []string
	for _, line := range lines {
		dialogue = append(dialogue, line, "ok")
	}
	return dialogue
}

func TestScriptOfFullDevice(t *testing.T) {
	wantDialogue(t, append(okDialogue(append(addLines(2, 20), "2 clear")),
		"2 add tea 1", "full", "2 clear", "none", "2 add i00 1", "full", "2 undo", "ok", "2 show", "show i19:1", "2 add i19 2", "there",
		"2 set i19 2", "full", "2 save i19", "full", "2 back i19", "none", "2 remove i19", "full", "2 remove tea", "none", "2 clear", "full",
		"2 total", "total 1", "2 toggle 2 40", "ok", "2 toggle 2 41", "what", "3 add tea 1", "ok", "tell 3 2", "ok", "2 show", "show tea:1")...)
	// One operation fits, and one more does not.
	wantDialogue(t, append(okDialogue(append(addLines(1, 19), "1 clear", "1 add tea 5")),
		"1 set tea 6", "ok", "1 set tea 7", "full", "1 show", "show tea:6", "1 undo", "ok", "1 show", "show tea:5", "1 set tea 7", "full")...)
	// Of the removals, all but one or two would fit: none is made.
	for _, count := range []int{21, 22, 30} {
		wantDialogue(t, append(okDialogue(addLines(0, count)), "0 clear", "full", "0 total", fmt.Sprintf("total %d", count), "0 save i00", "ok", "0 undo", "ok")...)
	}
}

func TestScriptOfManyUndos(t *testing.T) {
	lines, outputs := []string{"1 add tea 1"}, "ok\n"
	for i := range 38 {
		lines = append(lines, []string{"1 undo", "1 redo", "1 toggle 1 1", "1 toggle 1 1"}[i%4])
		outputs += "ok\n"
	}
	wantScript(t, scriptOf(append(lines, "1 history")...), outputs+"history add tea 1\n")
	wantScript(t, scriptOf(append(lines[:38], "1 undo", "1 history")...), outputs[3:]+"none\nhistory add tea 1 (undone)\n")
}

func TestScriptOfManyLines(t *testing.T) {
	for count := range 41 {
		wantScript(t, strings.Repeat("\n", count), "")
		wantScript(t, strings.Repeat("   \n", count), "")
		wantScript(t, strings.Repeat("0 show\n", count), strings.Repeat("show\n", count))
		wantScript(t, strings.Repeat("0 show\n", count)+strings.Repeat("\n", 40-count), strings.Repeat("show\n", count))
		wantScript(t, strings.Repeat("\n", 40-count)+strings.Repeat("fly\n", count), strings.Repeat("what\n", count))
		wantScript(t, strings.Repeat("0 show\n", count)+strings.Repeat("\n", 41-count), tooLong)
		wantScript(t, strings.Repeat(" \n", 41-count)+strings.Repeat("0 show\n", count), tooLong)
	}
	for _, count := range []int{41, 42, 100, 571, 4000, 4001, 100000} {
		wantScript(t, strings.Repeat("\n", count), tooLong)
		wantScript(t, strings.Repeat("0 show\n", count), tooLong)
		wantScript(t, strings.Repeat("what\n", count), tooLong)
	}
}

func TestScriptOfManyBytes(t *testing.T) {
	spaces := func(n int) string { return strings.Repeat(" ", n) }
	for _, n := range []int{3998, 3999, 4000, 4001, 4002, 100000, 5000000} {
		limited := func(output string) string {
			if n > 4000 {
				return tooLong
			}
			return output
		}
		wantScript(t, spaces(n-1)+"\n", limited(""))
		wantScript(t, "0 show"+spaces(n-7)+"\n", limited("show\n"))
		wantScript(t, spaces(n-7)+"0 show\n", limited("show\n"))
		wantScript(t, "0"+spaces(n-6)+"show\n", limited("show\n"))
		wantScript(t, "0 show\n"+spaces(n-8)+"\n", limited("show\n"))
		wantScript(t, strings.Repeat("x", n-1)+"\n", limited("what\n"))
		wantScript(t, "0 add "+strings.Repeat("x", n-9)+" 1\n", limited("what\n"))
		wantScript(t, "0 add x "+strings.Repeat("1", n-9)+"\n", limited("what\n"))
		wantScript(t, strings.Repeat("0", n-6)+" show\n", limited("what\n"))
		wantScript(t, strings.Repeat(" 0", (n-2)/2)+spaces(n%2)+" \n", limited("what\n"))
		wantScript(t, strings.Repeat("0 show\n", 39)+spaces(n-39*7-1)+"\n", limited(strings.Repeat("show\n", 39)))
		wantScript(t, spaces(n), tooLong)
	}
}

func TestScriptWithoutLastLineFeed(t *testing.T) {
	wantScript(t, "", "")
	wantScript(t, "\n", "")
	for _, text := range []string{
		" ", "x", "0", "0 show", "0 show ", "0 show\r", "0 show\x00", "\n ", "\n0 show", "0 show\n0 show", "0 show\n ", "0 show\n\n\n0", "0 add tea 2\n0 show\n0", "\x00", "\xff",
		strings.Repeat("0 show\n", 39) + "0 show", strings.Repeat("0 show\n", 40) + "0 show", strings.Repeat("\n", 40) + " ", strings.Repeat(" ", 4000), strings.Repeat("\n", 41) + "x",
	} {
		wantScript(t, text, tooLong)
	}
}

// formsOfLines are lines of each form, which are not rejected behind linesBefore.
func formsOfLines() map[string]string {
	return map[string]string{
		"0 add oat 5": "ok", "0 add egg 5": "there", "0 set egg 5": "ok", "0 set oat 5": "none", "0 remove egg": "ok", "0 save egg": "ok", "0 save tea": "none", "0 back tea": "ok",
		"0 back egg": "none", "0 clear": "ok", "1 clear": "none", "0 undo": "ok", "1 undo": "none", "0 redo": "ok", "1 redo": "none", "0 toggle 0 1": "ok", "0 toggle 0 40": "none",
		"1 toggle 0 1": "none", "tell 0 1": "ok", "tell 1 0": "ok", "tell 0 0": "ok", "0 show": "show egg:3 tea:2*", "0 total": "total 3",
		"0 history": "history add tea 2; save tea; add egg 3; set egg 7 (undone)", "1 show": "show", "1 total": "total 0", "1 history": "history",
	}
}

var linesBefore = []string{"0 add tea 2", "0 save tea", "0 add egg 3", "0 set egg 7", "0 undo"}

func TestScriptSpaces(t *testing.T) {
	for line, want := range formsOfLines() {
		for _, spaced := range []string{
			line, " " + line, line + " ", "   " + line + "     ", strings.ReplaceAll(line, " ", "  "), " " + strings.ReplaceAll(line, " ", strings.Repeat(" ", 500)) + " ", strings.Replace(line, " ", "    ", 1),
		} {
			wantLastOutput(t, linesBefore, spaced, want)
		}
	}
	wantScript(t, " \n0 add tea 2\n\n   \n\n 0  show \n \n", "ok\nshow tea:2\n")
	wantScript(t, "0\nshow\n0 show\n", "what\nwhat\nshow\n")
	wantScript(t, "0show\n0 addtea 2\n0 add tea2\ntell 01\ntell0 1\n", strings.Repeat("what\n", 5))
}

// No other byte separates words or lines.
func TestScriptOfOtherBytes(t *testing.T) {
	separators := []string{"\u00a0", "\u0085", "\u2003", "\u2028", "\u3000", "\u2029", "\r\r", "\xc0\xa0"}
	for b := range 256 {
		if b != ' ' && b != '\n' {
			separators = append(separators, string([]byte{byte(b)}))
		}
	}
	for _, s := range separators {
		for _, line := range []string{s, "0" + s + "show", "0 show" + s, s + "0 show", "0 show " + s, s + " 0 show", "0 " + s + " show", "tell" + s + "0 1", "tell 0" + s + "1", "0 add tea" + s + "2", "0 sh" + s + "w!"} {
			wantScript(t, line+"\n0 show\n", "what\nshow\n")
		}
		want := "what\n"
		if strings.Contains("abcdefghijklmnopqrstuvwxyz0123456789", s) {
			want = "ok\n"
		}
		wantScript(t, "0 add te"+s+" 2\n", want)
		wantScript(t, "0 add "+s+" 2\n", want)
	}
	wantScript(t, "0 show\r\n0 show\n", "what\nshow\n")
	wantScript(t, "0 show\f0 show\n", "what\n")
}

func TestScriptOfTooFewAndTooManyWords(t *testing.T) {
	for line := range formsOfLines() {
		words := strings.Split(line, " ")
		for place := range words {
			wantLastOutput(t, linesBefore, strings.Join(slices.Concat(words[:place], words[place+1:]), " "), "what")
			wantLastOutput(t, linesBefore, strings.Join(words[:place], " ")+" no!", "what")
		}
		for place := range len(words) + 1 {
			for _, word := range []string{"0", "1", "x", "-", "0show"} {
				wantLastOutput(t, linesBefore, strings.Join(slices.Insert(slices.Clone(words), place, word), " "), "what")
			}
		}
		wantLastOutput(t, linesBefore, line+" "+line, "what")
		wantLastOutput(t, linesBefore, line+strings.Repeat(" 0", 1000), "what")
	}
	for _, word := range []string{"0", "1", "4", "fly", "tell", "add", "set", "remove", "save", "back", "clear", "undo", "redo", "toggle", "show", "total", "history", "ok", "what"} {
		wantScript(t, word+"\n", "what\n")
	}
}

func TestScriptOfOtherVerbs(t *testing.T) {
	for _, verb := range []string{
		"fly", "Add", "ADD", "adds", "ad", "show:", "Show", "SHOW", "shows", "undo!", "Total", "histor", "historyy", "clears", "drop", "send", "get", "copy", "tell", "Tell", "0", "3", "what", "ok", "", "*", "cmd",
	} {
		for _, rest := range []string{"", " tea", " tea 2", " 0 1", " 1", " 1 1 1"} {
			wantScript(t, "0 "+verb+rest+"\n0 show\n", "what\nshow\n")
		}
	}
	for _, verb := range []string{"Tell", "TELL", "tells", "tel", "told", "send", "show", "-tell"} {
		wantScript(t, verb+" 0 1\n", "what\n")
		wantScript(t, "0 "+verb+" 1\n", "what\n")
		wantScript(t, "0 1 "+verb+"\n", "what\n")
	}
}

// notNumbers are no decimal numbers, or have too many digits; some of them would be small if a computation overflowed.
var notNumbers = []string{
	"03", "00", "01", "001", "+1", "+0", "-0", "-01", "--1", "-", "+", "1.0", "1.", ".1", "1e0", "0x1", "0b1", "0o1", "1_0", "_1", "1,0", "one", "tea", "a", "1a", "a1", "1-", "\x001", "1\x00", "\t1", "1\r",
	"0000000001", "0000000000", "1000000000", "1000000001", "4294967296", "4294967297", "18446744073709551616", "18446744073709551617", "340282366920938463463374607431768211457",
	"\uff11", "\u0661", "\xb9", "1\xff", "/", ":", "null", "true", "'1'",
}

func TestScriptDevices(t *testing.T) {
	for dev := range 4 {
		d := strconv.Itoa(dev)
		wantDialogue(t, d+" add tea 2", "ok", d+" set tea 3", "ok", d+" save tea", "ok", d+" back tea", "ok", d+" show", "show tea:3", d+" total", "total 3", d+" remove tea", "ok",
			d+" undo", "ok", d+" redo", "ok", d+" toggle "+d+" 5", "ok", d+" clear", "ok", d+" history", "history add tea 2; set tea 3; save tea; back tea; remove tea (undone); remove tea")
	}
	for _, dev := range append([]string{"4", "5", "9", "10", "31", "-1", "-2", "-3", "-4", "999999999", "-999999999", "100000000"}, notNumbers...) {
		for _, rest := range []string{"add egg 2", "set tea 2", "remove tea", "save tea", "back tea", "clear", "undo", "redo", "toggle 0 1", "show", "total", "history"} {
			wantScript(t, "0 add tea 2\n1 add tea 2\n"+dev+" "+rest+"\n0 history\n1 history\n", "ok\nok\nwhat\nhistory add tea 2\nhistory add tea 2\n")
		}
		for _, line := range []string{"tell " + dev + " 1", "tell 0 " + dev, "tell 1 " + dev, "tell " + dev + " 0", "tell " + dev + " " + dev, "0 toggle " + dev + " 1", "1 toggle " + dev + " 1"} {
			wantScript(t, "0 add tea 2\n1 add egg 2\n"+line+"\n0 history\n1 history\n", "ok\nok\nwhat\nhistory add tea 2\nhistory add egg 2\n")
		}
	}
}

func TestScriptQuantities(t *testing.T) {
	for qty := 1; qty <= 999; qty++ {
		q := strconv.Itoa(qty)
		wantScript(t, "0 add tea "+q+"\n0 show\n1 add tea 1\n1 set tea "+q+"\n1 total\n", "ok\nshow tea:"+q+"\nok\nok\ntotal "+q+"\n")
	}
	for _, qty := range append([]string{"0", "1000", "1001", "9999", "10000", "999999999", "100000000", "-1", "-2", "-999", "-999999999", "007", "0999", "0000000999", "18446744073709551621"}, notNumbers...) {
		wantScript(t, "0 add tea "+qty+"\n0 show\n1 add tea 1\n1 set tea "+qty+"\n1 history\n", "what\nshow\nok\nwhat\nhistory add tea 1\n")
	}
}

func TestScriptItems(t *testing.T) {
	for _, item := range []string{"a", "z", "0", "9", "tea", "12345678", "abcdefgh", "z9z9z9z9", "007", "1000", "tell", "add", "show", "undo", "history"} {
		wantDialogue(t, "1 add "+item+" 2", "ok", "1 set "+item+" 3", "ok", "1 save "+item, "ok", "1 show", "show "+item+":3*", "1 back "+item, "ok", "1 remove "+item, "ok",
			"1 history", "history add "+item+" 2; set "+item+" 3; save "+item+"; back "+item+"; remove "+item)
	}
	for _, item := range []string{"Tea", "toolong12", "123456789", "te-a", "tea*", "tea:2", "t\xc3\xa9", "\xff", "a\x00", "a\t", "\u00a0", "-1", "+1", ".", ";", "_", "`", "{", "/", ":", "@", "[", strings.Repeat("a", 3000)} {
		for _, line := range []string{"0 add " + item + " 2", "0 set " + item + " 2", "0 remove " + item, "0 save " + item, "0 back " + item} {
			wantScript(t, line+"\n0 history\n", "what\nhistory\n")
		}
	}
}

func TestScriptToggle(t *testing.T) {
	before := []string{"0 add tea 2", "1 add egg 3", "1 save egg", "tell 1 0"}
	for dev := range 4 {
		for seq := range 45 {
			want := "none"
			switch {
			case seq == 0 || seq > 40:
				want = "what"
			case dev == 0 && seq == 1, dev == 1 && seq <= 2:
				want = "ok"
			}
			wantLastOutput(t, before, fmt.Sprintf("0 toggle %d %d", dev, seq), want)
		}
	}
	for _, seq := range append([]string{"-1", "-2", "100", "999999999", "-999999999"}, notNumbers...) {
		wantLastOutput(t, before, "0 toggle 1 "+seq, "what")
		wantLastOutput(t, before, "1 toggle 1 "+seq, "what")
		wantLastOutput(t, before, "0 toggle "+seq+" 4a", "what")
	}
	wantDialogue(t, append(okDialogue(before),
		"0 toggle 1 1", "ok", "0 show", "show tea:2", "1 show", "show egg:3*", "0 toggle 1 2", "ok", "0 history", "history add tea 2; add egg 3 (undone); save egg (undone)",
		"0 toggle 1 1", "ok", "0 show", "show egg:3 tea:2", "tell 0 1", "ok", "1 show", "show egg:3 tea:2", "1 redo", "ok", "1 show", "show egg:3* tea:2", "1 toggle 0 1", "ok", "1 show", "show egg:3*",
		"1 toggle 0 2", "none", "2 toggle 0 1", "none", "1 toggle 3 1", "none")...)
}

// Lines of all words of a short list, in each order, behind one another.
func TestScriptOfAllShortLines(t *testing.T) {
	words := []string{"0", "1", "2", "4", "01", "tell", "add", "remove", "save", "undo", "clear", "toggle", "show", "history", "tea", "Tea"}
	var lines []string
	previous := []string{""}
	for range 4 {
		var next []string
		for _, line := range previous {
			for _, word := range words {
				next = append(next, strings.TrimPrefix(line+" "+word, " "))
			}
		}
		lines = append(lines, next...)
		previous = next
	}
	for part := range slices.Chunk(lines, 33) {
		wantAsModel(t, append([]string{"0 add tea 2", "0 add 1 1", "1 add 2 8", "2 add tea 3", "1 save 2", "tell 0 1", "2 undo"}, part...)...)
		if t.Failed() {
			return
		}
	}
}

func TestRandomScripts(t *testing.T) {
	d := dice{state: 140}
	counts := map[string]int{}
	for range 3000 {
		lines := d.script(int(d.roll(41)))
		wantAsModel(t, lines...)
		for _, output := range modelOutputs(t, lines) {
			word, _, _ := strings.Cut(strings.TrimSuffix(output, "\n"), " ")
			counts[word]++
		}
		if t.Failed() {
			return
		}
	}
	for _, word := range []string{"", "ok", "none", "there", "what", "show", "total", "history"} {
		if counts[word] < 400 {
			t.Errorf("the output %q came %d times: %v", word, counts[word], counts)
		}
	}
}

// With a new item in each line and all of them removed at once, devices become full.
func TestRandomScriptsOfFullDevices(t *testing.T) {
	d := dice{state: 141}
	full := 0
	for range 300 {
		lines := append(addLines(1, 14+int(d.roll(8))), "1 clear")
		for len(lines) < 40 {
			lines = append(lines, strings.Replace(d.line(), "0", "1", 1))
		}
		wantAsModel(t, lines...)
		full += strings.Count(strings.Join(modelOutputs(t, lines), ""), "full\n")
	}
	if full < 100 {
		t.Errorf("the output \"full\" came %d times", full)
	}
}

func TestScriptIsContinued(t *testing.T) {
	d := dice{state: 142}
	for range 300 {
		lines := d.script(41)
		outputs := modelOutputs(t, lines)
		whole := impl.RunScript(scriptOf(lines[:40]...))
		for count := range 41 {
			output := impl.RunScript(scriptOf(lines[:count]...))
			if !strings.HasPrefix(whole, output) || output != strings.Join(outputs[:count], "") {
				t.Fatalf("the output of %q is %q; that of the first %d lines is %q", lines[:40], whole, count, output)
			}
		}
		wantScript(t, scriptOf(lines...), tooLong)
		// The lines before are not run either, and what is left out at the end is not.
		wantScript(t, strings.TrimSuffix(scriptOf(append(lines[:39:39], "0 show")...), "\n"), tooLong)
	}
}

func TestScriptQueriesChangeNothing(t *testing.T) {
	d := dice{state: 143}
	queries := []string{"show", "total", "history"}
	for range 600 {
		lines := d.script(1 + int(d.roll(13)))
		var asked []string
		for _, line := range lines {
			asked = append(asked, line)
			for range d.roll(3) {
				asked = append(asked, fmt.Sprintf("%d %s", d.roll(4), queries[d.roll(3)]))
			}
		}
		var outputs []string
		next := 0
		for i, output := range modelOutputs(t, asked) {
			if next < len(lines) && asked[i] == lines[next] {
				outputs = append(outputs, output)
				next++
			}
		}
		wantScript(t, scriptOf(lines...), strings.Join(outputs, ""))
		wantAsModel(t, asked...)
		if t.Failed() {
			return
		}
	}
	for _, query := range queries {
		line := "2 " + query
		ask := func(lines ...string) []string {
			var asked []string
			for _, l := range lines {
				asked = append(asked, l, line, line)
			}
			return asked
		}
		lines := []string{"2 add tea 2", "2 set tea 5", "2 save tea", "2 add egg 1", "2 undo", "2 toggle 2 2", "tell 2 1", "1 show", "1 history", "2 redo", "2 total"}
		wantAsModel(t, ask(lines...)...)
		want := modelOutputs(t, lines)
		for i, output := range strings.SplitAfter(impl.RunScript(scriptOf(ask(lines...)...)), "\n") {
			if i%3 == 0 && i/3 < len(want) && output != want[i/3] {
				t.Errorf("with %q in between, the output of %q is %q; without it, %q", line, lines[i/3], output, want[i/3])
			}
		}
	}
}

// Equal texts, in other memory and at the same time too, have equal outputs, which are no part of the text.
func TestScriptArgumentsAreKept(t *testing.T) {
	d := dice{state: 144}
	texts := []string{"", "\n", "too long\n", "what\n", "ok", "0 show", strings.Repeat("\n", 41)}
	for range 100 {
		texts = append(texts, scriptOf(d.script(int(d.roll(42)))...))
	}
	var group sync.WaitGroup
	for _, text := range texts {
		kept := strings.Clone(text)
		first := impl.RunScript(text)
		wantApart(t, "RunScript", []place{placeOfText(first)}, []place{placeOfText(text)})
		wantScript(t, strings.Clone(text), strings.Clone(first))
		wantScript(t, (text + "0 show\n")[:len(text)], first)
		for range 4 {
			group.Go(func() { wantScript(t, text, first) })
		}
		if text != kept {
			t.Errorf("the text is now %q; it was %q", text, kept)
		}
	}
	group.Wait()
}
