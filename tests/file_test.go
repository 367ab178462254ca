package tests

import (
	"fmt"
	"reflect"
	"regexp"
	"slices"
	"strconv"
	"strings"

	"loop.example/g00055/impl"
)

// The limits of chapter 16 as the document writes them.
const (
	nameMost  = 39
	valueMost = 200
	itemsMost = 200
	cellsMost = 4000
	dataMost  = 20000
	mendMost  = 1000
)

// The faults of a text as the document numbers them.
const (
	faultLong = 1 + iota
	faultByte
	faultHead
	faultToken
	faultRow
	faultMany
)

const (
	nameWord  = `[A-Za-z][A-Za-z0-9_]{0,39}`
	firstName = "abcdefghijklmnopqrstuvwxyzABCDEFGHIJKLMNOPQRSTUVWXYZ"
	laterName = firstName + "0123456789_"
)

var (
	namePattern  = regexp.MustCompile(`^` + nameWord + `$`)
	headPattern  = regexp.MustCompile(`^data_` + nameWord + `$`)
	itemPattern  = regexp.MustCompile(`^_` + nameWord + `$`)
	valuePattern = regexp.MustCompile(`^[ -&(-~]{0,200}$`)
	plainPattern = regexp.MustCompile(`^[^ _'#][^ ]*$`)
	gapPattern   = regexp.MustCompile(`^(?:[ \n]|#[^\n]*)*`)
	barePattern  = regexp.MustCompile(`^[!-~]*`)
	quotePattern = regexp.MustCompile(`^'[ -&(-~]*`)
)

func fault(code, at int) impl.DataFault { return impl.DataFault{Code: int64(code), At: int64(at)} }

func single(name, value string) impl.Item {
	return impl.Item{Name: name, Values: []string{value}, Rows: -1}
}

func column(name string, values ...string) impl.Item {
	return impl.Item{Name: name, Values: values, Rows: int64(len(values))}
}

func block(name string, loops []int64, items ...impl.Item) impl.Data {
	return impl.Data{Name: name, Items: items, Loops: loops}
}

func sameItem(a, b impl.Item) bool {
	return a.Name == b.Name && a.Rows == b.Rows && slices.Equal(a.Values, b.Values)
}

func sameData(a, b impl.Data) bool {
	return a.Name == b.Name && slices.EqualFunc(a.Items, b.Items, sameItem) && slices.Equal(a.Loops, b.Loops)
}

func told(d impl.Data) string { return fmt.Sprintf("%+q", []any{d.Name, d.Items, d.Loops}) }

func isZeroData(d impl.Data) bool { return sameData(d, impl.Data{}) }

func cloneData(d impl.Data) impl.Data {
	out := impl.Data{Name: d.Name, Loops: slices.Clone(d.Loops)}
	for _, item := range d.Items {
		item.Values = slices.Clone(item.Values)
		out.Items = append(out.Items, item)
	}
	return out
}

// isDataByRule lays out for each item the number of its loop, -1 for a single
// one, as Loops tells it, and holds the items against that.
func isDataByRule(d impl.Data) bool {
	names, cells, owners := map[string]bool{}, 0, []int{}
	for _, item := range d.Items {
		names[item.Name] = true
		cells += len(item.Values)
		if item.Rows == -1 {
			owners = append(owners, -1)
		}
		if !namePattern.MatchString(item.Name) || slices.ContainsFunc(item.Values, func(v string) bool { return !valuePattern.MatchString(v) }) {
			return false
		}
	}
	for i, count := range d.Loops {
		if count < 1 || count > itemsMost || len(owners) > itemsMost {
			return false
		}
		owners = append(owners, slices.Repeat([]int{i}, int(count))...)
	}
	if !namePattern.MatchString(d.Name) || len(names) != len(d.Items) || len(names) > itemsMost || cells > cellsMost || len(owners) != len(names) {
		return false
	}
	for i, item := range d.Items {
		rows := int64(len(item.Values))
		if owners[i] == -1 && (item.Rows != -1 || rows != 1) || owners[i] >= 0 && item.Rows != rows {
			return false
		}
		if i > 0 && owners[i] >= 0 && owners[i] == owners[i-1] && item.Rows != d.Items[i-1].Rows {
			return false
		}
	}
	return true
}

func wordByRule(value string) string {
	if plainPattern.MatchString(value) && value != "loop_" && !strings.HasPrefix(value, "data_") {
		return value
	}
	return "'" + value + "'"
}

func showByRule(d impl.Data) string {
	if !isDataByRule(d) {
		return ""
	}
	var out strings.Builder
	out.WriteString("data_" + d.Name + "\n")
	items := d.Items
	for ; len(items) > 0 && items[0].Rows == -1; items = items[1:] {
		out.WriteString("_" + items[0].Name + " " + wordByRule(items[0].Values[0]) + "\n")
	}
	for _, count := range d.Loops {
		out.WriteString("loop_\n")
		for k := range count {
			out.WriteString("_" + items[k].Name + "\n")
		}
		for row := range items[0].Rows {
			for k := range count {
				out.WriteString(wordByRule(items[k].Values[row]) + []string{" ", "\n"}[(k+1)/count])
			}
		}
		items = items[count:]
	}
	return out.String()
}

// A fileWord is a whole token as it stands in the text, ' and all.
type fileWord struct {
	at, end int
	text    string
}

// wordsByRule: the whole tokens ahead of the first byte that can stand nowhere,
// and that byte's place, -1 if there is none.
func wordsByRule(s string) ([]fileWord, int) {
	words, at := []fileWord{}, 0
	for {
		at += len(gapPattern.FindString(s[at:]))
		if at == len(s) {
			return words, -1
		}
		word := barePattern.FindString(s[at:])
		if s[at] == '\'' {
			word = quotePattern.FindString(s[at:])
			if !strings.HasPrefix(s[at+len(word):], "'") {
				return words, at + len(word)
			}
			word += "'"
		}
		end := at + len(word)
		if end < len(s) && s[end] != ' ' && s[end] != '\n' {
			return words, end
		}
		words = append(words, fileWord{at, end, word})
		at = end
	}
}

func isValueWord(word string) bool {
	if word[0] == '\'' {
		return true
	}
	return word[0] != '_' && word != "loop_" && !strings.HasPrefix(word, "data_") && !strings.Contains(word, "'")
}

// A fileBook takes one word after the other, and knows what may come next.
type fileBook struct {
	awaits  string // head, any, value, name, more (of a loop's names), row
	name    string
	names   map[string]bool
	cells   int
	singles []impl.Item
	columns []impl.Item
	loops   []int64
	cut     []string // the values of the loop's row that is not whole
}

func (b *fileBook) loop() []impl.Item {
	return b.columns[len(b.columns)-int(b.loops[len(b.loops)-1]):]
}

func (b *fileBook) takeValue(word string) int {
	value := strings.Trim(word, "'")
	if len(value) > valueMost {
		return faultToken
	}
	b.cells++
	if b.cells > cellsMost {
		return faultMany
	}
	if b.awaits == "value" {
		b.singles[len(b.singles)-1].Values = []string{value}
		b.awaits = "any"
		return 0
	}
	b.awaits = "row"
	b.cut = append(b.cut, value)
	if columns := b.loop(); len(b.cut) == len(columns) {
		for i, value := range b.cut {
			columns[i].Values = append(columns[i].Values, value)
			columns[i].Rows++
		}
		b.cut = nil
	}
	return 0
}

func (b *fileBook) takeName(word string) int {
	if !itemPattern.MatchString(word) || b.names[word[1:]] {
		return faultToken
	}
	b.names[word[1:]] = true
	if len(b.names) > itemsMost {
		return faultMany
	}
	if b.awaits == "name" || b.awaits == "more" {
		b.columns = append(b.columns, impl.Item{Name: word[1:]})
		b.loops[len(b.loops)-1]++
		b.awaits = "more"
		return 0
	}
	b.singles = append(b.singles, impl.Item{Name: word[1:], Rows: -1})
	b.awaits = "value"
	return 0
}

func (b *fileBook) take(word string) int {
	isValue := isValueWord(word)
	switch {
	case b.awaits == "head":
		if !headPattern.MatchString(word) {
			return faultHead
		}
		b.name, b.awaits = word[len("data_"):], "any"
		return 0
	case isValue && (b.awaits == "value" || b.awaits == "more" || b.awaits == "row"):
		return b.takeValue(word)
	case len(b.cut) > 0:
		return faultRow
	case word[0] == '_' && b.awaits != "value":
		return b.takeName(word)
	case word == "loop_" && b.awaits != "value" && b.awaits != "name":
		b.loops, b.awaits = append(b.loops, 0), "name"
		return 0
	}
	return faultToken
}

func (b *fileBook) end() int {
	switch {
	case b.awaits == "head":
		return faultHead
	case b.awaits == "value" || b.awaits == "name":
		return faultToken
	case len(b.cut) > 0:
		return faultRow
	}
	return 0
}

func readByRule(s string) (impl.Data, impl.DataFault) {
	if len(s) > dataMost {
		return impl.Data{}, fault(faultLong, 0)
	}
	words, bad := wordsByRule(s)
	b := fileBook{awaits: "head", names: map[string]bool{}}
	for _, word := range words {
		if code := b.take(word.text); code != 0 {
			return impl.Data{}, fault(code, word.at)
		}
	}
	if bad >= 0 {
		return impl.Data{}, fault(faultByte, bad)
	}
	if code := b.end(); code != 0 {
		return impl.Data{}, fault(code, len(s))
	}
	return block(b.name, b.loops, slices.Concat(b.singles, b.columns)...), impl.DataFault{}
}

// isCutByRule: is the beginning of so many bytes cut behind a whole token?
func isCutByRule(s string, end int) bool {
	if end < len(s) && s[end] != ' ' && s[end] != '\n' {
		return false
	}
	words, bad := wordsByRule(s[:end])
	return bad < 0 && len(words) > 0 && words[len(words)-1].end == end
}

// mendByRule tries every beginning, from the longest down.
func mendByRule(s string) string {
	if len(s) > mendMost {
		return ""
	}
	for end := len(s); end > 0; end-- {
		if !isCutByRule(s, end) {
			continue
		}
		if d, f := readByRule(s[:end]); f == (impl.DataFault{}) {
			return showByRule(d)
		}
	}
	return ""
}

func (d *dice) letter(letters string) string {
	at := d.between(0, int64(len(letters)-1))
	return letters[at : at+1]
}

func (d *dice) fileName() string {
	out := d.letter(firstName)
	for range []int64{0, 0, 1, 2, 3, 7, nameMost}[d.between(0, 6)] {
		out += d.letter(laterName)
	}
	return out
}

func (d *dice) fileNames(count int) []string {
	names := []string{}
	for len(names) < count {
		name := d.fileName()
		if !slices.Contains(names, name) {
			names = append(names, name)
		}
	}
	return names
}

// oddValues look like something else, or nearly so.
func oddValues() []string {
	return []string{
		"", " ", "  ", "a b", " a", "a ", "_", "_x", "_ x", "#", "#x", "# x", "loop_", "loop_ ", "loop_ x", "data_", "data_x", "data_ x",
		"loop", "loop_1", "loop__", "Loop_", "LOOP_", "xloop_", "data", "Data_x", "xdata_", "x_data_", "a#", "a#b", "a_b", "a_", "\"", "~", "!", "\\", "0", "-1",
	}
}

func (d *dice) fileValue() string {
	switch d.between(0, 5) {
	case 0, 1:
		return d.pick(oddValues()...)
	case 2:
		return d.fileName()
	case 3:
		return strconv.FormatInt(d.between(-9999, 9999), 10)
	}
	out := []byte{}
	for range []int64{1, 3, 20, 100, valueMost}[min(d.between(0, 12), d.between(0, 4))] {
		b := byte(d.between(32, 126))
		if b == '\'' {
			b = 'q'
		}
		out = append(out, b)
	}
	return string(out)
}

// block: so many single items and loops, the loops of few items and rows.
func (d *dice) block(singles, loops int, wide, rows int64) impl.Data {
	names := d.fileNames(singles + loops*int(wide) + 1)
	take := func() string {
		name := names[0]
		names = names[1:]
		return name
	}
	out := impl.Data{Name: take()}
	if d.between(0, 3) == 0 && singles > 0 {
		out.Name = names[0]
	}
	for range singles {
		out.Items = append(out.Items, single(take(), d.fileValue()))
	}
	for range loops {
		count, high := d.between(1, wide), d.between(0, rows)
		for range count {
			item := column(take())
			for range high {
				item.Values = append(item.Values, d.fileValue())
			}
			item.Rows = high
			out.Items = append(out.Items, item)
		}
		out.Loops = append(out.Loops, count)
	}
	return out
}

func (d *dice) blocks(count int) []impl.Data {
	out := []impl.Data{}
	for range count {
		out = append(out, d.block(int(d.between(0, 5)), int(d.between(0, 3)), 4, 4))
	}
	return out
}

// fileGap: what may stand between two tokens.
func (d *dice) fileGap() string {
	out := ""
	for range []int64{1, 1, 1, 2, 4}[d.between(0, 4)] {
		out += d.pick(" ", " ", "\n", "  ", "\n\n", " \n ", " #\n", "\n# _x 'y' loop_\n", " ## it's\x00\t\r\x7f\xff\xc3\n")
	}
	return out
}

func (d *dice) word(value string) string {
	if word := wordByRule(value); d.between(0, 3) > 0 {
		return word
	}
	return "'" + value + "'"
}

// wordsOf are the tokens of a text of this data, single items and loops in any
// order; but behind a loop of no rows a single item would be one of its own.
func (d *dice) wordsOf(data impl.Data) []string {
	words, items, loops := []string{"data_" + data.Name}, data.Items, data.Loops
	first := slices.IndexFunc(items, func(item impl.Item) bool { return item.Rows >= 0 })
	if first < 0 {
		first = len(items)
	}
	singles, columns := items[:first], items[first:]
	for len(singles)+len(loops) > 0 {
		if len(loops) == 0 || len(singles) > 0 && (columns[0].Rows == 0 || d.between(0, 1) == 0) {
			words = append(words, "_"+singles[0].Name, d.word(singles[0].Values[0]))
			singles = singles[1:]
			continue
		}
		words = append(words, "loop_")
		for _, item := range columns[:loops[0]] {
			words = append(words, "_"+item.Name)
		}
		for row := range columns[0].Rows {
			for _, item := range columns[:loops[0]] {
				words = append(words, d.word(item.Values[row]))
			}
		}
		columns, loops = columns[loops[0]:], loops[1:]
	}
	return words
}

func (d *dice) joined(words []string) string {
	out := d.pick("", "", " ", "\n", "# x\xfe\n")
	for i, word := range words {
		if i > 0 {
			out += d.fileGap()
		}
		out += word
	}
	return out + d.pick("", "", "\n", " ", " # to the end", "\n#\x01")
}

// fileText: a text that is read as this data.
func (d *dice) fileText(data impl.Data) string { return d.joined(d.wordsOf(data)) }

// spoiltWords: a token taken away, put in, changed or moved.
func (d *dice) spoiltWords(words []string) []string {
	words = slices.Clone(words)
	for range d.between(1, 2) {
		at, other := int(d.between(0, int64(len(words)-1))), int(d.between(0, int64(len(words)-1)))
		more := d.pick("7", "''", "'a b'", "it's", "_x", "_9", "_", "loop_", "data_", "data_b", "'_x'", "'loop_'", strings.Repeat("v", valueMost+1), words[other])
		switch d.between(0, 3) {
		case 0:
			if len(words) > 1 {
				words = slices.Delete(words, at, at+1)
			}
		case 1:
			words = slices.Insert(words, at, more)
		case 2:
			words[at] = more
		default:
			words[at], words[other] = words[other], words[at]
		}
	}
	return words
}

// spoiltFile: a text with some bytes put in, taken away or changed.
func (d *dice) spoiltFile(s string) string {
	const letters = "  \n\n''##__ab19lo\t\x00\x1f\x7f\x80\xff"
	b := []byte(s)
	for range d.between(1, 3) {
		at := int(d.between(0, int64(len(b))))
		c := letters[d.between(0, int64(len(letters)-1))]
		switch {
		case d.between(0, 2) == 0:
			b = slices.Insert(b, at, c)
		case at == len(b):
		case d.between(0, 1) == 0:
			b[at] = c
		default:
			b = slices.Delete(b, at, at+1)
		}
	}
	return string(b)
}

// anyFile: a text that is right, or one that is spoilt in its tokens or bytes.
func (d *dice) anyFile(data impl.Data) string {
	words := d.wordsOf(data)
	switch d.between(0, 5) {
	case 0:
		return d.joined(words)
	case 1:
		s := d.joined(words)
		return s[:d.between(0, int64(len(s)))]
	case 2, 3:
		return d.spoiltFile(d.joined(words))
	}
	return d.joined(d.spoiltWords(words))
}

func handData() impl.Data {
	return block("quartz", []int64{2, 1}, single("a", "4.9 A"), single("b", "x"), column("x", "1", ""), column("y", "loop_", "z"), column("w"))
}

const handText = "data_quartz\n_a '4.9 A'\n_b x\nloop_\n_x\n_y\n1 'loop_'\n'' z\nloop_\n_w\n"

// wrongNames and wrongValues pass one rule each.
func wrongNames() []string {
	out := []string{"", "_", "_a", "9", "9a", "a b", "a-b", "a'", "a.", "a\n", "\na", " a", "a ", "é", "a\xff", "a\x00", strings.Repeat("a", nameMost+2), strings.Repeat("a", dataMost)}
	for _, b := range []byte{'0' - 1, '9' + 1, 'A' - 1, 'Z' + 1, '_' - 1, 'a' - 1, 'z' + 1} {
		out = append(out, "a"+string([]byte{b}), string([]byte{b})+"a")
	}
	return out
}

func wrongValues() []string {
	out := []string{strings.Repeat("v", valueMost+1), strings.Repeat(" ", valueMost+1), "'", "it's", "''", "'a'", "a'", "é", "\xc3"}
	for _, b := range []byte{0, 9, 10, 13, 31, 39, 127, 128, 255} {
		out = append(out, string([]byte{b}), "a"+string([]byte{b}), string([]byte{b})+"a")
	}
	return out
}

// wrongData: what is not as told, by what is wrong with it.
func wrongData() map[string]impl.Data {
	two := func(rows ...int64) impl.Data {
		d := block("d", []int64{2}, column("x", "1", "2"), column("y", "3", "4"))
		for i, n := range rows {
			d.Items[i].Rows = n
		}
		return d
	}
	return map[string]impl.Data{
		"nothing":                              {},
		"no name of the block":                 block("", nil, single("a", "1")),
		"no name of an item":                   block("d", nil, single("", "1")),
		"a single item behind a loop's":        block("d", []int64{1}, column("x", "1"), single("a", "1")),
		"a single item within a loop's":        block("d", []int64{2}, column("x", "1"), single("a", "1"), column("y", "2")),
		"a single item counted to a loop":      block("d", []int64{2}, single("a", "1"), column("y", "2")),
		"a loop of a single item":              block("d", []int64{1}, single("a", "1")),
		"unlike Rows":                          block("d", []int64{2}, column("x", "1", "2"), column("y", "3")),
		"unlike Rows, the first of none":       block("d", []int64{2}, column("x"), column("y", "3")),
		"unlike Rows, the last of three":       block("d", []int64{3}, column("x", "1"), column("y", "3"), column("z")),
		"Rows of one less than the values":     two(1, 1),
		"Rows of one more than the values":     two(3, 3),
		"Rows of one less in the first":        two(1, 2),
		"Rows of one more in the last":         two(2, 3),
		"Rows of 0 and two values":             two(0, 0),
		"Rows of -1 and two values":            two(-1, -1),
		"Rows of 1 and no value":               block("d", []int64{1}, impl.Item{Name: "x", Rows: 1}),
		"a single item with no value":          block("d", nil, impl.Item{Name: "a", Rows: -1}),
		"a single item with two values":        block("d", nil, impl.Item{Name: "a", Values: []string{"1", "2"}, Rows: -1}),
		"one loop too few":                     block("d", []int64{1}, column("x", "1"), column("y", "1")),
		"one loop too many":                    block("d", []int64{1, 1}, column("x", "1")),
		"no loop for a loop's item":            block("d", nil, column("x", "1")),
		"no loop for an item of no rows":       block("d", nil, column("x")),
		"a loop of nothing":                    block("d", []int64{1}),
		"a loop of 0":                          block("d", []int64{0}),
		"a loop of 0 ahead":                    block("d", []int64{0, 1}, column("x", "1")),
		"a loop of 0 between":                  block("d", []int64{1, 0, 1}, column("x", "1"), column("y", "1")),
		"a loop of 0 behind":                   block("d", []int64{1, 0}, column("x", "1")),
		"a loop below 0":                       block("d", []int64{2, -1}, column("x", "1")),
		"a loop of one more":                   block("d", []int64{3}, column("x", "1"), column("y", "1")),
		"a loop of one less":                   block("d", []int64{2}, column("x", "1"), column("y", "1"), column("z", "1")),
		"a name twice, both single":            block("d", nil, single("a", "1"), single("a", "2")),
		"a name twice, not side by side":       block("d", nil, single("a", "1"), single("b", "1"), single("a", "1")),
		"a name twice within a loop":           block("d", []int64{2}, column("x", "1"), column("x", "1")),
		"a name twice in two loops":            block("d", []int64{1, 1}, column("x", "1"), column("x", "2", "3")),
		"a name twice, single and in a loop":   block("d", []int64{1}, single("a", "1"), column("a", "1")),
		"a name twice, in loops of no rows":    block("d", []int64{1, 1}, column("x"), column("x")),
		"a wrong value of a single item":       block("d", nil, single("a", "it's")),
		"a wrong value, the last of a loop":    block("d", []int64{1}, column("x", "1", "2", "3\n")),
		"a wrong value in the second loop":     block("d", []int64{1, 1}, column("x", "1"), column("y", "1", "\t")),
		"a value too long in a loop":           block("d", []int64{1}, column("x", "1", strings.Repeat("v", valueMost+1))),
		"an item with nothing":                 block("d", nil, impl.Item{}),
		"an item of a loop with no name":       block("d", []int64{1}, impl.Item{}),
		"a wrong name of the block, all right": block("2d", []int64{1}, single("a", "1"), column("x", "1")),
	}
}

// dataWithRoom is the same data in memory that goes on behind each of its lists;
// guard tells whether all of it is as it was.
func dataWithRoom(d impl.Data) (impl.Data, func() bool) {
	room := []impl.Item{}
	for _, item := range d.Items {
		item.Values = slices.Concat(item.Values, []string{"behind", "it's"})[:len(item.Values)]
		room = append(room, item)
	}
	room = append(room, single("behind", "1"), single("behind", "2"))
	loops := slices.Concat(d.Loops, []int64{1, 0})
	given := impl.Data{Name: d.Name, Items: room[:len(d.Items)], Loops: loops[:len(d.Loops)]}
	whole := func() [3]any {
		values := [][]string{}
		for _, item := range room {
			values = append(values, slices.Clone(item.Values[:cap(item.Values)]))
		}
		return [3]any{slices.Clone(room), slices.Clone(loops), values}
	}
	want := whole()
	return given, func() bool { return reflect.DeepEqual(whole(), want) }
}

// spoilData writes over all that an answer's memory has, and behind its lengths.
func spoilData(d impl.Data) {
	for _, item := range d.Items {
		spoilTexts(item.Values)
	}
	items := d.Items[:cap(d.Items)]
	for i := range items {
		items[i] = impl.Item{Name: "spoilt", Rows: 7}
	}
	spoilNumbers(d.Loops)
}

func spoilTexts(list []string) {
	list = list[:cap(list)]
	for i := range list {
		list[i] = "spoilt"
	}
}

func textsOf(d impl.Data) []string {
	out := []string{d.Name}
	for _, item := range d.Items {
		out = append(append(out, item.Name), item.Values...)
	}
	return out
}

// shareNoTexts: each list is filled with a text of its own, behind its length
// too, which no other list is to have changed then.
func shareNoTexts(lists [][]string) bool {
	for i, list := range lists {
		list = list[:cap(list)]
		for k := range list {
			list[k] = "list " + strconv.Itoa(i)
		}
	}
	for i, list := range lists {
		for _, text := range list[:cap(list)] {
			if text != "list "+strconv.Itoa(i) {
				return false
			}
		}
	}
	return true
}
