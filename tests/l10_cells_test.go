package tests

import (
	"fmt"
	"math/rand"
	"slices"
	"strings"
	"testing"

	"loop.example/g00561/impl"
)

const (
	mostCells = 40
	mostCell  = 100
)

// rowWord is the document's word on the row of cells, however many and long they are.
func rowWord(cells []string) string {
	var out []string
	for _, cell := range cells {
		cell = strings.ReplaceAll(cell, `\`, `\\`)
		out = append(out, strings.ReplaceAll(cell, ";", `\;`))
	}
	return strings.Join(out, ";")
}

// cellsWord is the document's word on the cells of a text, however long it is.
func cellsWord(text string) []string {
	out := []string{""}
	for text != "" {
		size := 1
		switch {
		case strings.HasPrefix(text, `\\`), strings.HasPrefix(text, `\;`):
			out[len(out)-1] += text[1:2]
			size = 2
		case text[0] == ';':
			out = append(out, "")
		default:
			out[len(out)-1] += text[:1]
		}
		text = text[size:]
	}
	return out
}

func cellsMade(cells []string) bool {
	return len(cells) <= mostCells && !slices.ContainsFunc(cells, func(cell string) bool { return len(cell) > mostCell })
}

func sameCells(t *testing.T, what string, got, want []string) {
	t.Helper()
	if !slices.Equal(got, want) {
		t.Errorf("%s: got %s, want %s", what, shown(got), shown(want))
	}
}

// checkCells is of cells that have a row, and come back from it.
func checkCells(t *testing.T, cells []string, row string) {
	t.Helper()
	same(t, "the row of "+shown(cells), impl.CellsText(cells), row)
	sameCells(t, "the cells of "+shown(row), impl.CellsRead(row), cells)
	same(t, "the document's row of "+shown(cells), rowWord(cells), row)
	sameCells(t, "the document's cells of "+shown(row), cellsWord(row), cells)
}

func TestPromise19Rows(t *testing.T) {
	same(t, "no cells", impl.CellsText(nil), "")
	same(t, "an empty list", impl.CellsText([]string{}), "")
	for _, c := range []struct {
		row   string
		cells []string
	}{
		{"", []string{""}}, {";", []string{"", ""}}, {";;", []string{"", "", ""}}, {strings.Repeat(";", 39), make([]string, 40)},
		{"a", []string{"a"}}, {"a;b", []string{"a", "b"}}, {";a", []string{"", "a"}}, {"a;", []string{"a", ""}}, {"a;;b", []string{"a", "", "b"}}, {"ab; cd ;", []string{"ab", " cd ", ""}},
		{`\;`, []string{";"}}, {`\\`, []string{`\`}}, {`\;a`, []string{";a"}}, {`a\;`, []string{"a;"}}, {`a\;b`, []string{"a;b"}}, {`\\a`, []string{`\a`}}, {`a\\`, []string{`a\`}}, {`a\\b`, []string{`a\b`}},
		{`\;\;`, []string{";;"}}, {`\\\\`, []string{`\\`}}, {`\;\\`, []string{`;\`}}, {`\\\;`, []string{`\;`}}, {`\;\\\;`, []string{`;\;`}}, {`\\\;\\`, []string{`\;\`}}, {`a\;\\b`, []string{`a;\b`}}, {`a\\\;b`, []string{`a\;b`}},
		{`\;;`, []string{";", ""}}, {`;\;`, []string{"", ";"}}, {`\\;`, []string{`\`, ""}}, {`;\\`, []string{"", `\`}}, {`\;;\;`, []string{";", ";"}}, {`\\;\\`, []string{`\`, `\`}}, {`\;;\\`, []string{";", `\`}}, {`\\;\;`, []string{`\`, ";"}}, {`\\\\;`, []string{`\\`, ""}},
		{"\x00;\n;\r", []string{"\x00", "\n", "\r"}}, {"\xff;\xfe\x80", []string{"\xff", "\xfe\x80"}}, {"\xc3\\;\xa9", []string{"\xc3;\xa9"}}, {"\xc3;\xa9", []string{"\xc3", "\xa9"}}, {"é\\\\ß", []string{`é\ß`}}, {"\xdc;\xbb", []string{"\xdc", "\xbb"}}, {`"";,|/`, []string{`""`, ",|/"}},
	} {
		checkCells(t, c.cells, c.row)
	}
}

func TestPromise19Bytes(t *testing.T) {
	for b := range 256 {
		one := string([]byte{byte(b)})
		row := one
		if b == ';' || b == '\\' {
			row = `\` + one
		}
		checkCells(t, []string{one}, row)
		checkCells(t, []string{one, one}, row+";"+row)
		checkCells(t, []string{"a" + one, one + "b", "a" + one + one + "b"}, "a"+row+";"+row+"b;a"+row+row+"b")
		checkCells(t, []string{"", strings.Repeat(one, mostCell), ""}, ";"+strings.Repeat(row, mostCell)+";")
	}
}

func TestPromise19TextLimits(t *testing.T) {
	for _, one := range []string{"a", ";", `\`, "\xff"} {
		for _, size := range []int{0, 1, 99, 100, 101, 102, 199, 200, 300, impl.MaxBytes, impl.MaxBytes + 1} {
			cell := strings.Repeat(one, size)
			what := fmt.Sprintf("%d bytes %q", size, one)
			if size <= mostCell {
				checkCells(t, []string{cell}, rowWord([]string{cell}))
				continue
			}
			same(t, what, impl.CellsText([]string{cell}), "")
			for at := range mostCells {
				cells := slices.Repeat([]string{"b"}, mostCells)
				cells[at] = cell
				same(t, fmt.Sprintf("%s at %d of 40", what, at), impl.CellsText(cells), "")
			}
			same(t, what+", the second of two", impl.CellsText([]string{"", cell}), "")
		}
	}
	for _, one := range []string{"", "a", ";", `\`} {
		for _, count := range []int{1, 2, 39, 40, 41, 42, 100, impl.MaxList, impl.MaxList + 1, 2 * impl.MaxList} {
			cells := slices.Repeat([]string{one}, count)
			want := ""
			if count <= mostCells {
				want = rowWord(cells)
			}
			same(t, fmt.Sprintf("%d times %q", count, one), impl.CellsText(cells), want)
		}
	}
}

// TestPromise19LongRows: a row may be longer than a text that is read.
func TestPromise19LongRows(t *testing.T) {
	half := strings.Repeat(`;\`, mostCell/2)
	most := slices.Repeat([]string{half}, mostCells)
	row := strings.Repeat(strings.Repeat(`\;\\`, mostCell/2)+";", mostCells)
	row = row[:len(row)-1]
	same(t, "40 cells of 100 bytes, each with a mark", impl.CellsText(most), row)
	same(t, "how long", len(row), 8039)
	sameCells(t, "it is too long to be read", impl.CellsRead(row), nil)
	for _, c := range []struct{ plain, size int }{{38, 8001}, {39, 8000}, {40, 7999}} {
		cells := slices.Clone(most)
		cells[17] = half[:mostCell-c.plain] + strings.Repeat("a", c.plain)
		row := impl.CellsText(cells)
		same(t, "how long", len(row), c.size)
		same(t, "the row", row, rowWord(cells))
		if c.size > impl.MaxBytes {
			sameCells(t, "one byte too long", impl.CellsRead(row), nil)
		} else {
			sameCells(t, "it is read", impl.CellsRead(row), cells)
		}
	}
}

// checkLoose is of a text that is read, and is not the row of what is read of it.
func checkLoose(t *testing.T, text string, cells ...string) {
	t.Helper()
	sameCells(t, "the cells of "+shown(text), impl.CellsRead(text), cells)
	sameCells(t, "the document's cells of "+shown(text), cellsWord(text), cells)
	same(t, shown(text)+" is no row", impl.CellsText(cells) == text, false)
}

func TestPromise19ReadLoose(t *testing.T) {
	for _, c := range []struct {
		text  string
		cells []string
	}{
		{`\`, []string{`\`}}, {`a\`, []string{`a\`}}, {`;\`, []string{"", `\`}}, {`a;b\`, []string{"a", `b\`}}, {`\\\`, []string{`\\`}}, {`\;\`, []string{`;\`}}, {`\\\\\`, []string{`\\\`}},
		{`\a`, []string{`\a`}}, {`\a;b`, []string{`\a`, "b"}}, {`a\b`, []string{`a\b`}}, {`\a\b`, []string{`\a\b`}}, {`\\\a`, []string{`\\a`}}, {`\;\a`, []string{`;\a`}}, {`\n;\"`, []string{`\n`, `\"`}}, {"\\\n", []string{"\\\n"}}, {"\\\x00;", []string{"\\\x00", ""}}, {"\\\xff\\;", []string{"\\\xff;"}}, {`\:`, []string{`\:`}}, {`\[\]`, []string{`\[\]`}}, {`\ ;`, []string{`\ `, ""}},
		{`\\\a;\\\`, []string{`\\a`, `\\`}}, {`\\;\`, []string{`\`, `\`}}, {`\;;\`, []string{";", `\`}},
	} {
		checkLoose(t, c.text, c.cells...)
	}
	// One, two and three marks ahead of the end of a cell.
	sameCells(t, "one", impl.CellsRead(`\;b`), []string{";b"})
	sameCells(t, "two", impl.CellsRead(`\\;b`), []string{`\`, "b"})
	sameCells(t, "three", impl.CellsRead(`\\\;b`), []string{`\;b`})
	for b := range 256 {
		if b != ';' && b != '\\' {
			one := string([]byte{byte(b)})
			checkLoose(t, `\`+one, `\`+one)
			checkLoose(t, `\`+one+`;\\\`+one+`\`, `\`+one, `\\`+one+`\`)
		}
	}
}

// TestPromise19ReadLimits: how many cells there are, and how long, binds those alone that are put in a row.
func TestPromise19ReadLimits(t *testing.T) {
	checkLoose(t, strings.Repeat(";", 40), make([]string, 41)...)
	checkLoose(t, strings.Repeat("ab;", 41), append(slices.Repeat([]string{"ab"}, 41), "")...)
	checkLoose(t, strings.Repeat("a", 101), strings.Repeat("a", 101))
	checkLoose(t, "b;"+strings.Repeat(`\\`, 101), "b", strings.Repeat(`\`, 101))
	checkLoose(t, strings.Repeat(";", impl.MaxList), make([]string, impl.MaxList+1)...)
	checkLoose(t, strings.Repeat(";", impl.MaxBytes), make([]string, impl.MaxBytes+1)...)
	checkLoose(t, strings.Repeat("a", impl.MaxBytes), strings.Repeat("a", impl.MaxBytes))
	checkLoose(t, strings.Repeat(`\`, impl.MaxBytes), strings.Repeat(`\`, impl.MaxBytes/2))
	checkLoose(t, strings.Repeat(`\`, impl.MaxBytes-1), strings.Repeat(`\`, impl.MaxBytes/2))
	checkLoose(t, strings.Repeat("a", impl.MaxBytes-1)+`\`, strings.Repeat("a", impl.MaxBytes-1)+`\`)
	checkLoose(t, sample(impl.MaxBytes), cellsWord(sample(impl.MaxBytes))...)
	for _, one := range []string{"a", ";", `\`, "\xff", `\;`} {
		for _, size := range []int{impl.MaxBytes + 1, impl.MaxBytes + 2, 2 * impl.MaxBytes, 100000} {
			sameCells(t, fmt.Sprintf("%d bytes %q", size, one), impl.CellsRead(strings.Repeat(one, size)[:size]), nil)
		}
	}
}

// allTexts are all of up to so many of these bytes.
func allTexts(bytes string, most int) []string {
	out := []string{""}
	for from := 0; most > 0; most-- {
		to := len(out)
		for _, text := range out[from:to] {
			for at := range len(bytes) {
				out = append(out, text+bytes[at:at+1])
			}
		}
		from = to
	}
	return out
}

func TestPromise19AllShortTexts(t *testing.T) {
	rows := 0
	for _, text := range allTexts(";\\a\xff", 7) {
		want := cellsWord(text)
		sameCells(t, shown(text), impl.CellsRead(text), want)
		back := impl.CellsText(want)
		same(t, "the row of "+shown(want), back, rowWord(want))
		if back == text {
			rows++
		}
	}
	same(t, fmt.Sprintf("many are rows: %d", rows), rows > 2000, true)
}

func TestPromise19AllShortCells(t *testing.T) {
	rows := map[string]bool{}
	count := 0
	texts := allTexts(`;\a`, 3)
	for _, first := range texts {
		checkCells(t, []string{first}, rowWord([]string{first}))
		for _, second := range texts {
			for _, cells := range [][]string{{first, second}, {first, "", second}, {"", first, second, ""}} {
				row := rowWord(cells)
				checkCells(t, cells, row)
				rows[row] = true
				count++
			}
		}
	}
	same(t, "no two have one row", len(rows) > count*9/10, true)
}

// drawnCells are one at least; some are of marks alone, some of any bytes.
func drawnCells(r *rand.Rand) []string {
	cells := make([]string, 1+r.Intn(mostCells))
	longest := r.Intn(mostCell + 1)
	for i := range cells {
		cell := make([]byte, r.Intn(longest+1))
		marks := r.Intn(3)
		for at := range cell {
			cell[at] = byte(r.Intn(256))
			if r.Intn(3) < marks {
				cell[at] = `;\`[r.Intn(2)]
			}
		}
		cells[i] = string(cell)
	}
	return cells
}

func TestPromise19Drawn(t *testing.T) {
	r := rand.New(rand.NewSource(220))
	for range 5000 {
		cells := drawnCells(r)
		checkCells(t, cells, rowWord(cells))
	}
}
