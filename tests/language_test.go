package tests

import (
	"go/ast"
	"go/format"
	"go/parser"
	"go/token"
	"os"
	"path/filepath"
	"strings"
	"testing"

	"loop.example/g00561/impl"
)

const allowedImports = " bytes cmp container/heap errors iter maps math math/bits slices sort strconv strings sync sync/atomic unicode unicode/utf8 "

const mostLines = 60

func sources(t *testing.T) []string {
	t.Helper()
	files, err := filepath.Glob("../impl/*.go")
	if err != nil || len(files) == 0 {
		t.Fatalf("no sources: %v", err)
	}
	return files
}

func TestLayout(t *testing.T) {
	for _, name := range sources(t) {
		text, err := os.ReadFile(name)
		if err != nil {
			t.Fatal(err)
		}
		laid, err := format.Source(text)
		if err != nil {
			t.Fatal(err)
		}
		same(t, name+" is in gofmt's layout", string(laid) == string(text), true)
	}
}

func TestImportsAndLengths(t *testing.T) {
	set := token.NewFileSet()
	for _, name := range sources(t) {
		file, err := parser.ParseFile(set, name, nil, parser.ParseComments)
		if err != nil {
			t.Fatal(err)
		}
		for _, i := range file.Imports {
			path := strings.Trim(i.Path.Value, `"`)
			same(t, name+" imports "+path, strings.Contains(allowedImports, " "+path+" "), true)
		}
		for _, d := range file.Decls {
			if f, ok := d.(*ast.FuncDecl); ok {
				lines := set.Position(f.End()).Line - set.Position(f.Pos()).Line + 1
				same(t, name+": "+f.Name.Name+" is short", lines <= mostLines, true)
			}
		}
		for _, g := range file.Comments {
			for _, c := range g.List {
				same(t, name+": "+c.Text, strings.HasPrefix(c.Text, "//go:") || strings.HasPrefix(c.Text, "//line"), false)
			}
		}
	}
}

func TestConstants(t *testing.T) {
	codes := []int64{impl.OK, impl.ErrForm, impl.ErrSize, impl.ErrSyntax, impl.ErrShort, impl.ErrSum, impl.ErrNone, impl.ErrThere, impl.ErrRange, impl.ErrFull, impl.ErrState, impl.ErrType, impl.ErrOver}
	for i, c := range codes {
		same(t, "a code", c, int64(i))
	}
	same(t, "MaxBytes", impl.MaxBytes, 8000)
	same(t, "MaxList", impl.MaxList, 400)
	same(t, "MaxTime", impl.MaxTime, 1000000)
}
