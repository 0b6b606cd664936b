package tests

import (
	"bytes"
	"go/ast"
	"go/format"
	"go/parser"
	"go/token"
	"os"
	"path/filepath"
	"slices"
	"strconv"
	"strings"
	"testing"
)

const mostLines = 60

var allowedImports = []string{
	"bytes", "cmp", "container/heap", "errors", "iter", "maps", "math", "math/big", "math/bits", "slices", "sort", "strconv", "strings",
	"sync", "sync/atomic", "unicode", "unicode/utf8",
}

// TestLanguage holds the files of the program against those rules of their
// language that can be told from a file alone.
func TestLanguage(t *testing.T) {
	files, err := filepath.Glob("../impl/*")
	if err != nil || len(files) == 0 {
		t.Fatalf("no files of the program: %v", err)
	}
	for _, name := range files {
		if !strings.HasSuffix(name, ".go") {
			t.Errorf("%s is no Go file", name)
			continue
		}
		source, err := os.ReadFile(name)
		if err != nil {
			t.Fatal(err)
		}
		checkLayout(t, name, source)
		checkSource(t, name, source)
	}
}

func checkLayout(t *testing.T, name string, source []byte) {
	laid, err := format.Source(source)
	if err != nil || !bytes.Equal(laid, source) {
		t.Errorf("%s is not in gofmt's layout: %v", name, err)
	}
	for _, line := range strings.Split(string(source), "\n") {
		if strings.HasPrefix(line, "//go:") || strings.HasPrefix(line, "// +build") {
			t.Errorf("%s has the line %q", name, line)
		}
	}
}

func checkSource(t *testing.T, name string, source []byte) {
	set := token.NewFileSet()
	file, err := parser.ParseFile(set, name, source, parser.SkipObjectResolution)
	if err != nil {
		t.Fatal(err)
	}
	for _, spec := range file.Imports {
		if path, _ := strconv.Unquote(spec.Path.Value); !slices.Contains(allowedImports, path) {
			t.Errorf("%s imports %s", name, path)
		}
	}
	for _, d := range file.Decls {
		f, ok := d.(*ast.FuncDecl)
		if !ok {
			continue
		}
		if lines := set.Position(f.End()).Line - set.Position(f.Pos()).Line + 1; lines > mostLines {
			t.Errorf("%s: %s has %d lines", name, f.Name.Name, lines)
		}
	}
}
