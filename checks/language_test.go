package checks

import (
	"bytes"
	"go/ast"
	"go/format"
	"go/parser"
	"go/token"
	"os"
	"path/filepath"
	"slices"
	"strconv"
	"strings"
	"testing"
)

// layers are all packages that are given, each ahead of those that may call it.
const layers = "api ring octets chksum sha hmac aes cmac kdf addr ipfour ipsix opts seg icmp frag route pmtu draw mkt ao sne rto cong sack sbuf rbuf tcb sock host net script dump"

// library are the packages of the library that the program may import.
const library = "bytes cmp container/heap errors iter maps math math/bits slices sort strconv strings sync sync/atomic unicode unicode/utf8"

// longest is how many lines a function has at most.
const longest = 60

// TestLanguage: what the program's files may not have, as far as their text tells.
func TestLanguage(t *testing.T) {
	files, err := filepath.Glob("../*/*.go")
	if err != nil || len(files) == 0 {
		t.Fatal(err, "no files")
	}
	for _, f := range files {
		// The tests that are laid beside the project may use all of Go.
		if strings.HasSuffix(f, "_test.go") || strings.HasPrefix(f, filepath.Join("..", "sharedtests")) {
			continue
		}
		text, err := os.ReadFile(f)
		if err != nil {
			t.Fatal(err)
		}
		fset := token.NewFileSet()
		file, err := parser.ParseFile(fset, f, text, parser.ParseComments)
		if err != nil {
			t.Fatal(err)
		}
		if laid, err := format.Source(text); err != nil || !bytes.Equal(laid, text) {
			t.Errorf("%s: not in gofmt's layout", f)
		}
		checkImports(t, f, file)
		checkLines(t, f, fset, file)
	}
}

// checkImports: the library's packages that may be, and the project's own, of lower layers.
func checkImports(t *testing.T, name string, file *ast.File) {
	own := slices.Index(strings.Fields(layers), filepath.Base(filepath.Dir(name)))
	for _, i := range file.Imports {
		path, _ := strconv.Unquote(i.Path.Value)
		short, project := strings.CutPrefix(path, "downhaul/")
		switch called := slices.Index(strings.Fields(layers), short); {
		case !project && !slices.Contains(strings.Fields(library), path):
			t.Errorf("%s imports %s", name, path)
		case project && own >= 0 && called >= own:
			t.Errorf("%s imports %s, which is no lower layer", name, path)
		}
	}
}

// checkLines: functions are short, and no remark speaks to the compiler.
func checkLines(t *testing.T, name string, fset *token.FileSet, file *ast.File) {
	for _, group := range file.Comments {
		for _, c := range group.List {
			if strings.HasPrefix(c.Text, "//go:") {
				t.Errorf("%s: %s", name, c.Text)
			}
		}
	}
	for _, d := range file.Decls {
		f, ok := d.(*ast.FuncDecl)
		if !ok {
			continue
		}
		if lines := fset.Position(f.End()).Line - fset.Position(f.Pos()).Line + 1; lines > longest {
			t.Errorf("%s: %s has %d lines", name, f.Name.Name, lines)
		}
	}
}
