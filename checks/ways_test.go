package checks

import (
	"go/ast"
	"go/parser"
	"go/token"
	"path/filepath"
	"strings"
	"testing"
)

// TestWays: the built layers have the ways that the document's section 'Ways' says they lean on, as far as their text tells.
func TestWays(t *testing.T) {
	for _, c := range []struct{ layer, words string }{
		{"ring", "variadic"},
		{"octets", "panic recover defer assertion"},
		{"chksum", "variadic"},
		{"sha", "array copy"},
		{"hmac", "array"},
		{"aes", "array array-of-arrays literal-array"},
		{"cmac", "copy variadic"},
		{"kdf", "iota array"},
		{"addr", "variadic array-compared"},
		{"ipfour", "closure"},
	} {
		has := waysOf(t, c.layer)
		for _, w := range strings.Fields(c.words) {
			if !has[w] {
				t.Errorf("%s has no %s", c.layer, w)
			}
		}
	}
}

// waysOf are the ways that a layer's files have, tests aside; what is declared at package level alone does not count, but constants, which stand nowhere else.
func waysOf(t *testing.T, layer string) map[string]bool {
	files, err := filepath.Glob(filepath.Join("..", layer, "*.go"))
	if err != nil || len(files) == 0 {
		t.Fatal(err, "no files of "+layer)
	}
	has := map[string]bool{}
	for _, f := range files {
		if strings.HasSuffix(f, "_test.go") {
			continue
		}
		file, err := parser.ParseFile(token.NewFileSet(), f, nil, 0)
		if err != nil {
			t.Fatal(err)
		}
		for _, d := range file.Decls {
			if g, ok := d.(*ast.GenDecl); ok && g.Tok != token.CONST {
				continue
			}
			ast.Inspect(d, func(n ast.Node) bool {
				has[wayOf(n)] = true
				return true
			})
		}
	}
	return has
}

// wayOf is the way that a node of a file is, or nothing.
func wayOf(n ast.Node) string {
	switch x := n.(type) {
	case *ast.Ellipsis:
		return "variadic"
	case *ast.DeferStmt:
		return "defer"
	case *ast.FuncLit:
		return "closure"
	case *ast.Ident:
		if x.Name == "iota" {
			return "iota"
		}
	case *ast.TypeAssertExpr:
		if x.Type != nil {
			return "assertion"
		}
	case *ast.CompositeLit:
		if isArray(x.Type) && len(x.Elts) > 1 && allLiterals(x.Elts) {
			return "literal-array"
		}
	case *ast.ArrayType:
		switch {
		case isArray(x) && isArray(x.Elt):
			return "array-of-arrays"
		case isArray(x):
			return "array"
		}
	case *ast.BinaryExpr:
		if (x.Op == token.EQL || x.Op == token.NEQ) && (isArrayValue(x.X) || isArrayValue(x.Y)) {
			return "array-compared"
		}
	case *ast.CallExpr:
		if f, ok := x.Fun.(*ast.Ident); ok {
			return f.Name // of those that the language has: panic, recover, copy
		}
	}
	return ""
}

// isArray tells of a type whether it is an array, and no slice.
func isArray(e ast.Expr) bool {
	x, ok := e.(*ast.ArrayType)
	return ok && x.Len != nil
}

// isArrayValue tells of an expression whether it is an array that is written out, or made of a slice.
func isArrayValue(e ast.Expr) bool {
	switch x := ast.Unparen(e).(type) {
	case *ast.CompositeLit:
		return isArray(x.Type)
	case *ast.CallExpr:
		return isArray(ast.Unparen(x.Fun))
	}
	return false
}

// allLiterals tells whether all elements are written out.
func allLiterals(elements []ast.Expr) bool {
	for _, e := range elements {
		if _, ok := e.(*ast.BasicLit); !ok {
			return false
		}
	}
	return true
}
