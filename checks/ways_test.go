package checks

import (
	"go/ast"
	"go/parser"
	"go/token"
	"path/filepath"
	"slices"
	"strings"
	"testing"
)

// TestWays: the built layers have the ways that the document's section 'Ways' says they lean on, as far as their text tells.
func TestWays(t *testing.T) {
	for _, c := range []struct{ layer, words string }{
		{"ring", "variadic"},
		{"octets", "panic recover defer assertion"},
		{"chksum", "variadic"},
		{"sha", "array copy"},
		{"hmac", "array"},
		{"aes", "array array-of-arrays literal-array"},
		{"cmac", "copy variadic"},
		{"kdf", "iota array"},
		{"addr", "variadic array-compared"},
		{"ipfour", "closure"},
		{"ipsix", "embedding promoted"},
		{"opts", "closure array-compared"},
		{"seg", "closure three-index"},
		{"icmp", "iota"},
		{"frag", "map delete range-function"},
		{"route", "map delete"},
		{"pmtu", "map method-value"},
		{"draw", "variadic"},
		{"mkt", "closure"},
		{"ao", "array-compared"},
	} {
		has := waysOf(t, c.layer)
		for _, w := range strings.Fields(c.words) {
			if !has[w] {
				t.Errorf("%s has no %s", c.layer, w)
			}
		}
	}
}

// waysOf are the ways that a layer's files have, tests aside; what is declared at package level alone does not count, but constants, and what types have in them, which stand nowhere else.
func waysOf(t *testing.T, layer string) map[string]bool {
	decls := declsOf(t, layer)
	inside := insideOf(decls)
	has := map[string]bool{"embedding": len(inside) > 0, "promoted": promotes(decls, inside), "method-value": handsOn(decls)}
	for _, d := range decls {
		if g, ok := d.(*ast.GenDecl); ok && g.Tok != token.CONST {
			continue
		}
		ast.Inspect(d, func(n ast.Node) bool {
			has[wayOf(n)] = true
			return true
		})
	}
	return has
}

// declsOf are what a layer's files declare, tests aside.
func declsOf(t *testing.T, layer string) []ast.Decl {
	files, err := filepath.Glob(filepath.Join("..", layer, "*.go"))
	if err != nil || len(files) == 0 {
		t.Fatal(err, "no files of "+layer)
	}
	var decls []ast.Decl
	for _, f := range files {
		if strings.HasSuffix(f, "_test.go") {
			continue
		}
		file, err := parser.ParseFile(token.NewFileSet(), f, nil, 0)
		if err != nil {
			t.Fatal(err)
		}
		decls = append(decls, file.Decls...)
	}
	return decls
}

// insideOf are, by their types' names, the names that structs have themselves, of those that have another type in them: of their fields, that type among them, and of their methods.
func insideOf(decls []ast.Decl) map[string]map[string]bool {
	inside := map[string]map[string]bool{}
	for _, d := range decls {
		ast.Inspect(d, func(n ast.Node) bool {
			if x, ok := n.(*ast.TypeSpec); ok && embeds(x.Type) {
				inside[x.Name.Name] = fieldsOf(x.Type.(*ast.StructType))
			}
			return true
		})
	}
	for _, d := range decls {
		if f, ok := d.(*ast.FuncDecl); ok && f.Recv != nil {
			if own := inside[lastName(f.Recv.List[0].Type)]; own != nil {
				own[f.Name.Name] = true
			}
		}
	}
	return inside
}

// embeds tells of a type whether it is a struct that has another type in it.
func embeds(e ast.Expr) bool {
	x, ok := e.(*ast.StructType)
	return ok && slices.ContainsFunc(x.Fields.List, func(f *ast.Field) bool { return len(f.Names) == 0 })
}

// fieldsOf are the names of a struct's fields.
func fieldsOf(x *ast.StructType) map[string]bool {
	names := map[string]bool{}
	for _, f := range x.Fields.List {
		for _, n := range f.Names {
			names[n.Name] = true
		}
		if len(f.Names) == 0 {
			names[lastName(f.Type)] = true
		}
	}
	return names
}

// lastName is the name of a type, without its package and its star.
func lastName(e ast.Expr) string {
	switch x := e.(type) {
	case *ast.StarExpr:
		return lastName(x.X)
	case *ast.SelectorExpr:
		return x.Sel.Name
	case *ast.Ident:
		return x.Name
	}
	return ""
}

// eachMethod goes through the methods that name their receivers, with these names, and those of their types.
func eachMethod(decls []ast.Decl, tell func(f *ast.FuncDecl, receiver, of string)) {
	for _, d := range decls {
		if f, ok := d.(*ast.FuncDecl); ok && f.Recv != nil && len(f.Recv.List[0].Names) > 0 {
			tell(f, f.Recv.List[0].Names[0].Name, lastName(f.Recv.List[0].Type))
		}
	}
}

// asks tells of an expression whether a method asks its receiver for something, and for what.
func asks(n ast.Node, receiver string) (*ast.SelectorExpr, bool) {
	x, ok := n.(*ast.SelectorExpr)
	if !ok {
		return nil, false
	}
	of, ok := x.X.(*ast.Ident)
	return x, ok && of.Name == receiver
}

// promotes tells whether some method asks its receiver for what its type has not itself, but only by what is in it.
func promotes(decls []ast.Decl, inside map[string]map[string]bool) bool {
	found := false
	eachMethod(decls, func(f *ast.FuncDecl, receiver, of string) {
		own := inside[of]
		ast.Inspect(f, func(n ast.Node) bool {
			x, ok := asks(n, receiver)
			found = found || ok && own != nil && !own[x.Sel.Name]
			return true
		})
	})
	return found
}

// handsOn tells whether some method asks its receiver for a method that it does not call there.
func handsOn(decls []ast.Decl) bool {
	methods := map[[2]string]bool{}
	eachMethod(decls, func(f *ast.FuncDecl, _, of string) { methods[[2]string{of, f.Name.Name}] = true })
	found := false
	eachMethod(decls, func(f *ast.FuncDecl, receiver, of string) {
		called := map[ast.Expr]bool{}
		ast.Inspect(f, func(n ast.Node) bool {
			if c, ok := n.(*ast.CallExpr); ok {
				called[ast.Unparen(c.Fun)] = true
			}
			x, ok := asks(n, receiver)
			found = found || ok && methods[[2]string{of, x.Sel.Name}] && !called[x]
			return true
		})
	})
	return found
}

// wayOf is the way that a node of a file is, or nothing.
func wayOf(n ast.Node) string {
	switch x := n.(type) {
	case *ast.Ellipsis:
		return "variadic"
	case *ast.DeferStmt:
		return "defer"
	case *ast.FuncLit:
		return "closure"
	case *ast.Ident:
		if x.Name == "iota" {
			return "iota"
		}
	case *ast.MapType:
		return "map"
	case *ast.RangeStmt:
		if isChunks(x.X) {
			return "range-function"
		}
	case *ast.TypeAssertExpr:
		if x.Type != nil {
			return "assertion"
		}
	case *ast.SliceExpr:
		if x.Slice3 {
			return "three-index"
		}
	case *ast.CompositeLit:
		if isArray(x.Type) && len(x.Elts) > 1 && allLiterals(x.Elts) {
			return "literal-array"
		}
	case *ast.ArrayType:
		switch {
		case isArray(x) && isArray(x.Elt):
			return "array-of-arrays"
		case isArray(x):
			return "array"
		}
	case *ast.BinaryExpr:
		if (x.Op == token.EQL || x.Op == token.NEQ) && (isArrayValue(x.X) || isArrayValue(x.Y)) {
			return "array-compared"
		}
	case *ast.CallExpr:
		if f, ok := x.Fun.(*ast.Ident); ok {
			return f.Name // of those that the language has: panic, recover, copy, delete
		}
	}
	return ""
}

// isChunks tells of an expression whether it is the library's function over the chunks of a list.
func isChunks(e ast.Expr) bool {
	call, ok := e.(*ast.CallExpr)
	if !ok {
		return false
	}
	of, ok := call.Fun.(*ast.SelectorExpr)
	return ok && lastName(of.X) == "slices" && of.Sel.Name == "Chunk"
}

// isArray tells of a type whether it is an array, and no slice.
func isArray(e ast.Expr) bool {
	x, ok := e.(*ast.ArrayType)
	return ok && x.Len != nil
}

// isArrayValue tells of an expression whether it is an array that is written out, or made of a slice, or the field that package api has for a MAC.
func isArrayValue(e ast.Expr) bool {
	switch x := ast.Unparen(e).(type) {
	case *ast.SelectorExpr:
		return x.Sel.Name == "MAC"
	case *ast.CompositeLit:
		return isArray(x.Type)
	case *ast.CallExpr:
		return isArray(ast.Unparen(x.Fun))
	}
	return false
}

// allLiterals tells whether all elements are written out.
func allLiterals(elements []ast.Expr) bool {
	for _, e := range elements {
		if _, ok := e.(*ast.BasicLit); !ok {
			return false
		}
	}
	return true
}
