package tests

import (
	"go/ast"
	"go/parser"
	"go/token"
	"testing"
)

// funcsOf answers the functions of a file of the program, by their names.
func funcsOf(t *testing.T, file string) map[string]*ast.FuncDecl {
	t.Helper()
	f, err := parser.ParseFile(token.NewFileSet(), "../impl/"+file, nil, parser.SkipObjectResolution)
	if err != nil {
		t.Fatal(err)
	}
	out := map[string]*ast.FuncDecl{}
	for _, d := range f.Decls {
		if x, ok := d.(*ast.FuncDecl); ok {
			out[x.Name.Name] = x
		}
	}
	return out
}

func isVariadic(f *ast.FuncDecl) bool {
	for _, p := range f.Type.Params.List {
		if _, ok := p.Type.(*ast.Ellipsis); ok {
			return true
		}
	}
	return false
}

func TestWordsArePutByVariadicFunctions(t *testing.T) {
	funcs := funcsOf(t, "l01_word.go")
	for _, name := range []string{"PutW", "PutText"} {
		if funcs[name] == nil {
			t.Fatal("there is no", name)
		}
		calls := 0
		ast.Inspect(funcs[name], func(n ast.Node) bool {
			if c, ok := n.(*ast.CallExpr); ok {
				if id, ok := c.Fun.(*ast.Ident); ok && funcs[id.Name] != nil && isVariadic(funcs[id.Name]) {
					calls++
				}
			}
			return true
		})
		if calls == 0 {
			t.Error(name, "calls no variadic function")
		}
	}
}
