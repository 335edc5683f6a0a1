package tests

import (
	"go/ast"
	"go/parser"
	"go/token"
	"testing"
)

// fileOf answers a file of the program.
func fileOf(t *testing.T, file string) *ast.File {
	t.Helper()
	f, err := parser.ParseFile(token.NewFileSet(), "../impl/"+file, nil, parser.SkipObjectResolution)
	if err != nil {
		t.Fatal(err)
	}
	return f
}

// funcsOf answers the functions of a file of the program, by their names.
func funcsOf(t *testing.T, file string) map[string]*ast.FuncDecl {
	t.Helper()
	f := fileOf(t, file)
	out := map[string]*ast.FuncDecl{}
	for _, d := range f.Decls {
		if x, ok := d.(*ast.FuncDecl); ok {
			out[x.Name.Name] = x
		}
	}
	return out
}

func isVariadic(f *ast.FuncDecl) bool {
	for _, p := range f.Type.Params.List {
		if _, ok := p.Type.(*ast.Ellipsis); ok {
			return true
		}
	}
	return false
}

func TestWordsArePutByVariadicFunctions(t *testing.T) {
	funcs := funcsOf(t, "l01_word.go")
	for _, name := range []string{"PutW", "PutText"} {
		if funcs[name] == nil {
			t.Fatal("there is no", name)
		}
		calls := 0
		ast.Inspect(funcs[name], func(n ast.Node) bool {
			if c, ok := n.(*ast.CallExpr); ok {
				if id, ok := c.Fun.(*ast.Ident); ok && funcs[id.Name] != nil && isVariadic(funcs[id.Name]) {
					calls++
				}
			}
			return true
		})
		if calls == 0 {
			t.Error(name, "calls no variadic function")
		}
	}
}

// paramType answers the plain type of a function's parameter; nothing when it
// has none of that name.
func paramType(f *ast.FuncDecl, name string) string {
	for _, p := range f.Type.Params.List {
		for _, id := range p.Names {
			if t, ok := p.Type.(*ast.Ident); ok && id.Name == name {
				return t.Name
			}
		}
	}
	return ""
}

func TestSignsAreReadByARangeOverTheText(t *testing.T) {
	f := funcsOf(t, "l02_uni.go")["Signs"]
	if f == nil {
		t.Fatal("there is no Signs")
	}
	found := false
	ast.Inspect(f, func(n ast.Node) bool {
		if r, ok := n.(*ast.RangeStmt); ok {
			if id, ok := r.X.(*ast.Ident); ok && paramType(f, id.Name) == "string" {
				found = true
			}
		}
		return true
	})
	if !found {
		t.Error("Signs has no range over its text")
	}
}

// arraysOf answers the names of the tables of a file that are arrays.
func arraysOf(t *testing.T, file string) map[string]bool {
	t.Helper()
	f := fileOf(t, file)
	out := map[string]bool{}
	ast.Inspect(f, func(n ast.Node) bool {
		v, ok := n.(*ast.ValueSpec)
		if !ok || len(v.Names) != 1 || len(v.Values) != 1 {
			return true
		}
		if lit, ok := v.Values[0].(*ast.CompositeLit); ok {
			if a, ok := lit.Type.(*ast.ArrayType); ok && a.Len != nil {
				out[v.Names[0].Name] = true
			}
		}
		return true
	})
	return out
}

// reaches says whether a function, or one that it calls, has a part that is as
// asked.
func reaches(funcs map[string]*ast.FuncDecl, name string, asked func(n ast.Node) bool) bool {
	seen := map[string]bool{}
	var walk func(name string) bool
	walk = func(name string) bool {
		if funcs[name] == nil || seen[name] {
			return false
		}
		seen[name] = true
		found := false
		ast.Inspect(funcs[name], func(n ast.Node) bool {
			if asked(n) {
				found = true
			}
			if c, ok := n.(*ast.CallExpr); ok && walk(calledName(c)) {
				found = true
			}
			return true
		})
		return found
	}
	return walk(name)
}

// calledName answers the name of the function or method that is called; nothing
// when it has none.
func calledName(c *ast.CallExpr) string {
	switch x := c.Fun.(type) {
	case *ast.Ident:
		return x.Name
	case *ast.SelectorExpr:
		return x.Sel.Name
	}
	return ""
}

// readsArray says whether a function, or one that it calls, reads one of the
// arrays by an index.
func readsArray(funcs map[string]*ast.FuncDecl, arrays map[string]bool, name string) bool {
	return reaches(funcs, name, func(n ast.Node) bool {
		x, ok := n.(*ast.IndexExpr)
		if !ok {
			return false
		}
		id, ok := x.X.(*ast.Ident)
		return ok && arrays[id.Name]
	})
}

func TestWhatAByteStandsForIsAnArray(t *testing.T) {
	file := "l03_set.go"
	for _, name := range []string{"ByteSign", "SignByte"} {
		if !readsArray(funcsOf(t, file), arraysOf(t, file), name) {
			t.Error(name, "reads no array")
		}
	}
}

func TestWhatIsReadFallsThroughToTwoBytes(t *testing.T) {
	f := funcsOf(t, "l04_euc.go")["EucSign"]
	if f == nil {
		t.Fatal("there is no EucSign")
	}
	found := false
	ast.Inspect(f, func(n ast.Node) bool {
		if b, ok := n.(*ast.BranchStmt); ok && b.Tok == token.FALLTHROUGH {
			found = true
		}
		return true
	})
	if !found {
		t.Error("EucSign has no fallthrough")
	}
}

// marksOf answers, of a file, the interfaces with methods and the types that
// have methods, by their names.
func marksOf(t *testing.T, file string) (faces map[string]bool, kinds map[string]bool) {
	t.Helper()
	f := fileOf(t, file)
	faces, kinds = map[string]bool{}, map[string]bool{}
	ast.Inspect(f, func(n ast.Node) bool {
		switch x := n.(type) {
		case *ast.TypeSpec:
			if i, ok := x.Type.(*ast.InterfaceType); ok && len(i.Methods.List) > 0 {
				faces[x.Name.Name] = true
			}
		case *ast.FuncDecl:
			if x.Recv != nil {
				if id, ok := x.Recv.List[0].Type.(*ast.Ident); ok {
					kinds[id.Name] = true
				}
			}
		}
		return true
	})
	return faces, kinds
}

// kindsTold answers how many of these kinds the type switches of a function, and
// of those that it calls, tell.
func kindsTold(funcs map[string]*ast.FuncDecl, kinds map[string]bool, name string, seen map[string]bool) int {
	if funcs[name] == nil || seen[name] {
		return 0
	}
	seen[name] = true
	told := 0
	ast.Inspect(funcs[name], func(n ast.Node) bool {
		switch x := n.(type) {
		case *ast.TypeSwitchStmt:
			for _, c := range x.Body.List {
				for _, e := range c.(*ast.CaseClause).List {
					if id, ok := e.(*ast.Ident); ok && kinds[id.Name] {
						told++
					}
				}
			}
		case *ast.CallExpr:
			if id, ok := x.Fun.(*ast.Ident); ok {
				told += kindsTold(funcs, kinds, id.Name, seen)
			}
		}
		return true
	})
	return told
}

func TestKindsOfSetsAreToldByATypeSwitch(t *testing.T) {
	file := "l05_code.go"
	faces, kinds := marksOf(t, file)
	if len(faces) == 0 || len(kinds) < 3 {
		t.Fatalf("%d interfaces, and types of %d kinds", len(faces), len(kinds))
	}
	for _, name := range []string{"Decode", "Encode", "DecodeLossy", "EncodeLossy", "Fits"} {
		if told := kindsTold(funcsOf(t, file), kinds, name, map[string]bool{}); told < len(kinds) {
			t.Errorf("%s tells %d of %d kinds", name, told, len(kinds))
		}
	}
}

// heldBy answers how many of the names of a function's lists of bytes its
// function literals write.
func heldBy(f *ast.FuncDecl) int {
	held := 0
	ast.Inspect(f, func(n ast.Node) bool {
		lit, ok := n.(*ast.FuncLit)
		if !ok {
			return true
		}
		ast.Inspect(lit.Body, func(n ast.Node) bool {
			if a, ok := n.(*ast.AssignStmt); ok && a.Tok == token.ASSIGN {
				for _, e := range a.Lhs {
					if id, ok := e.(*ast.Ident); ok && isByteList(f, id.Name) {
						held++
					}
				}
			}
			return true
		})
		return false
	})
	return held
}

// isByteList says whether a function has a parameter of that name that is a
// list of bytes.
func isByteList(f *ast.FuncDecl, name string) bool {
	for _, p := range f.Type.Params.List {
		a, ok := p.Type.(*ast.ArrayType)
		if !ok || a.Len != nil {
			continue
		}
		for _, id := range p.Names {
			if elt, ok := a.Elt.(*ast.Ident); ok && elt.Name == "byte" && id.Name == name {
				return true
			}
		}
	}
	return false
}

func TestWhatIsReadOfAPartIsAClosure(t *testing.T) {
	funcs := funcsOf(t, "l06_stream.go")
	if funcs["Feed"] == nil {
		t.Fatal("there is no Feed")
	}
	held := 0
	ast.Inspect(funcs["Feed"], func(n ast.Node) bool {
		if c, ok := n.(*ast.CallExpr); ok {
			if id, ok := c.Fun.(*ast.Ident); ok && funcs[id.Name] != nil {
				held += heldBy(funcs[id.Name])
			}
		}
		return true
	})
	if held == 0 {
		t.Error("Feed calls nothing that makes a closure which holds what was begun")
	}
}

// handsOut says whether a function is an iterator: its one parameter is a
// function that it calls.
func handsOut(f *ast.FuncDecl) bool {
	if f == nil || f.Type.Params.NumFields() != 1 || len(f.Type.Params.List[0].Names) != 1 {
		return false
	}
	p := f.Type.Params.List[0]
	if _, ok := p.Type.(*ast.FuncType); !ok {
		return false
	}
	called := false
	ast.Inspect(f.Body, func(n ast.Node) bool {
		if c, ok := n.(*ast.CallExpr); ok {
			if id, ok := c.Fun.(*ast.Ident); ok && id.Name == p.Names[0].Name {
				called = true
			}
		}
		return true
	})
	return called
}

// rangesOverIterator says whether a function, or one that it calls, ranges over
// an iterator.
func rangesOverIterator(funcs map[string]*ast.FuncDecl, name string) bool {
	return reaches(funcs, name, func(n ast.Node) bool {
		x, ok := n.(*ast.RangeStmt)
		if !ok {
			return false
		}
		id, ok := x.X.(*ast.Ident)
		return ok && handsOut(funcs[id.Name])
	})
}

func TestSetsComeOutOfAnIterator(t *testing.T) {
	if !rangesOverIterator(funcsOf(t, "l07_detect.go"), "Detect") {
		t.Error("Detect ranges over no iterator")
	}
}

// genericsOf answers the names of the generic types of a file.
func genericsOf(t *testing.T, file string) map[string]bool {
	t.Helper()
	f := fileOf(t, file)
	out := map[string]bool{}
	ast.Inspect(f, func(n ast.Node) bool {
		if x, ok := n.(*ast.TypeSpec); ok && x.TypeParams != nil {
			out[x.Name.Name] = true
		}
		return true
	})
	return out
}

// answersGeneric says whether a function calls one that answers a value of one
// of these types.
func answersGeneric(funcs map[string]*ast.FuncDecl, generics map[string]bool, name string) bool {
	if funcs[name] == nil {
		return false
	}
	found := false
	ast.Inspect(funcs[name], func(n ast.Node) bool {
		c, ok := n.(*ast.CallExpr)
		if !ok {
			return true
		}
		id, ok := c.Fun.(*ast.Ident)
		if !ok || funcs[id.Name] == nil || funcs[id.Name].Type.Results == nil {
			return true
		}
		for _, r := range funcs[id.Name].Type.Results.List {
			if x, ok := r.Type.(*ast.IndexExpr); ok {
				if kind, ok := x.X.(*ast.Ident); ok && generics[kind.Name] {
					found = true
				}
			}
		}
		return true
	})
	return found
}

func TestWhatACellSaysIsHeldInAGenericType(t *testing.T) {
	file := "l08_cell.go"
	for _, name := range []string{"CellText", "Turn", "SameText"} {
		if !answersGeneric(funcsOf(t, file), genericsOf(t, file), name) {
			t.Error(name, "asks for nothing that a generic type holds")
		}
	}
}

// structsOf answers the names of the structs of a file.
func structsOf(t *testing.T, file string) map[string]bool {
	t.Helper()
	f := fileOf(t, file)
	out := map[string]bool{}
	ast.Inspect(f, func(n ast.Node) bool {
		if x, ok := n.(*ast.TypeSpec); ok {
			if _, ok := x.Type.(*ast.StructType); ok {
				out[x.Name.Name] = true
			}
		}
		return true
	})
	return out
}

// isStruct says whether a value is written as one of these structs, or is what a
// function answers that answers one.
func isStruct(funcs map[string]*ast.FuncDecl, structs map[string]bool, e ast.Expr) bool {
	switch x := e.(type) {
	case *ast.CompositeLit:
		id, ok := x.Type.(*ast.Ident)
		return ok && structs[id.Name]
	case *ast.CallExpr:
		id, ok := x.Fun.(*ast.Ident)
		if !ok || funcs[id.Name] == nil || funcs[id.Name].Type.Results.NumFields() != 1 {
			return false
		}
		kind, ok := funcs[id.Name].Type.Results.List[0].Type.(*ast.Ident)
		return ok && structs[kind.Name]
	}
	return false
}

// comparesStructs says whether a function, or one that it calls, compares values
// of these structs.
func comparesStructs(funcs map[string]*ast.FuncDecl, structs map[string]bool, name string) bool {
	return reaches(funcs, name, func(n ast.Node) bool {
		x, ok := n.(*ast.BinaryExpr)
		return ok && (x.Op == token.EQL || x.Op == token.NEQ) && isStruct(funcs, structs, x.X) && isStruct(funcs, structs, x.Y)
	})
}

func TestCellsAreComparedAsStructs(t *testing.T) {
	file := "l09_row.go"
	for _, name := range []string{"RowOk", "FillRow", "CutRow", "BackRow"} {
		if !comparesStructs(funcsOf(t, file), structsOf(t, file), name) {
			t.Error(name, "compares no structs")
		}
	}
}

// answersMap says whether a function answers a map whose keys are numbers.
func answersMap(f *ast.FuncDecl) bool {
	if f == nil || f.Type.Results == nil {
		return false
	}
	for _, r := range f.Type.Results.List {
		if m, ok := r.Type.(*ast.MapType); ok {
			key, ok := m.Key.(*ast.Ident)
			return ok && key.Name == "int"
		}
	}
	return false
}

// callsOne says whether a part is a call of a function whose name is as asked.
func callsOne(n ast.Node, asked func(name string) bool) bool {
	c, ok := n.(*ast.CallExpr)
	if !ok {
		return false
	}
	id, ok := c.Fun.(*ast.Ident)
	return ok && asked(id.Name)
}

func TestWhatIsInTheCacheStandsInAMapAndIsDeletedWhenItIsFlushed(t *testing.T) {
	funcs := funcsOf(t, "l10_dev.go")
	for _, name := range []string{"ReadSec", "FlushDev", "FallDev"} {
		if !reaches(funcs, name, func(n ast.Node) bool {
			return callsOne(n, func(name string) bool { return answersMap(funcs[name]) })
		}) {
			t.Error(name, "asks for no map")
		}
	}
	for _, name := range []string{"FlushDev", "FallDev"} {
		if !reaches(funcs, name, func(n ast.Node) bool {
			return callsOne(n, func(name string) bool { return name == "delete" })
		}) {
			t.Error(name, "deletes nothing")
		}
	}
}

// recovers says whether a function itself defers a function literal that calls
// recover.
func recovers(f *ast.FuncDecl) bool {
	found := false
	for _, s := range f.Body.List {
		d, ok := s.(*ast.DeferStmt)
		if !ok {
			continue
		}
		lit, ok := d.Call.Fun.(*ast.FuncLit)
		if !ok {
			continue
		}
		ast.Inspect(lit.Body, func(n ast.Node) bool {
			if n != nil && callsOne(n, func(name string) bool { return name == "recover" }) {
				found = true
			}
			return true
		})
	}
	return found
}

func TestWhatCannotBeReadGivesUpByAPanicThatTheFaceCatches(t *testing.T) {
	funcs := funcsOf(t, "l11_rec.go")
	for _, name := range []string{"GetRow", "GetRec"} {
		if funcs[name] == nil {
			t.Fatal("there is no", name)
		}
		if !recovers(funcs[name]) {
			t.Error(name, "recovers nothing")
		}
		if !reaches(funcs, name, func(n ast.Node) bool {
			return callsOne(n, func(name string) bool { return name == "panic" })
		}) {
			t.Error(name, "never panics")
		}
	}
}

// answersRows says whether a function answers a list of rows.
func answersRows(f *ast.FuncDecl) bool {
	if f == nil || f.Type.Results == nil {
		return false
	}
	for _, r := range f.Type.Results.List {
		if a, ok := r.Type.(*ast.ArrayType); ok && a.Len == nil {
			elt, ok := a.Elt.(*ast.Ident)
			return ok && elt.Name == "Row"
		}
	}
	return false
}

func TestRowsAreCopiedByCopy(t *testing.T) {
	funcs := funcsOf(t, "l12_tab.go")
	copies := func(f *ast.FuncDecl) bool {
		found := false
		ast.Inspect(f, func(n ast.Node) bool {
			found = found || callsOne(n, func(name string) bool { return name == "copy" })
			return true
		})
		return found
	}
	for _, name := range []string{"Apply", "RecsOf"} {
		if !reaches(funcs, name, func(n ast.Node) bool {
			return callsOne(n, func(name string) bool { return answersRows(funcs[name]) && copies(funcs[name]) })
		}) {
			t.Error(name, "copies no rows")
		}
	}
}

func TestRecordsAreReadByGotoOneBehindTheOther(t *testing.T) {
	funcs := funcsOf(t, "l13_store.go")
	for _, name := range []string{"Replay", "Open"} {
		if !reaches(funcs, name, func(n ast.Node) bool {
			b, ok := n.(*ast.BranchStmt)
			return ok && b.Tok == token.GOTO
		}) {
			t.Error(name, "reads nothing by goto")
		}
	}
}

// constsWith answers the group of constants in which one stands, and its place
// there.
func constsWith(t *testing.T, file string, name string) ([]ast.Spec, int) {
	t.Helper()
	for _, d := range fileOf(t, file).Decls {
		g, ok := d.(*ast.GenDecl)
		if !ok || g.Tok != token.CONST {
			continue
		}
		for i, s := range g.Specs {
			if s.(*ast.ValueSpec).Names[0].Name == name {
				return g.Specs, i
			}
		}
	}
	t.Fatal("there is no constant", name)
	return nil, 0
}

func TestPhasesAreConstantsWithIota(t *testing.T) {
	names := []string{"PhIdle", "PhDual", "PhFill", "PhCheck", "PhCut", "PhDone", "PhBack", "PhOver"}
	group, first := constsWith(t, "l09_row.go", names[0])
	values := group[first].(*ast.ValueSpec).Values
	if len(values) != 1 {
		t.Fatal("PhIdle has no value of its own")
	}
	if x, ok := values[0].(*ast.Ident); !ok || x.Name != "iota" {
		t.Error("PhIdle is not iota")
	}
	for i, name := range names {
		if first+i >= len(group) {
			t.Fatal(name, "does not stand behind the phases ahead of it")
		}
		s := group[first+i].(*ast.ValueSpec)
		if len(s.Names) != 1 || s.Names[0].Name != name || i > 0 && len(s.Values) != 0 {
			t.Error(name, "does not go on from the phase ahead of it")
		}
	}
}

// errorsOf answers the types of a file that are errors, by their names.
func errorsOf(t *testing.T, file string) map[string]bool {
	t.Helper()
	out := map[string]bool{}
	for _, d := range fileOf(t, file).Decls {
		f, ok := d.(*ast.FuncDecl)
		if !ok || f.Recv == nil || f.Name.Name != "Error" || f.Type.Params.NumFields() != 0 {
			continue
		}
		kind := f.Recv.List[0].Type
		if p, ok := kind.(*ast.StarExpr); ok {
			kind = p.X
		}
		if id, ok := kind.(*ast.Ident); ok {
			out[id.Name] = true
		}
	}
	return out
}

// asksByAs says whether a function asks by errors.As for one of these types, in a
// variable of its own.
func asksByAs(f *ast.FuncDecl, kinds map[string]bool) bool {
	if f == nil {
		return false
	}
	held := map[string]bool{}
	asked := false
	ast.Inspect(f, func(n ast.Node) bool {
		switch x := n.(type) {
		case *ast.ValueSpec:
			if id, ok := x.Type.(*ast.Ident); ok && kinds[id.Name] {
				held[x.Names[0].Name] = true
			}
		case *ast.CallExpr:
			asked = asked || callsAs(x, held)
		}
		return true
	})
	return asked
}

// callsAs says whether a call is of errors.As, for one of these variables.
func callsAs(c *ast.CallExpr, held map[string]bool) bool {
	of, ok := c.Fun.(*ast.SelectorExpr)
	if !ok || of.Sel.Name != "As" || len(c.Args) != 2 {
		return false
	}
	if id, ok := of.X.(*ast.Ident); !ok || id.Name != "errors" {
		return false
	}
	at, ok := c.Args[1].(*ast.UnaryExpr)
	if !ok || at.Op != token.AND {
		return false
	}
	id, ok := at.X.(*ast.Ident)
	return ok && held[id.Name]
}

func TestWhatIsRefusedIsAnErrorOfItsOwnAskedForByAs(t *testing.T) {
	funcs, kinds := funcsOf(t, "l15_node.go"), errorsOf(t, "l15_node.go")
	for _, name := range []string{"NodeLoad", "NodeGet", "NodePut", "NodeDel"} {
		if !reaches(funcs, name, func(n ast.Node) bool {
			return callsOne(n, func(name string) bool { return asksByAs(funcs[name], kinds) })
		}) {
			t.Error(name, "asks for no error of a type of its own by errors.As")
		}
	}
}
