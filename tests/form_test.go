package tests

import (
	"bytes"
	"go/ast"
	"go/format"
	"go/parser"
	"go/token"
	"os"
	"path/filepath"
	"slices"
	"strings"
	"testing"
)

const allowedImports = " bytes cmp container/heap errors iter maps math math/bits slices sort strconv strings sync sync/atomic unicode unicode/utf8 "

const maxFunctionLines = 60

func programFiles(t *testing.T) []string {
	t.Helper()
	files, err := filepath.Glob("../impl/*")
	if err != nil || len(files) == 0 {
		t.Fatal("no files in impl", err)
	}
	return files
}

func parsed(t *testing.T, path string) (*token.FileSet, *ast.File) {
	t.Helper()
	fset := token.NewFileSet()
	f, err := parser.ParseFile(fset, path, nil, parser.ParseComments)
	if err != nil {
		t.Fatal(err)
	}
	return fset, f
}

func TestProgramKeepsToItsLanguage(t *testing.T) {
	for _, path := range programFiles(t) {
		if !strings.HasSuffix(path, ".go") {
			t.Errorf("%s is no Go file", path)
			continue
		}
		source, err := os.ReadFile(path)
		if err != nil {
			t.Fatal(err)
		}
		if laid, err := format.Source(source); err != nil || !bytes.Equal(laid, source) {
			t.Errorf("%s has not gofmt's layout", path)
		}
		fset, f := parsed(t, path)
		for _, i := range f.Imports {
			if !strings.Contains(allowedImports, " "+strings.Trim(i.Path.Value, "\"")+" ") {
				t.Errorf("%s imports %s", path, i.Path.Value)
			}
		}
		for _, d := range f.Decls {
			if fn, ok := d.(*ast.FuncDecl); ok && fset.Position(fn.End()).Line-fset.Position(fn.Pos()).Line >= maxFunctionLines {
				t.Errorf("%s: %s is too long", path, fn.Name.Name)
			}
		}
	}
}

func TestNumbersArePutByVariadicFunctions(t *testing.T) {
	_, f := parsed(t, "../impl/l01_bytes.go")
	variadics := 0
	ast.Inspect(f, func(n ast.Node) bool {
		if e, ok := n.(*ast.Ellipsis); ok && e.Elt != nil {
			variadics++
		}
		return true
	})
	if variadics == 0 {
		t.Error("l01_bytes.go has no variadic function")
	}
}

func TestValuesAreToldByATypeSwitch(t *testing.T) {
	_, f := parsed(t, "../impl/l02_val.go")
	interfaces, switches := 0, 0
	ast.Inspect(f, func(n ast.Node) bool {
		switch n.(type) {
		case *ast.InterfaceType:
			interfaces++
		case *ast.TypeSwitchStmt:
			switches++
		}
		return true
	})
	if interfaces == 0 || switches == 0 {
		t.Error("l02_val.go has no interface, or no type switch")
	}
}

func TestWhatCannotBeReadIsCaughtAtTheFace(t *testing.T) {
	_, f := parsed(t, "../impl/l03_rex.go")
	panics, caught := 0, 0
	ast.Inspect(f, func(n ast.Node) bool {
		if x, ok := n.(*ast.CallExpr); ok && isCallOf(x, "panic") {
			panics++
		}
		return true
	})
	for _, d := range f.Decls {
		if fn, ok := d.(*ast.FuncDecl); ok && fn.Name.Name == "ParseRex" {
			caught = deferredRecovers(fn)
		}
	}
	if panics == 0 || caught == 0 {
		t.Error("l03_rex.go has no panic, or ParseRex no deferred recover")
	}
}

func TestPlacesComeOutOfAnIterator(t *testing.T) {
	_, f := parsed(t, "../impl/l04_ends.go")
	iterators, ranges := 0, 0
	ast.Inspect(f, func(n ast.Node) bool {
		switch x := n.(type) {
		case *ast.FuncLit:
			if p := x.Type.Params.List; len(p) == 1 && len(p[0].Names) == 1 && p[0].Names[0].Name == "yield" {
				iterators++
			}
		case *ast.RangeStmt:
			if call, ok := x.X.(*ast.CallExpr); ok && !isCallOf(call, "len") {
				ranges++
			}
		}
		return true
	})
	if iterators == 0 || ranges == 0 {
		t.Error("l04_ends.go has no iterator, or no range over one")
	}
}

func TestNodesAreAnArrayReachedByPointers(t *testing.T) {
	_, f := parsed(t, "../impl/l05_nfa.go")
	arrays, pointers := 0, 0
	ast.Inspect(f, func(n ast.Node) bool {
		switch x := n.(type) {
		case *ast.ArrayType:
			if x.Len != nil && isNamed(x.Elt, "Node") {
				arrays++
			}
		case *ast.StarExpr:
			if isNamed(x.X, "Node") {
				pointers++
			}
		}
		return true
	})
	if arrays == 0 || pointers == 0 {
		t.Error("l05_nfa.go has no array of nodes, or no pointer to one")
	}
}

// What a function's argument of type string is ranged over by is its runes.
func TestTextsAreReadByARangeOverTheirRunes(t *testing.T) {
	_, f := parsed(t, "../impl/l06_text.go")
	ranges := 0
	for _, d := range f.Decls {
		fn, ok := d.(*ast.FuncDecl)
		if !ok {
			continue
		}
		texts := textArguments(fn)
		ast.Inspect(fn, func(n ast.Node) bool {
			if x, ok := n.(*ast.RangeStmt); ok && x.Value != nil && slices.ContainsFunc(texts, func(name string) bool { return isNamed(x.X, name) }) {
				ranges++
			}
			return true
		})
	}
	if ranges == 0 {
		t.Error("l06_text.go has no range over a text")
	}
}

func TestATextIsGoneThroughByGoto(t *testing.T) {
	_, f := parsed(t, "../impl/l07_token.go")
	jumps, loops := 0, 0
	for _, d := range f.Decls {
		fn, ok := d.(*ast.FuncDecl)
		if !ok || fn.Name.Name != "Lex" {
			continue
		}
		ast.Inspect(fn, func(n ast.Node) bool {
			switch x := n.(type) {
			case *ast.BranchStmt:
				if x.Tok == token.GOTO {
					jumps++
				}
			case *ast.ForStmt, *ast.RangeStmt:
				loops++
			}
			return true
		})
	}
	if jumps == 0 || loops > 0 {
		t.Errorf("Lex has %d gotos and %d loops", jumps, loops)
	}
}

func TestATermsKindsAreTypesOfTheirOwn(t *testing.T) {
	_, f := parsed(t, "../impl/l08_expr.go")
	embedding, methods := map[string]int{}, map[string]int{}
	ast.Inspect(f, func(n ast.Node) bool {
		switch x := n.(type) {
		case *ast.TypeSpec:
			if s, ok := x.Type.(*ast.StructType); ok && slices.ContainsFunc(s.Fields.List, func(f *ast.Field) bool { return len(f.Names) == 0 }) {
				embedding[x.Name.Name]++
			}
		case *ast.FuncDecl:
			if x.Recv != nil {
				if id, ok := x.Recv.List[0].Type.(*ast.Ident); ok {
					methods[id.Name]++
				}
			}
		}
		return true
	})
	kinds := 0
	for name := range embedding {
		if methods[name] >= 2 {
			kinds++
		}
	}
	if kinds < len(exprKinds()) {
		t.Errorf("l08_expr.go has only %d types with methods in which something is embedded", kinds)
	}
}

func TestAStatementsTextFallsThrough(t *testing.T) {
	_, f := parsed(t, "../impl/l09_stmt.go")
	falls := 0
	ast.Inspect(f, func(n ast.Node) bool {
		if x, ok := n.(*ast.BranchStmt); ok && x.Tok == token.FALLTHROUGH {
			falls++
		}
		return true
	})
	if falls == 0 {
		t.Error("l09_stmt.go has no fallthrough")
	}
}

func TestTreesAreHeldAgainstEachOtherByAGenericFunction(t *testing.T) {
	_, f := parsed(t, "../impl/l10_prog.go")
	calls := map[string]int{}
	for _, d := range f.Decls {
		if fn, ok := d.(*ast.FuncDecl); ok && fn.Type.TypeParams != nil && isHandedOneOfTwo(fn) {
			calls[fn.Name.Name] = 0
		}
	}
	most := 0
	ast.Inspect(f, func(n ast.Node) bool {
		if x, ok := n.(*ast.CallExpr); ok {
			for name := range calls {
				if isCallOf(x, name) {
					calls[name]++
					most = max(most, calls[name])
				}
			}
		}
		return true
	})
	if most < 2 {
		t.Error("l10_prog.go has no generic function that is handed a function value of two, for terms and for statements")
	}
}

func isHandedOneOfTwo(fn *ast.FuncDecl) bool {
	return slices.ContainsFunc(fn.Type.Params.List, func(field *ast.Field) bool {
		handed, ok := field.Type.(*ast.FuncType)
		return ok && len(handed.Params.List) == 2
	})
}

// A word stands as the key of a reader, which is a function, in a map.
func TestReadersStandInAMapByTheirWord(t *testing.T) {
	_, f := parsed(t, "../impl/l11_parse.go")
	words := map[string]int{}
	ast.Inspect(f, func(n ast.Node) bool {
		list, ok := n.(*ast.CompositeLit)
		if !ok || !isMapOfFunctions(list.Type) {
			return true
		}
		for _, e := range list.Elts {
			if entry, ok := e.(*ast.KeyValueExpr); ok {
				if key, ok := entry.Key.(*ast.BasicLit); ok {
					words[strings.Trim(key.Value, "\"")]++
				}
			}
		}
		return true
	})
	for _, word := range noNames() {
		// These two stand within what begins with another.
		if word != "else" && word != "in" && words[word] == 0 {
			t.Errorf("l11_parse.go has no reader of %q in a map", word)
		}
	}
}

func isMapOfFunctions(x ast.Expr) bool {
	m, ok := x.(*ast.MapType)
	if !ok || !isNamed(m.Key, "string") {
		return false
	}
	_, ok = m.Value.(*ast.FuncType)
	return ok
}

// What is ranged over where a name goes out of the map are a function's Params.
func TestParamsAreDeletedFromTheMapOfNames(t *testing.T) {
	_, f := parsed(t, "../impl/l12_check.go")
	maps, deleted := 0, 0
	ast.Inspect(f, func(n ast.Node) bool {
		switch x := n.(type) {
		case *ast.MapType:
			if isNamed(x.Key, "string") {
				maps++
			}
		case *ast.RangeStmt:
			if over, ok := x.X.(*ast.SelectorExpr); ok && over.Sel.Name == "Params" {
				deleted += callsWithin(x, "delete")
			}
		}
		return true
	})
	if maps == 0 || deleted == 0 {
		t.Error("l12_check.go has no map by names, or no Param is deleted from it")
	}
}

// What is cut in RecOf are the words of its line.
func TestFieldsAreCutByThreeIndexes(t *testing.T) {
	_, f := parsed(t, "../impl/l13_rec.go")
	cuts := 0
	for _, d := range f.Decls {
		fn, ok := d.(*ast.FuncDecl)
		if !ok || fn.Name.Name != "RecOf" {
			continue
		}
		ast.Inspect(fn, func(n ast.Node) bool {
			if x, ok := n.(*ast.SliceExpr); ok && x.Slice3 {
				cuts++
			}
			return true
		})
	}
	if cuts == 0 {
		t.Error("RecOf has no slice expression with three indexes")
	}
}

func callsWithin(n ast.Node, name string) int {
	count := 0
	ast.Inspect(n, func(n ast.Node) bool {
		if x, ok := n.(*ast.CallExpr); ok && isCallOf(x, name) {
			count++
		}
		return true
	})
	return count
}

func textArguments(fn *ast.FuncDecl) []string {
	var names []string
	for _, field := range fn.Type.Params.List {
		for _, name := range field.Names {
			if isNamed(field.Type, "string") {
				names = append(names, name.Name)
			}
		}
	}
	return names
}

func isCallOf(x *ast.CallExpr, name string) bool { return isNamed(x.Fun, name) }

func isNamed(x ast.Expr, name string) bool {
	id, ok := x.(*ast.Ident)
	return ok && id.Name == name
}

func deferredRecovers(fn *ast.FuncDecl) int {
	count := 0
	ast.Inspect(fn, func(n ast.Node) bool {
		if d, ok := n.(*ast.DeferStmt); ok {
			ast.Inspect(d, func(n ast.Node) bool {
				if x, ok := n.(*ast.CallExpr); ok && isCallOf(x, "recover") {
					count++
				}
				return true
			})
		}
		return true
	})
	return count
}
