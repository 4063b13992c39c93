// Package rules: what the language leaves open, and the program must not lean on.
package rules

import (
	"go/ast"
	"go/importer"
	"go/parser"
	"go/token"
	"go/types"
	"maps"
	"path/filepath"
	"slices"
	"strconv"
	"strings"
	"testing"
)

const module = "bascule"

// program: the packages below a folder, with their types.
type program struct {
	root  string
	fset  *token.FileSet
	info  *types.Info
	files map[string][]*ast.File
	done  map[string]*types.Package
	std   types.Importer
}

func newProgram(root string) *program {
	p := &program{root: root, fset: token.NewFileSet(), files: map[string][]*ast.File{}, done: map[string]*types.Package{}}
	p.info = &types.Info{
		Types: map[ast.Expr]types.TypeAndValue{}, Uses: map[*ast.Ident]types.Object{},
		Defs: map[*ast.Ident]types.Object{}, Selections: map[*ast.SelectorExpr]*types.Selection{},
	}
	p.std = importer.ForCompiler(p.fset, "source", nil)
	return p
}

// Import a package, the program's own ones from their files.
func (p *program) Import(path string) (*types.Package, error) {
	if !strings.HasPrefix(path, module+"/") {
		return p.std.Import(path)
	}
	if p.done[path] != nil {
		return p.done[path], nil
	}
	names, err := filepath.Glob(filepath.Join(p.root, strings.TrimPrefix(path, module), "*.go"))
	for _, name := range names {
		if strings.HasSuffix(name, "_test.go") {
			continue
		}
		f, err := parser.ParseFile(p.fset, name, nil, 0)
		if err != nil {
			return nil, err
		}
		p.files[path] = append(p.files[path], f)
	}
	if err != nil {
		return nil, err
	}
	return p.check(path)
}

func (p *program) check(path string) (*types.Package, error) {
	c := types.Config{Importer: p}
	t, err := c.Check(path, p.fset, p.files[path], p.info)
	p.done[path] = t
	return t, err
}

// doubts: the places where an expression reads what a call in it may change, so that
// the language leaves open which of the two comes first.
func (p *program) doubts(path string) []string {
	var l []string
	for _, f := range p.files[path] {
		for _, d := range f.Decls {
			if d, ok := d.(*ast.FuncDecl); ok && d.Body != nil {
				v := &visit{program: p, reachable: map[types.Object]bool{}}
				v.reach(d.Body)
				v.statements(d.Body)
				l = append(l, v.doubts...)
			}
		}
	}
	return l
}

// visit of a function: which of its variables others than it can reach, and the doubts.
type visit struct {
	*program
	reachable map[types.Object]bool
	doubts    []string
}

// reach: note the variables whose address is taken, and those that a function within
// assigns.
func (v *visit) reach(body ast.Node) {
	ast.Inspect(body, func(n ast.Node) bool {
		switch x := n.(type) {
		case *ast.UnaryExpr:
			if x.Op == token.AND {
				v.note(x.X)
			}
		case *ast.SliceExpr:
			if v.is(x.X, isArray) {
				v.note(x.X)
			}
		case *ast.SelectorExpr:
			if s := v.info.Selections[x]; s != nil && s.Kind() == types.MethodVal && takesAddress(s) {
				v.note(x.X)
			}
		case *ast.FuncLit:
			v.assigned(x)
		}
		return true
	})
}

func takesAddress(s *types.Selection) bool {
	_, pointer := s.Obj().(*types.Func).Signature().Recv().Type().(*types.Pointer)
	_, from := s.Recv().Underlying().(*types.Pointer)
	return pointer && !from
}

// assigned by a function literal, though declared outside of it.
func (v *visit) assigned(l *ast.FuncLit) {
	outside := func(e ast.Expr) {
		if o := v.rooted(e); o != nil && (o.Pos() < l.Pos() || o.Pos() >= l.End()) {
			v.reachable[o] = true
		}
	}
	ast.Inspect(l.Body, func(n ast.Node) bool {
		switch x := n.(type) {
		case *ast.AssignStmt:
			for _, e := range x.Lhs {
				outside(e)
			}
		case *ast.IncDecStmt:
			outside(x.X)
		case *ast.RangeStmt:
			outside(x.Key)
			outside(x.Value)
		}
		return true
	})
}

func (v *visit) note(e ast.Expr) {
	if o := v.rooted(e); o != nil {
		v.reachable[o] = true
	}
}

// rooted: the variable that an expression is a part of.
func (v *visit) rooted(e ast.Expr) types.Object {
	switch x := e.(type) {
	case *ast.Ident:
		if o, ok := v.info.ObjectOf(x).(*types.Var); ok {
			return o
		}
	case *ast.ParenExpr:
		return v.rooted(x.X)
	case *ast.SelectorExpr:
		if !v.is(x.X, isPointer) {
			return v.rooted(x.X)
		}
	case *ast.IndexExpr:
		if v.is(x.X, isArray) {
			return v.rooted(x.X)
		}
	}
	return nil
}

func (v *visit) is(e ast.Expr, kind func(t types.Type) bool) bool {
	t := v.info.TypeOf(e)
	return t != nil && kind(t.Underlying())
}

func isArray(t types.Type) bool { _, ok := t.(*types.Array); return ok }

func isText(t types.Type) bool { _, ok := t.(*types.Basic); return ok }

func isPointer(t types.Type) bool { _, ok := t.(*types.Pointer); return ok }

// statements, one after another: what stands in one of them is looked at together.
func (v *visit) statements(body ast.Node) {
	ast.Inspect(body, func(n ast.Node) bool {
		switch x := n.(type) {
		case *ast.ExprStmt:
			v.look(x.X)
		case *ast.ReturnStmt:
			v.look(x.Results...)
		case *ast.AssignStmt:
			v.look(slices.Concat(v.operands(x), x.Rhs)...)
		case *ast.ValueSpec:
			v.look(x.Values...)
		case *ast.SendStmt:
			v.look(x.Chan, x.Value)
		case *ast.IfStmt:
			v.look(x.Cond)
		case *ast.ForStmt:
			v.look(x.Cond)
		case *ast.SwitchStmt:
			v.look(x.Tag)
		case *ast.CaseClause:
			for _, e := range x.List {
				v.look(e)
			}
		case *ast.RangeStmt:
			v.look(x.X)
		}
		return true
	})
}

// operands of what is assigned: all but the last step to it, which is only written,
// unless it is read, too.
func (v *visit) operands(x *ast.AssignStmt) []ast.Expr {
	if x.Tok != token.ASSIGN && x.Tok != token.DEFINE {
		return x.Lhs
	}
	var l []ast.Expr
	for _, e := range x.Lhs {
		switch y := e.(type) {
		case *ast.IndexExpr:
			l = append(l, y.Index)
			if !v.is(y.X, isArray) {
				l = append(l, y.X)
			}
		case *ast.StarExpr:
			l = append(l, y.X)
		case *ast.SelectorExpr:
			if v.is(y.X, isPointer) {
				l = append(l, y.X)
			}
		}
	}
	return l
}

// part of an expression, with all that it stands in.
type part struct {
	of   ast.Expr
	path []ast.Node
}

// look at expressions that belong together: what each reads, and what each calls.
func (v *visit) look(l ...ast.Expr) {
	var reads, calls []part
	for _, e := range l {
		if e == nil {
			continue
		}
		var path []ast.Node
		ast.Inspect(e, func(n ast.Node) bool {
			if n == nil {
				path = path[:len(path)-1]
				return true
			}
			if _, ok := n.(*ast.FuncLit); ok {
				return false
			}
			path = append(path, n)
			if x, ok := n.(ast.Expr); ok && v.reads(x, path) {
				reads = append(reads, part{x, slices.Clone(path)})
			}
			if x, ok := n.(*ast.CallExpr); ok && v.mayChange(x) {
				calls = append(calls, part{x, slices.Clone(path)})
			}
			return true
		})
	}
	for _, r := range reads {
		for _, c := range calls {
			if !slices.Contains(r.path, ast.Node(c.of)) && !parted(r, c) {
				v.doubts = append(v.doubts, v.fset.Position(r.of.Pos()).String()+": "+types.ExprString(r.of)+" and "+types.ExprString(c.of))
			}
		}
	}
}

// reads: does an expression read a variable that others can reach?
func (v *visit) reads(e ast.Expr, path []ast.Node) bool {
	if len(path) > 1 {
		if u, ok := path[len(path)-2].(*ast.UnaryExpr); ok && u.Op == token.AND {
			return false
		}
	}
	switch x := e.(type) {
	case *ast.Ident:
		return v.reachable[v.info.Uses[x]]
	case *ast.StarExpr:
		return v.info.Types[x].IsValue()
	case *ast.IndexExpr:
		return v.info.Types[x].IsValue() && !v.is(x.X, isArray) && !v.is(x.X, isText)
	case *ast.SelectorExpr:
		s := v.info.Selections[x]
		return s != nil && s.Kind() == types.FieldVal && v.is(x.X, isPointer)
	}
	return false
}

// mayChange: may a call change what others can reach? Not a conversion, nor what is
// handed nothing but numbers, texts, and arrays and structs of these.
func (v *visit) mayChange(c *ast.CallExpr) bool {
	if t := v.info.Types[c.Fun]; t.IsType() || t.IsBuiltin() {
		return false
	}
	f, ok := v.function(c.Fun)
	if !ok {
		return true
	}
	if r := f.Signature().Recv(); r != nil && reaches(r.Type()) {
		return true
	}
	for t := range f.Signature().Params().Variables() {
		if reaches(t.Type()) {
			return true
		}
	}
	return false
}

// function that is called by its name.
func (v *visit) function(e ast.Expr) (*types.Func, bool) {
	switch x := e.(type) {
	case *ast.Ident:
		f, ok := v.info.Uses[x].(*types.Func)
		return f, ok
	case *ast.SelectorExpr:
		f, ok := v.info.Uses[x.Sel].(*types.Func)
		return f, ok
	}
	return nil, false
}

// reaches: can others' variables be reached through a value of this type?
func reaches(t types.Type) bool {
	switch x := t.Underlying().(type) {
	case *types.Basic:
		return false
	case *types.Array:
		return reaches(x.Elem())
	case *types.Struct:
		for f := range x.Fields() {
			if reaches(f.Type()) {
				return true
			}
		}
		return false
	}
	return true
}

// parted: do two stand on the two sides of && or ||, which go from left to right?
func parted(a, b part) bool {
	for i, n := range a.path {
		if i+1 >= len(a.path) || i+1 >= len(b.path) || b.path[i] != n {
			return false
		}
		if x, ok := n.(*ast.BinaryExpr); ok && a.path[i+1] != b.path[i+1] {
			return x.Op == token.LAND || x.Op == token.LOR
		}
	}
	return false
}

// faces: the packages of the layers. What they import is looked at, too.
var faces = []string{
	"wide", "field", "curve", "keccak", "sign", "quorum", "paper", "load", "sets",
	"scale", "coin", "seen", "fork", "gate", "log", "post", "guard", "world",
}

// Of the program's packages none leans on an order that the language leaves open.
func TestOrder(t *testing.T) {
	p := newProgram("..")
	for _, name := range faces {
		if _, err := p.Import(module + "/" + name); err != nil {
			t.Fatal(err)
		}
	}
	for _, path := range slices.Sorted(maps.Keys(p.done)) {
		for _, doubt := range p.doubts(path) {
			t.Error(doubt)
		}
	}
}

// What is in doubt, and what is not: the lines that end in "in doubt".
const examples = `package examples

type box struct{ n int }

func (b *box) more() int { b.n++; return b.n }

func (b box) least(n int) int { return min(b.n, n) }

func set(p *int) int { *p = 7; return 1 }

func clean(n int) int { return n }

func two(a, b int) (int, int) { return a, b }

func locals(l []int, m map[int]int) (int, int) {
	n, k := 1, 2
	p := &n
	var b box
	next := func() int { k++; return k }
	println(set(p), n)  // in doubt
	println(n + set(p)) // in doubt
	println(two(set(p), *p)) // in doubt
	println(next() + k) // in doubt
	println(b.n, b.more()) // in doubt
	println(b.least(b.more())) // in doubt
	println(set(&l[0]) + l[0]) // in doubt
	println(set(p), m[1]) // in doubt
	l[k] = next() // in doubt
	k += next() // in doubt
	m[n], l[0] = two(1, set(p)) // in doubt
	if n == set(p) { // in doubt
		println(n == 1 && set(p) == n, set(p) == 1 || n == 1) // in doubt
	}
	println(n == 1 && set(p) == 1 || n == 2)
	println(clean(n) + n + len(l) + int(n))
	println(set(p) + clean(1), next())
	n = set(p)
	l[0] = next()
	println(set(&n), func() int { return n + k })
	println(b.least(n), l[0])
	for n < 9 {
		println(next())
	}
	return next(), k // in doubt
}

func fields(b *box, l []*box) int {
	b.n = b.more()
	l[b.n] = b // a read and no call
	println(l[0].n, b.more()) // in doubt
	return b.n + b.more() // in doubt
}
`

// The look finds all doubts, and nothing else.
func TestDoubts(t *testing.T) {
	const path = module + "/examples"
	p := newProgram("..")
	f, err := parser.ParseFile(p.fset, "x.go", examples, 0)
	if err != nil {
		t.Fatal(err)
	}
	p.files[path] = []*ast.File{f}
	if _, err := p.check(path); err != nil {
		t.Fatal(err)
	}
	got := map[int]bool{}
	for _, doubt := range p.doubts(path) {
		n, err := strconv.Atoi(strings.Split(doubt, ":")[1])
		if err != nil {
			t.Fatal(doubt)
		}
		got[n] = true
	}
	for i, line := range strings.Split(examples, "\n") {
		if got[i+1] != strings.HasSuffix(line, "in doubt") {
			t.Errorf("line %d: %s: %v", i+1, line, got[i+1])
		}
	}
}
