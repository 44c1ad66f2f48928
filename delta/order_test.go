package delta_test

import (
	"fmt"
	"go/ast"
	"go/build"
	"go/importer"
	"go/parser"
	"go/token"
	"go/types"
	"os"
	"os/exec"
	"path/filepath"
	"slices"
	"strings"
	"testing"

	"graftage/api"
	"graftage/delta"
)

// P4.1: the first occurrence of the longest run, where the automaton's states move as it grows.
func TestMakeAcrossMoves(t *testing.T) {
	base := "aaaaaaaaaaaaaaaaaaaaabaaaabaaaaa"
	target := "aabaaaaaaaabaaaaaaaaaaaaaaabaabaaaaabaaaaaaaaaaaaaaaaaaaabaaaaaaaaaaaaaababbbaaaaaaaaaaaaaaaaaaaaaaaaaaaaaaaaaabaaaaaaaaaaaaaaaaaaabaaaaaaaaaaaaaaabaaaaaaaaaaaababaaaaaaaaaaaaaaabaaaaabaaaaaaaaaaaaaaaabaaaaaaaaababbaaaaaaaaaaaaaaaaaaaabaaaaabbaaaaaaaaaaaabaaaaaaababaaabbaaaaaaaaaaaaaaaaaaaaaaaaaaaaaaaaaaaaaaaaabaaaaaaaaaaaaaaaaaaaaaaaaaaaaaaaaaaaaaaaaaaaaaaaaaaaaaaaabaaabaaaaaaaaaaaaaaaaaaaaaaaaaaaaaabaaaaaaaaaaaaaaaaaaaaaaaaaaaabaaaaa"
	expectMake(t, base, target, plain(base, target))
	runs, e := delta.Copies(delta.Make(base, target))
	if want := (api.Run{A: 23, B: 430, N: 9}); e != api.OK || len(runs) == 0 || runs[len(runs)-1] != want {
		t.Errorf("the last copy is %v, %d, want %v", runs[max(0, len(runs)-1):], e, want)
	}
}

// sources is a program with what its functions may write.
type sources struct {
	fset   *token.FileSet
	info   types.Info
	std    types.Importer
	root   string
	packs  map[string]*types.Package
	files  map[string][]*ast.File
	bodies map[types.Object][]ast.Node // of functions, and of what variables that hold functions are set to
	loose  []ast.Node                  // the bodies of all function literals
}

// newSources returns the program whose packages lie below root, of which none is loaded yet.
func newSources(root string) *sources {
	if build.Default.GOROOT == "" {
		out, _ := exec.Command("go", "env", "GOROOT").Output()
		build.Default.GOROOT = strings.TrimSpace(string(out))
	}
	fset := token.NewFileSet()
	info := types.Info{Types: map[ast.Expr]types.TypeAndValue{}, Uses: map[*ast.Ident]types.Object{}, Defs: map[*ast.Ident]types.Object{}}
	return &sources{
		fset: fset, info: info, std: importer.ForCompiler(fset, "source", nil), root: root,
		packs: map[string]*types.Package{}, files: map[string][]*ast.File{}, bodies: map[types.Object][]ast.Node{},
	}
}

// Import loads a package, of the program or of the library.
func (s *sources) Import(name string) (*types.Package, error) {
	dir, own := strings.CutPrefix(name, "graftage/")
	if !own {
		return s.std.Import(name)
	}
	if s.packs[name] != nil {
		return s.packs[name], nil
	}
	names, _ := filepath.Glob(filepath.Join(s.root, dir, "*.go"))
	for _, file := range names {
		if strings.HasSuffix(file, "_test.go") {
			continue
		}
		if err := s.parse(name, file, nil); err != nil {
			return nil, err
		}
	}
	return s.check(name)
}

// parse adds a file to a package.
func (s *sources) parse(name, file string, text any) error {
	f, err := parser.ParseFile(s.fset, file, text, 0)
	s.files[name] = append(s.files[name], f)
	return err
}

// check finds out what the names of a package stand for, and what its functions do.
func (s *sources) check(name string) (*types.Package, error) {
	config := types.Config{Importer: s}
	p, err := config.Check(name, s.fset, s.files[name], &s.info)
	s.packs[name] = p
	for _, f := range s.files[name] {
		ast.Inspect(f, func(n ast.Node) bool {
			switch x := n.(type) {
			case *ast.FuncDecl:
				s.bodies[s.info.Defs[x.Name]] = []ast.Node{x.Body}
			case *ast.FuncLit:
				s.loose = append(s.loose, x.Body)
			case *ast.AssignStmt:
				for i, right := range x.Rhs {
					if literal, ok := right.(*ast.FuncLit); ok {
						o := s.object(x.Lhs[i])
						s.bodies[o] = append(s.bodies[o], literal.Body)
					}
				}
			}
			return true
		})
	}
	return p, err
}

// object returns what a name stands for, or nil if x is none.
func (s *sources) object(x ast.Expr) types.Object {
	switch y := ast.Unparen(x).(type) {
	case *ast.SelectorExpr:
		return s.info.Uses[y.Sel]
	case *ast.Ident:
		if o := s.info.Defs[y]; o != nil {
			return o
		}
		return s.info.Uses[y]
	}
	return nil
}

// variables returns all variables and fields that are named in n.
func (s *sources) variables(n ast.Node) []types.Object {
	var out []types.Object
	ast.Inspect(n, func(n ast.Node) bool {
		if name, ok := n.(*ast.Ident); ok {
			if v, ok := s.info.Uses[name].(*types.Var); ok {
				out = append(out, v)
			}
		}
		return true
	})
	return out
}

// reads returns what must be read to know the place that x stands for.
func (s *sources) reads(x ast.Expr) []types.Object {
	switch y := ast.Unparen(x).(type) {
	case *ast.SelectorExpr:
		if _, ok := s.info.TypeOf(y.X).Underlying().(*types.Struct); ok {
			return s.reads(y.X)
		}
		return s.variables(y.X)
	case *ast.IndexExpr:
		if _, ok := s.info.TypeOf(y.X).Underlying().(*types.Array); ok {
			return append(s.reads(y.X), s.variables(y.Index)...)
		}
		return s.variables(y)
	case *ast.StarExpr:
		return s.variables(y.X)
	}
	return nil
}

// writes adds to met the variables and fields that may be written by the functions that n names, and by those that these name.
func (s *sources) writes(n ast.Node, met map[types.Object]bool, done map[ast.Node]bool) {
	enter := func(bodies []ast.Node) {
		for _, body := range bodies {
			if !done[body] {
				done[body] = true
				s.assigned(body, met)
				s.writes(body, met, done)
			}
		}
	}
	ast.Inspect(n, func(n ast.Node) bool {
		switch x := n.(type) {
		case *ast.Ident:
			enter(s.meant(s.object(x)))
		case *ast.FuncLit:
			enter([]ast.Node{x.Body})
		case *ast.CallExpr:
			what := s.info.Types[x.Fun]
			if _, named := s.object(x.Fun).(*types.Func); !named && !what.IsType() && !what.IsBuiltin() {
				enter(s.loose) // whatever function it is
			}
		}
		return true
	})
}

// meant returns the bodies of what may be called by a name.
func (s *sources) meant(o types.Object) []ast.Node {
	f, ok := o.(*types.Func)
	if !ok {
		return s.bodies[o]
	}
	if r := f.Signature().Recv(); r == nil || !types.IsInterface(r.Type()) {
		return s.bodies[f.Origin()]
	}
	var out []ast.Node
	for other, bodies := range s.bodies {
		if _, ok := other.(*types.Func); ok && other.Name() == f.Name() {
			out = append(out, bodies...)
		}
	}
	return out
}

// assigned adds to met the variables and fields that a body itself assigns to.
func (s *sources) assigned(body ast.Node, met map[types.Object]bool) {
	add := func(x ast.Expr) {
		for {
			switch y := ast.Unparen(x).(type) {
			case *ast.IndexExpr:
				x = y.X
				continue
			case *ast.StarExpr:
				x = y.X
				continue
			}
			met[s.object(x)] = true
			return
		}
	}
	ast.Inspect(body, func(n ast.Node) bool {
		switch x := n.(type) {
		case *ast.AssignStmt:
			for _, left := range x.Lhs {
				add(left)
			}
		case *ast.IncDecStmt:
			add(x.X)
		}
		return true
	})
}

// unsettled returns where an assignment's left side reads what a call on its right side may write.
func (s *sources) unsettled() []string {
	var out []string
	look := func(n ast.Node) bool {
		x, ok := n.(*ast.AssignStmt)
		if !ok || x.Tok == token.DEFINE {
			return true
		}
		met := map[types.Object]bool{}
		for _, right := range x.Rhs {
			s.writes(right, met, map[ast.Node]bool{})
		}
		for _, left := range x.Lhs {
			reads := s.reads(left)
			if x.Tok != token.ASSIGN {
				reads = append(reads, s.variables(left)...)
			}
			if slices.ContainsFunc(reads, func(o types.Object) bool { return met[o] }) {
				out = append(out, s.fset.Position(x.Pos()).String())
			}
		}
		return true
	}
	for _, files := range s.files {
		for _, f := range files {
			ast.Inspect(f, look)
		}
	}
	slices.Sort(out)
	return out
}

// P4.1, and no promise but hangs on it: what a call answers hangs on no order that the language leaves open between an assignment's left side and the calls on its right.
func TestOrder(t *testing.T) {
	s := newSources("..")
	dirs, err := os.ReadDir("..")
	if err != nil {
		t.Fatal(err)
	}
	for _, dir := range dirs {
		names, _ := filepath.Glob(filepath.Join("..", dir.Name(), "*.go"))
		own := slices.ContainsFunc(names, func(name string) bool { return !strings.HasSuffix(name, "_test.go") })
		if !own {
			continue
		}
		if _, err := s.Import("graftage/" + dir.Name()); err != nil {
			t.Fatal(err)
		}
	}
	if len(s.files) < 50 || len(s.bodies) < 300 {
		t.Errorf("only %d packages and %d functions are looked at", len(s.files), len(s.bodies))
	}
	for _, place := range s.unsettled() {
		t.Errorf("%s: the left side reads what a call on the right side may write", place)
	}
}

// P4.1: the look at the order finds what it looks for, and nothing else.
func TestOrderFinds(t *testing.T) {
	text := `package p
import "slices"
type teller interface { tell() int; grow() int }
type row struct{ link, size int }
type machine struct { rows []row; at int; name [4]int; next *machine }
func (m *machine) add() int { m.rows = append(m.rows, row{}); return m.grow() }
func (m *machine) grow() int { m.at++; return m.at }
func (m *machine) tell() int { n := m.at; n++; return n }
func twice(f func() int) int { return f() + f() }
var _ = slices.Max[[]int]
`
	rows := []struct {
		line string
		bad  bool
	}{
		{"m.rows[i].link = m.add()", true},
		{"m.rows[0] = row{link: 1 + m.add()}", true},
		{"m.rows[i].link += m.add()", true},
		{"m.at += m.grow()", true},
		{"m.at -= 1 + m.add()", true},
		{"m.name[m.at] = m.grow()", true},
		{"m.next.rows[i].size, i = m.add(), 0", true},
		{"l[i] = step()", true},
		{"l[0] = step()", true},
		{"i += step()", true},
		{"m.name[i] = twice(step)", true},
		{"m.name[i] = twice(func() int { i++; return i })", true},
		{"l[i] = slices.IndexFunc(l, func(x int) bool { i++; return x > i })", true},
		{"l[i] = slices.IndexFunc(l, func(x int) bool { return x > m.at })", false},
		{"l[m.at] = t.grow()", true},
		{"l[m.at] = t.tell()", false},
		{"link := m.add(); m.rows[i].link = link", false},
		{"m.rows[i].link = m.grow()", false},
		{"m.rows[m.at].link = m.tell()", false},
		{"m.name[i] = m.add()", false},
		{"m.at = m.grow()", false},
		{"m.next.at = m.add()", false},
		{"m.rows = append(m.rows, row{size: m.grow()})", false},
		{"i = step()", false},
		{"l[i] = m.add()", false},
		{"m.rows[i].link = int(int64(len(l)))", false},
		{"i += m.add()", false},
	}
	first := strings.Count(text, "\n") + 1
	for i, row := range rows {
		text += fmt.Sprintf("func f%d(m *machine, t teller, l []int, i int) { step := func() int { i++; l = append(l, i); return i }; %s; step() }\n", i, row.line)
	}
	s := newSources("..")
	if err := s.parse("p", "p.go", text); err != nil {
		t.Fatal(err)
	}
	if _, err := s.check("p"); err != nil {
		t.Fatal(err)
	}
	found := strings.Join(s.unsettled(), " ")
	for i, row := range rows {
		if bad := strings.Contains(found, fmt.Sprintf("p.go:%d:", first+i)); bad != row.bad {
			t.Errorf("%q is found: %t, want %t", row.line, bad, row.bad)
		}
	}
}
