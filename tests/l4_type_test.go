package tests

import (
	"math"
	"math/rand"
	"reflect"
	"slices"
	"strings"
	"testing"

	"loop.example/smithy/impl"
)

// plainPrims are the types of the operands of each primitive, and its own behind the point.
const plainPrims = "+ ii.i  - ii.i  * ii.i  / ii.i  % ii.i  < ii.b  <= ii.b  = ii.b  not b.b  at ri.i  len r.i  put rii.r  join rr.r  print i.i  and bb.b  or bb.b"

// plainPrim is what that table says of a word.
func plainPrim(word string) ([]int, int) {
	words := strings.Fields(plainPrims)
	for i := 0; i < len(words); i += 2 {
		if words[i] == word {
			var types []int
			for _, letter := range strings.ReplaceAll(words[i+1], ".", "") {
				types = append(types, 1+strings.IndexRune("ibr", letter))
			}
			return types[:len(types)-1], types[len(types)-1]
		}
	}
	return nil, 0
}

// readMod is the module that is written so.
func readMod(t *testing.T, text string) impl.TreeMod {
	t.Helper()
	m, code := impl.TreeRead(text)
	if code != 0 {
		t.Fatalf("%q is not read: %d", text, code)
	}
	return m
}

func readExpr(t *testing.T, text string) impl.TreeExpr {
	t.Helper()
	return readMod(t, "(main "+text+")").Main[0]
}

// faceOf is a face of a module that is written so.
func faceOf(t *testing.T, mod string, lines ...string) impl.TypeFace {
	t.Helper()
	sigs, ok := impl.FaceRead(strings.Join(append(lines, ""), "\n"))
	if !ok {
		t.Fatal(lines)
	}
	return impl.TypeFace{Mod: mod, Sigs: sigs}
}

// plainFind finds by another way than the program: from the end, the last that is found being the first.
func plainFind(m impl.TreeMod, faces []impl.TypeFace, mod, name string) (impl.FaceSig, bool) {
	var lines []impl.FaceSig
	if mod == "" {
		for _, f := range m.Funs {
			s := impl.FaceSig{Name: f.Name, Type: f.Type}
			for _, a := range f.Args {
				s.Args = append(s.Args, a.Type)
			}
			lines = append(lines, s)
		}
	} else if strings.Contains("\x00"+strings.Join(m.Uses, "\x00")+"\x00", "\x00"+mod+"\x00") {
		for _, face := range slices.Backward(faces) {
			if face.Mod == mod {
				lines = face.Sigs
			}
		}
	}
	var got []impl.FaceSig
	for _, s := range slices.Backward(lines) {
		if s.Name == name {
			got = settledFace([]impl.FaceSig{s})
		}
	}
	if len(got) == 0 {
		return impl.FaceSig{}, false
	}
	return got[0], true
}

// plainWalk types by another way than the program: one walk over all expressions, the
// last of a part ahead of it, with a stack of types; it ends at the first that is wrong.
type plainWalk struct {
	m     impl.TreeMod
	faces []impl.TypeFace
	vars  []impl.TreeArg
	stack []int
	code  int
}

func (w *plainWalk) walk(e impl.TreeExpr) {
	for i, kid := range e.Kids {
		w.walk(kid)
		if w.code != 0 {
			return
		}
		if e.Kind == impl.TreeLet && i == 0 {
			w.vars = append(w.vars, impl.TreeArg{Name: e.Name, Type: w.stack[len(w.stack)-1]})
		}
	}
	have := w.stack[len(w.stack)-len(e.Kids):]
	want, own := slices.Clone(have), 0
	switch e.Kind {
	case impl.TreeNum:
		own = 1
	case impl.TreeFlag:
		own = 2
	case impl.TreeVar:
		w.code = impl.TypeName
		for _, v := range w.vars {
			if v.Name == e.Name {
				own, w.code = v.Type, 0
			}
		}
	case impl.TreePrim:
		want, own = plainPrim(e.Name)
	case impl.TreeIf:
		want[0], want[2], own = 2, want[1], want[1]
	case impl.TreeLet:
		own = have[1]
		w.vars = w.vars[:len(w.vars)-1]
	case impl.TreeCall:
		s, known := plainFind(w.m, w.faces, e.Mod, e.Name)
		want, own = s.Args, s.Type
		if !known {
			w.code = impl.TypeName
		} else if len(want) != len(have) {
			w.code = impl.TypeArity
		}
	case impl.TreeList:
		for i := range want {
			want[i] = 1
		}
		own = 3
	}
	for i := range have {
		if w.code == 0 && have[i] != want[i] {
			w.code = impl.TypeKind
		}
	}
	w.stack = append(w.stack[:len(w.stack)-len(e.Kids)], own)
}

func plainType(m impl.TreeMod, faces []impl.TypeFace, vars []impl.TreeArg, e impl.TreeExpr) (int, int) {
	if nodes, depth := plainNodes(e); !plainOk(m) || !plainRight(e) || nodes > 150 || depth > 16 {
		return 0, impl.TypeForm
	}
	w := plainWalk{m: m, faces: faces, vars: slices.Clone(vars)}
	if w.walk(e); w.code != 0 {
		return 0, w.code
	}
	return w.stack[0], 0
}

// checkExpr holds TypeExpr against the other way, and tells what it answers.
func checkExpr(t *testing.T, what string, m impl.TreeMod, faces []impl.TypeFace, vars []impl.TreeArg, e impl.TreeExpr) (int, int) {
	t.Helper()
	kind, code := impl.TypeExpr(m, faces, vars, e)
	if k, c := plainType(m, faces, vars, e); kind != k || code != c {
		t.Fatalf("%s: TypeExpr(%s) = %d, %d; want %d, %d (%v %v)", what, impl.TreePrint(mainOf(e)), kind, code, k, c, faces, vars)
	}
	return kind, code
}

func TestTypeCodes(t *testing.T) {
	if got := []int{impl.TypeUse, impl.TypeName, impl.TypeArity, impl.TypeKind, impl.TypeForm}; !slices.Equal(got, []int{1, 2, 3, 4, 5}) {
		t.Error(got)
	}
}

func TestTypePrim(t *testing.T) {
	words := strings.Fields(primWords + " " + ownWords + " > >= == != ++ -- ** // && || ! puts ands x f lib.sum Not NOT 1 0 ( ) . \xff")
	words = append(words, "", " ", "+ ", " +", "\n", "+\n", "put put", strings.Repeat("+", 10000))
	known := 0
	for _, word := range words {
		args, own := impl.TypePrim(word)
		wantArgs, want := plainPrim(word)
		if !slices.Equal(args, wantArgs) || own != want {
			t.Errorf("TypePrim(%.20q) = %v, %d; want %v, %d", word, args, own, wantArgs, want)
		}
		if n := impl.TreeArity(word); n >= 0 && n != len(args) || n < 0 && (len(args) != 0 || own != 0) {
			t.Errorf("TypePrim(%.20q) has not as many operands as TreeArity says", word)
		}
		if own != 0 {
			known++
		}
		// New memory: what is written into one answer is not in the next one.
		for i := range args[:cap(args)] {
			args[:cap(args)][i] = 77
		}
		if again, _ := impl.TypePrim(word); !slices.Equal(again, wantArgs) {
			t.Errorf("TypePrim(%.20q) shares memory", word)
		}
	}
	// Those of the own words that are primitives come twice.
	if known != 16+8 {
		t.Error(known)
	}
	everyText("+-*/%<=!>& ", 3, func(word string) {
		if _, own := impl.TypePrim(word); own != 0 && impl.TreeArity(word) < 0 {
			t.Errorf("TypePrim(%q) = %d", word, own)
		}
	})
}

func checkFind(t *testing.T, what string, m impl.TreeMod, faces []impl.TypeFace, mod, name string) (impl.FaceSig, bool) {
	t.Helper()
	got, ok := impl.TypeFind(m, faces, mod, name)
	want, wantOk := plainFind(m, faces, mod, name)
	if ok != wantOk || !sameFace([]impl.FaceSig{got}, []impl.FaceSig{want}) {
		t.Fatalf("%s: TypeFind(%q, %v, %q, %q) = %v, %v; want %v, %v", what, impl.TreePrint(m), faces, mod, name, got, ok, want, wantOk)
	}
	return got, ok
}

func TestTypeFind(t *testing.T) {
	m := readMod(t, "(use lib b)(fun f ((x int)(y row)) bool true)(pub g () row (row))(fun b ((x bool)) int 1)")
	faces := []impl.TypeFace{
		faceOf(t, "other", "f()int", "h()int"), faceOf(t, "lib", "f(bool)int", "sum(row)int"), faceOf(t, "lib", "more()int", "sum(int)row"),
		faceOf(t, "f", "g()int"), faceOf(t, "b"), faceOf(t, "b", "b()int"),
	}
	for _, c := range []struct {
		mod, name string
		want      []impl.FaceSig
	}{
		{"", "f", []impl.FaceSig{sig("f", 1, 3, 2)}}, {"", "g", []impl.FaceSig{sig("g", 3)}}, {"", "b", []impl.FaceSig{sig("b", 2, 1)}},
		{"", "h", nil}, {"", "sum", nil}, {"", "lib", nil}, {"", "", nil}, {"", "main", nil}, {"", "F", nil}, {"", "ff", nil}, {"", "lib.sum", nil},
		{"lib", "f", []impl.FaceSig{sig("f", 2, 1)}}, {"lib", "sum", []impl.FaceSig{sig("sum", 3, 1)}},
		// A second face of a module does not count, not even for what the first one has not.
		{"lib", "more", nil}, {"b", "b", nil},
		{"lib", "g", nil}, {"lib", "", nil}, {"lib", "su", nil}, {"lib", "sums", nil},
		// What has a face and is not used, and what is used and has none of it.
		{"other", "f", nil}, {"other", "h", nil}, {"f", "g", nil}, {"none", "f", nil}, {"li", "f", nil}, {"libb", "f", nil}, {" ", "f", nil},
	} {
		got, ok := checkFind(t, "listed", m, faces, c.mod, c.name)
		if ok != (len(c.want) == 1) || ok && !sameFace([]impl.FaceSig{got}, c.want) {
			t.Errorf("TypeFind(%q, %q) = %v, %v", c.mod, c.name, got, ok)
		}
	}
	for _, name := range []string{"f", "sum"} {
		if _, ok := checkFind(t, "without faces", m, nil, "lib", name); ok {
			t.Error(name, "is found without a face")
		}
		if _, ok := checkFind(t, "without uses", impl.TreeMod{Funs: m.Funs}, faces, "lib", name); ok {
			t.Error(name, "is found and not used")
		}
	}
}

// What is not ok is searched as it stands: no fixed answer is named for it.
func TestTypeFindWrong(t *testing.T) {
	fun := func(name string, kind int) impl.TreeFun { return impl.TreeFun{Name: name, Type: kind} }
	m := impl.TreeMod{Uses: []string{"row", "a", "a", "", "b"}, Funs: []impl.TreeFun{fun("f", 1), fun("f", 2), fun("", 3), fun("row", 77), fun("A", 0)}}
	faces := []impl.TypeFace{
		{Mod: "", Sigs: []impl.FaceSig{sig("f", 3), sig("g", 1)}}, {Mod: "row", Sigs: []impl.FaceSig{sig("row", 1, 1, 1, 1, 1, 1, 9)}},
		{Mod: "a", Sigs: []impl.FaceSig{sig("z", 1), sig("z", 2), sig("", -1), sig("a", 0)}}, {Mod: "a", Sigs: []impl.FaceSig{sig("b", 1)}},
	}
	found := 0
	for _, mod := range []string{"", "row", "a", "b", "A", "zz"} {
		for _, name := range []string{"f", "g", "", "row", "A", "a", "b", "z"} {
			if _, ok := checkFind(t, "not ok", m, faces, mod, name); ok {
				found++
			}
		}
	}
	if found != 8 {
		t.Error(found)
	}
	if got, _ := impl.TypeFind(m, faces, "a", "z"); got.Type != 1 {
		t.Error("of two lines with one name the first counts", got)
	}
	if got, _ := impl.TypeFind(m, faces, "", "f"); got.Type != 1 {
		t.Error("of two functions with one name the first counts", got)
	}
	if _, ok := impl.TypeFind(m, faces, "", "g"); ok {
		t.Error("a face without a name is no own function")
	}
}

// leaves are expressions of each type, at the place of it.
func leaves() []impl.TreeExpr { return []impl.TreeExpr{{}, num(1), flag(1), list()} }

// everyTypes calls with each list of so many types.
func everyTypes(n int, call func([]int)) {
	var grow func(types []int)
	grow = func(types []int) {
		if len(types) == n {
			call(types)
			return
		}
		for k := 1; k <= 3; k++ {
			grow(append(slices.Clone(types), k))
		}
	}
	grow(nil)
}

// Each primitive, with operands of each types there are.
func TestTypeExprPrims(t *testing.T) {
	for _, word := range strings.Fields(primWords) {
		args, own := plainPrim(word)
		right := 0
		everyTypes(len(args), func(types []int) {
			e, open := prim(word), prim(word)
			var vars []impl.TreeArg
			for i, k := range types {
				e.Kids = append(e.Kids, leaves()[k])
				open.Kids = append(open.Kids, variable(names(3)[i]))
				vars = append(vars, impl.TreeArg{Name: names(3)[i], Type: k})
			}
			for _, e := range []impl.TreeExpr{e, open} {
				kind, code := checkExpr(t, word, impl.TreeMod{}, nil, vars, e)
				if slices.Equal(types, args) {
					if right++; kind != own || code != 0 {
						t.Errorf("%s of %v: %d, %d", word, types, kind, code)
					}
				} else if kind != 0 || code != impl.TypeKind {
					t.Errorf("%s of %v: %d, %d", word, types, kind, code)
				}
			}
		})
		if right != 2 {
			t.Error(word, right)
		}
	}
}

// Each call, with operands of each types there are, and of each number.
func TestTypeExprCalls(t *testing.T) {
	m := readMod(t, "(use lib)(fun f () int 1)(fun g ((a bool)) row (row))(fun h ((a int)(b row)) bool true)(fun w ((a int)(b bool)(c row)(d int)) int 1)")
	faces := []impl.TypeFace{faceOf(t, "lib", "f()row", "g(int)int", "h(row,row)bool", "w(bool,bool,int,row)row"), faceOf(t, "lib", "f(int)int", "z()int"), faceOf(t, "lab", "f()row")}
	right := 0
	for n := range 5 {
		everyTypes(n, func(types []int) {
			for _, mod := range []string{"", "lib", "lab", "lob"} {
				for _, name := range []string{"f", "g", "h", "w", "z"} {
					e := call(mod, name)
					for _, k := range types {
						e.Kids = append(e.Kids, leaves()[k])
					}
					kind, code := checkExpr(t, "call", m, faces, nil, e)
					s, known := plainFind(m, faces, mod, name)
					switch {
					case !known:
						s.Type, s.Args = impl.TypeName, nil
					case len(s.Args) != n:
						s.Type, known = impl.TypeArity, false
					case !slices.Equal(s.Args, types):
						s.Type, known = impl.TypeKind, false
					default:
						right++
					}
					if known && (kind != s.Type || code != 0) || !known && (kind != 0 || code != s.Type) {
						t.Errorf("%s.%s of %v: %d, %d", mod, name, types, kind, code)
					}
				}
			}
		})
	}
	if right != 8 {
		t.Error(right)
	}
	if k, code := impl.TypeExpr(m, faces, nil, call("", "w", num(1), flag(1), list(), num(1), num(1))); k != 0 || code != impl.TypeForm {
		t.Error("five operands are not right", k, code)
	}
}

func TestTypeExprIfs(t *testing.T) {
	everyTypes(3, func(types []int) {
		e := choice(leaves()[types[0]], leaves()[types[1]], leaves()[types[2]])
		kind, code := checkExpr(t, "if", impl.TreeMod{}, nil, nil, e)
		if types[0] == 2 && types[1] == types[2] {
			if kind != types[1] || code != 0 {
				t.Error(types, kind, code)
			}
		} else if kind != 0 || code != impl.TypeKind {
			t.Error(types, kind, code)
		}
	})
}

func TestTypeExprLists(t *testing.T) {
	for n := range 10 {
		kids := slices.Repeat([]impl.TreeExpr{num(3)}, n)
		kind, code := checkExpr(t, "row", impl.TreeMod{}, nil, nil, list(kids...))
		if n <= 8 && (kind != 3 || code != 0) || n > 8 && (kind != 0 || code != impl.TypeForm) {
			t.Error(n, kind, code)
		}
		for at := range min(n, 8) {
			for _, leaf := range []impl.TreeExpr{flag(0), list(), list(num(1))} {
				kids := slices.Clone(kids[:min(n, 8)])
				kids[at] = leaf
				if kind, code := checkExpr(t, "row", impl.TreeMod{}, nil, nil, list(kids...)); kind != 0 || code != impl.TypeKind {
					t.Error(n, at, kind, code)
				}
			}
		}
	}
}

func TestTypeExpr(t *testing.T) {
	m := readMod(t, "(use lib void nil)(fun f ((x int)) int x)(pub two ((x bool)(y row)) row y)(fun z () bool true)")
	faces := []impl.TypeFace{faceOf(t, "lib", "sum(row)int", "void()bool"), faceOf(t, "void"), faceOf(t, "lib", "late()int", "sum(int)bool"), faceOf(t, "out", "f()int")}
	vars := []impl.TreeArg{{Name: "i", Type: 1}, {Name: "b", Type: 2}, {Name: "r", Type: 3}, {Name: "tw", Type: 1}, {Name: "tw", Type: 3}, {Name: "f", Type: 2}, {Name: "lib", Type: 3}}
	for _, c := range []struct {
		text       string
		kind, code int
	}{
		{"0", 1, 0}, {"-99999999999999999", 1, 0}, {"true", 2, 0}, {"false", 2, 0}, {"i", 1, 0}, {"b", 2, 0}, {"r", 3, 0}, {"(row)", 3, 0}, {"(row 1 i (len r))", 3, 0},
		// The last of two variables with one name; names of functions and modules are others.
		{"tw", 3, 0}, {"(len tw)", 1, 0}, {"(+ tw 1)", 0, 4}, {"f", 2, 0}, {"(f i)", 1, 0}, {"(f f)", 0, 4}, {"lib", 3, 0}, {"(lib.sum lib)", 1, 0}, {"z", 0, 2}, {"(i)", 0, 2}, {"(lib)", 0, 2}, {"x", 0, 2}, {"sum", 0, 2},
		{"(z)", 2, 0}, {"(two b r)", 3, 0}, {"(two (z) (row 1))", 3, 0}, {"(lib.void)", 2, 0}, {"(lib.sum (two b r))", 1, 0},
		{"(lib.late)", 0, 2}, {"(out.f)", 0, 2}, {"(none.f)", 0, 2}, {"(nil.f)", 0, 2}, {"(void.f)", 0, 2}, {"(lib.two b r)", 0, 2}, {"(sum r)", 0, 2}, {"(void)", 0, 2},
		{"(f)", 0, 3}, {"(f 1 2)", 0, 3}, {"(z 1)", 0, 3}, {"(lib.sum)", 0, 3}, {"(lib.sum r r)", 0, 3}, {"(lib.void 1)", 0, 3}, {"(two b r 1)", 0, 3}, {"(f true true)", 0, 3},
		{"(f true)", 0, 4}, {"(two r b)", 0, 4}, {"(two b b)", 0, 4}, {"(two r r)", 0, 4}, {"(lib.sum 1)", 0, 4},
		{"(let x 1 x)", 1, 0}, {"(let x true x)", 2, 0}, {"(let x (row) (put x 0 1))", 3, 0}, {"(let x 1 (row))", 3, 0}, {"(let i true i)", 2, 0}, {"(let i r (len i))", 1, 0},
		// What is named is known in the second part alone, and is the last of its name there.
		{"(let x x 1)", 0, 2}, {"(let i (+ i 1) i)", 1, 0}, {"(let i (row i) i)", 3, 0}, {"(+ (let x 1 x) x)", 0, 2}, {"(+ (let i 1 i) i)", 1, 0}, {"(+ i (let i true 1))", 1, 0}, {"(if (let i true i) i 2)", 1, 0},
		{"(let x 1 (let x true x))", 2, 0}, {"(let x 1 (+ (let x r (len x)) x))", 1, 0}, {"(let x (let x true (if x 1 2)) x)", 1, 0}, {"(let x (let y 1 y) y)", 0, 2}, {"(let x 1 (let y x (+ x y)))", 1, 0}, {"(let x 1 (let y true (+ x y)))", 0, 4},
		{"(let f 1 (f f))", 1, 0}, {"(let f r (f 1))", 1, 0}, {"(let lib 1 (lib.sum r))", 1, 0}, {"(let z 1 z)", 1, 0}, {"(let x 1 (x))", 0, 2},
		{"(if b i 2)", 1, 0}, {"(if b r (row))", 3, 0}, {"(if b b b)", 2, 0}, {"(if i i i)", 0, 4}, {"(if b i b)", 0, 4}, {"(if b b i)", 0, 4}, {"(if r b b)", 0, 4}, {"(if b (row) 1)", 0, 4},
	} {
		kind, code := checkExpr(t, "listed", m, faces, vars, readExpr(t, c.text))
		if kind != c.kind || code != c.code {
			t.Errorf("%s: %d, %d; want %d, %d", c.text, kind, code, c.kind, c.code)
		}
	}
}

// Of several codes the first from the left counts, those of parts ahead of that of the whole.
func TestTypeExprFirst(t *testing.T) {
	m := readMod(t, "(fun f ((x int)) int x)(fun g ((x int)(y int)) int x)")
	for _, c := range []struct {
		text string
		code int
	}{
		{"(+ x (f))", 2}, {"(+ (f) x)", 3}, {"(+ (f) (f true))", 3}, {"(+ (f true) (f))", 4}, {"(+ (f true) x)", 4}, {"(+ x (f true))", 2},
		{"(+ true x)", 2}, {"(+ true (f))", 3}, {"(and 1 x)", 2}, {"(and x 1)", 2}, {"(and 1 (f))", 3}, {"(not (not 1))", 4}, {"(not (f))", 3}, {"(put 1 true x)", 2}, {"(put x true (f))", 2}, {"(put true (f) x)", 3},
		{"(none x)", 2}, {"(none (f))", 3}, {"(none (f true))", 4}, {"(none 1 (f) x)", 3}, {"(f x x)", 2}, {"(f 1 (f true))", 4}, {"(f (f) (f))", 3}, {"(f true true)", 3}, {"(g true)", 3}, {"(g true x)", 2}, {"(g (f) true)", 3}, {"(g (f true) (f))", 4}, {"(none.f (f))", 3}, {"(none.f true)", 2},
		{"(if 1 x 2)", 2}, {"(if 1 2 x)", 2}, {"(if x (f) 1)", 2}, {"(if 1 (f) x)", 3}, {"(if (f) x (f true))", 3}, {"(if true 1 (f))", 3}, {"(if 1 true (f))", 3}, {"(if 1 (f true) x)", 4},
		{"(row true x)", 2}, {"(row true (f))", 3}, {"(row (f true) x)", 4}, {"(row 1 2 true 3 (f))", 3}, {"(row (row true) x)", 4},
		{"(let x (f) y)", 3}, {"(let x y (f))", 2}, {"(let x (f true) (f))", 4}, {"(let x true (f x))", 4}, {"(let x true (g x y))", 2}, {"(let x (f) (not x))", 3}, {"(+ (let x 1 (not x)) y)", 4}, {"(+ true (let x 1 y))", 2},
		{"(+ (+ (+ true 1) x) (f))", 4}, {"(+ (+ true x) (f))", 2}, {"(+ (+ 1 (f)) x)", 3},
	} {
		kind, code := checkExpr(t, "several", m, nil, nil, readExpr(t, c.text))
		if kind != 0 || code != c.code {
			t.Errorf("%s: %d, %d; want %d", c.text, kind, code, c.code)
		}
	}
	// Whatever stands beside a part with a code that comes first.
	parts := []string{"x", "(f)", "(f true)", "1", "true", "(row)", "(f 1)", "(none)"}
	codes := []int{2, 3, 4, 0, 0, 0, 0, 2}
	for i, a := range parts {
		for j, b := range parts {
			for k, c := range parts {
				first := codes[i]
				for _, code := range []int{codes[j], codes[k]} {
					if first == 0 {
						first = code
					}
				}
				for _, head := range []string{"put", "if", "row", "g", "none"} {
					_, code := checkExpr(t, "each three", m, nil, nil, readExpr(t, "("+head+" "+a+" "+b+" "+c+")"))
					if first != 0 && code != first {
						t.Errorf("(%s %s %s %s): %d; want %d", head, a, b, c, code, first)
					}
				}
			}
		}
	}
}

// Variables are what they are given as, names and types or not.
func TestTypeExprVars(t *testing.T) {
	vars := []impl.TreeArg{{Name: "x", Type: 2}, {Name: "", Type: 1}, {Name: "row", Type: 1}, {Name: "A", Type: 1}, {Name: "o", Type: 0}, {Name: "big", Type: 77}, {Name: "neg", Type: -1}, {Name: "min", Type: math.MinInt}, {Name: "x", Type: 1}, {Name: "X", Type: 3}}
	for _, c := range []struct {
		e          impl.TreeExpr
		kind, code int
	}{
		{variable("x"), 1, 0}, {variable("o"), 0, 0}, {variable("big"), 77, 0}, {variable("neg"), -1, 0}, {variable("min"), math.MinInt, 0},
		{variable(""), 0, impl.TypeForm}, {variable("row"), 0, impl.TypeForm}, {variable("A"), 0, impl.TypeForm}, {variable("X"), 0, impl.TypeForm},
		{prim("+", variable("x"), variable("big")), 0, impl.TypeKind}, {prim("not", variable("o")), 0, impl.TypeKind}, {list(variable("neg")), 0, impl.TypeKind},
		{choice(flag(1), variable("big"), variable("big")), 77, 0}, {choice(flag(1), variable("big"), variable("o")), 0, impl.TypeKind}, {choice(variable("big"), num(1), num(1)), 0, impl.TypeKind},
		{let("big", num(1), variable("big")), 1, 0}, {let("y", variable("big"), variable("y")), 77, 0}, {let("y", variable("o"), num(1)), 1, 0},
	} {
		kind, code := checkExpr(t, "vars", impl.TreeMod{}, nil, vars, c.e)
		if kind != c.kind || code != c.code {
			t.Errorf("%v: %d, %d; want %d, %d", c.e, kind, code, c.kind, c.code)
		}
	}
	// As many as one likes; the last counts, wherever it stands.
	many := slices.Repeat([]impl.TreeArg{{Name: "x", Type: 1}, {Name: "y", Type: 2}}, 20000)
	many[len(many)-2].Type = 3
	if kind, code := checkExpr(t, "many", impl.TreeMod{}, nil, many, variable("x")); kind != 3 || code != 0 {
		t.Error(kind, code)
	}
	for at := range 6 {
		vars := slices.Repeat([]impl.TreeArg{{Name: "x", Type: 1}}, 6)
		vars[at].Type = 3
		want := 1
		if at == 5 {
			want = 3
		}
		if kind, _ := checkExpr(t, "alike", impl.TreeMod{}, nil, vars, variable("x")); kind != want {
			t.Error(at, kind)
		}
	}
}

// Lines of a face that is not ok are taken as they stand.
func TestTypeExprFaces(t *testing.T) {
	m := impl.TreeMod{Uses: []string{"lib"}}
	faces := []impl.TypeFace{{Mod: "lib", Sigs: []impl.FaceSig{sig("z", 1), sig("a", 2), sig("z", 3), sig("odd", 77), sig("none", 0), sig("wants", 77, 1), sig("five", 1, 1, 1, 1, 1, 2), sig("A", 1)}}}
	five := call("lib", "five", num(1), num(1), num(1), num(1))
	for _, c := range []struct {
		e          impl.TreeExpr
		kind, code int
	}{
		{call("lib", "z"), 1, 0}, {call("lib", "a"), 2, 0}, {call("lib", "odd"), 77, 0}, {call("lib", "none"), 0, 0}, {call("lib", "A"), 0, impl.TypeForm},
		{call("lib", "wants", num(1)), 0, impl.TypeKind}, {call("lib", "wants", call("lib", "odd")), 1, 0}, {five, 0, impl.TypeArity}, {prim("+", call("lib", "odd"), num(1)), 0, impl.TypeKind},
	} {
		kind, code := checkExpr(t, "faces", m, faces, nil, c.e)
		if kind != c.kind || code != c.code {
			t.Errorf("%v: %d, %d; want %d, %d", c.e, kind, code, c.kind, c.code)
		}
	}
}

// sums is an expression of type int with so many expressions, none of them deep.
func sums(nodes int) impl.TreeExpr {
	switch nodes {
	case 1:
		return num(1)
	case 2:
		return prim("print", num(1))
	}
	return prim("+", sums((nodes-1)/2), sums(nodes-1-(nodes-1)/2))
}

// nots is an expression of type bool of this depth.
func nots(depth int) impl.TreeExpr {
	if depth == 1 {
		return flag(1)
	}
	return prim("not", nots(depth-1))
}

func TestTypeExprBounds(t *testing.T) {
	full := mainOf(sums(150))
	if !impl.TreeOk(full) || impl.TreeOk(mainOf(sums(151))) {
		t.Fatal("the test's own module")
	}
	for _, m := range []impl.TreeMod{{}, full} {
		for n := 1; n <= 170; n++ {
			kind, code := checkExpr(t, "large", m, nil, nil, sums(n))
			if n <= 150 && (kind != 1 || code != 0) || n > 150 && (kind != 0 || code != impl.TypeForm) {
				t.Error("large", n, kind, code)
			}
			// A fault in it is found at no more than that, and not asked for beyond.
			_, code = checkExpr(t, "large and wrong", m, nil, nil, prim("not", sums(n)))
			if n+1 <= 150 && code != impl.TypeKind || n+1 > 150 && code != impl.TypeForm {
				t.Error("large and wrong", n, code)
			}
		}
		for n := 1; n <= 20; n++ {
			kind, code := checkExpr(t, "deep", m, nil, nil, nots(n))
			if n <= 16 && (kind != 2 || code != 0) || n > 16 && (kind != 0 || code != impl.TypeForm) {
				t.Error("deep", n, kind, code)
			}
			e := variable("x")
			for range n - 1 {
				e = let("x", num(1), e)
			}
			kind, code = checkExpr(t, "deep lets", m, nil, []impl.TreeArg{{Name: "x", Type: 1}}, e)
			if n <= 16 && (kind != 1 || code != 0) || n > 16 && (kind != 0 || code != impl.TypeForm) {
				t.Error("deep lets", n, kind, code)
			}
			if _, code := checkExpr(t, "deep behind", m, nil, nil, choice(flag(1), flag(1), nots(n))); code != 0 && n < 16 || code != impl.TypeForm && n >= 16 {
				t.Error("deep behind", n, code)
			}
		}
	}
	for _, e := range []impl.TreeExpr{round("not"), nots(100000), spread(100000)} {
		if kind, code := impl.TypeExpr(full, nil, nil, e); kind != 0 || code != impl.TypeForm {
			t.Error("what is far too large", kind, code)
		}
	}
}

// What is not right has one code, wherever it stands and whatever else is wrong.
func TestTypeExprForm(t *testing.T) {
	turns := []func(*impl.TreeExpr){
		func(e *impl.TreeExpr) {}, func(e *impl.TreeExpr) { e.Num++ }, func(e *impl.TreeExpr) { e.Num = math.MinInt }, func(e *impl.TreeExpr) { e.Name = "" }, func(e *impl.TreeExpr) { e.Name = "x" }, func(e *impl.TreeExpr) { e.Name = "row" },
		func(e *impl.TreeExpr) { e.Mod = "m" }, func(e *impl.TreeExpr) { e.Mod = "main" }, func(e *impl.TreeExpr) { e.Kids = nil }, func(e *impl.TreeExpr) { e.Kids = append(slices.Clone(e.Kids), num(1)) },
		func(e *impl.TreeExpr) { e.Kids = slices.Clone(e.Kids)[:max(0, len(e.Kids)-1)] }, func(e *impl.TreeExpr) { e.Kids = append(slices.Clone(e.Kids), impl.TreeExpr{}) },
	}
	for kind := -1; kind <= 10; kind++ {
		turns = append(turns, func(e *impl.TreeExpr) { e.Kind = kind })
	}
	forms := 0
	for _, base := range everyKind() {
		for i, turn := range turns {
			e := base
			turn(&e)
			for _, e := range []impl.TreeExpr{e, let("x", e, num(1)), prim("+", variable("nope"), e), list(flag(1), e, call("", "nope")), choice(num(1), num(2), prim("not", e))} {
				kind, code := checkExpr(t, "form", impl.TreeMod{}, nil, nil, e)
				if (code == impl.TypeForm) == plainRight(e) || code == impl.TypeForm && kind != 0 {
					t.Errorf("turn %d of %v: %d, %d", i, e, kind, code)
				}
				if code == impl.TypeForm {
					forms++
				}
			}
		}
	}
	if forms < 500 {
		t.Error(forms)
	}
}

// wrongMods are modules that are not ok, each by one part.
func wrongMods(t *testing.T) []impl.TreeMod {
	var out []impl.TreeMod
	for _, turn := range []func(*impl.TreeMod){
		func(m *impl.TreeMod) { m.Uses[1] = "a" }, func(m *impl.TreeMod) { m.Uses[0] = "row" }, func(m *impl.TreeMod) { m.Uses = names(5) },
		func(m *impl.TreeMod) { m.Main = append(m.Main, num(1)) }, func(m *impl.TreeMod) { m.Main[0].Kids = nil; m.Main[0].Kind = impl.TreeIf }, func(m *impl.TreeMod) { m.Main[0] = impl.TreeExpr{} },
		func(m *impl.TreeMod) { m.Main[0] = nots(17) }, func(m *impl.TreeMod) { m.Main[0] = sums(149) }, func(m *impl.TreeMod) { m.Main[0] = round("not") },
		func(m *impl.TreeMod) { m.Funs[1].Name = "f" }, func(m *impl.TreeMod) { m.Funs[1].Name = "" }, func(m *impl.TreeMod) { m.Funs[1].Type = 0 }, func(m *impl.TreeMod) { m.Funs[1].Args[0].Type = 4 },
		func(m *impl.TreeMod) { m.Funs[1].Args[0].Name = "let" }, func(m *impl.TreeMod) { m.Funs[1].Body = impl.TreeExpr{} }, func(m *impl.TreeMod) { m.Funs[1].Body.Num = 1 },
		func(m *impl.TreeMod) { m.Funs[0].Name = "main" }, func(m *impl.TreeMod) { m.Funs[0].Type = -1 }, func(m *impl.TreeMod) { m.Funs[0].Args[0].Type = 0 }, func(m *impl.TreeMod) { m.Funs[0].Body = round("not") },
		func(m *impl.TreeMod) { m.Funs[0].Args = append(m.Funs[0].Args, m.Funs[0].Args[0]) }, func(m *impl.TreeMod) { m.Funs = append(m.Funs, impl.TreeFun{}) },
		func(m *impl.TreeMod) { m.Funs = append(m.Funs, m.Funs[0]) },
	} {
		m := readMod(t, "(use a b)(pub f ((x int)) int x)(fun g ((y row)) row y)(main (f 1))")
		turn(&m)
		out = append(out, m)
	}
	return out
}

func TestTypeExprMods(t *testing.T) {
	for i, m := range wrongMods(t) {
		for _, e := range []impl.TreeExpr{num(1), flag(1), variable("x"), call("", "f", num(1)), call("", "nope"), {}} {
			if kind, code := impl.TypeExpr(m, nil, []impl.TreeArg{{Name: "x", Type: 1}}, e); kind != 0 || code != impl.TypeForm {
				t.Errorf("module %d: %d, %d", i, kind, code)
			}
		}
	}
	// Whether the module itself is right, or all that it uses is known, is not asked.
	m := readMod(t, "(use nope)(fun f () bool 1)(main (+ true x))")
	if kind, code := checkExpr(t, "wrong module", m, nil, nil, call("", "f")); kind != 2 || code != 0 {
		t.Error(kind, code)
	}
}

// known is what an expression may name.
type known struct {
	calls []callee
	vars  []impl.TreeArg
}

type callee struct {
	mod string
	sig impl.FaceSig
}

func knownOf(m impl.TreeMod, faces []impl.TypeFace) known {
	var k known
	add := func(mod, name string) {
		if s, ok := plainFind(m, faces, mod, name); ok {
			k.calls = append(k.calls, callee{mod, s})
		}
	}
	for _, f := range m.Funs {
		add("", f.Name)
	}
	for _, face := range faces {
		for _, s := range face.Sigs {
			add(face.Mod, s.Name)
		}
	}
	return k
}

func (k known) with(name string, kind int) known {
	k.vars = append(slices.Clone(k.vars), impl.TreeArg{Name: name, Type: kind})
	return k
}

// typedLeaf is an expression of this type without parts.
func typedLeaf(r *rand.Rand, k known, want int) impl.TreeExpr {
	var fit []string
	for i, v := range k.vars {
		hides := slices.ContainsFunc(k.vars[i+1:], func(o impl.TreeArg) bool { return o.Name == v.Name })
		if v.Type == want && !hides {
			fit = append(fit, v.Name)
		}
	}
	if len(fit) > 0 && r.Intn(3) > 0 {
		return variable(fit[r.Intn(len(fit))])
	}
	return []impl.TreeExpr{num(r.Intn(9) - 2), flag(r.Intn(2)), list()}[want-1]
}

// typedHead is an expression of this type without its parts, and their types; a leaf, if there is none of its sort.
func typedHead(r *rand.Rand, k known, want int) (impl.TreeExpr, []int) {
	switch r.Intn(7) {
	case 0, 1:
		for {
			word := strings.Fields(primWords)[r.Intn(16)]
			if args, own := plainPrim(word); own == want {
				return prim(word), args
			}
		}
	case 2:
		return choice(), []int{2, want, want}
	case 3:
		name := randomName(r)
		if len(k.vars) > 0 && r.Intn(2) == 0 {
			name = k.vars[r.Intn(len(k.vars))].Name
		}
		return let(name), []int{1 + r.Intn(3), want}
	case 4, 5:
		for range 5 {
			if len(k.calls) == 0 {
				break
			}
			if c := k.calls[r.Intn(len(k.calls))]; c.sig.Type == want {
				return call(c.mod, c.sig.Name), c.sig.Args
			}
		}
	case 6:
		if want == 3 {
			return list(), slices.Repeat([]int{1}, r.Intn(9))
		}
	}
	return typedLeaf(r, k, want), nil
}

// typedExpr is an expression of this type, of at most so many expressions, at most so deep.
func typedExpr(r *rand.Rand, k known, want, nodes, depth int) impl.TreeExpr {
	e, parts := typedHead(r, k, want)
	if len(parts) >= nodes || len(parts) > 0 && depth == 1 {
		return typedLeaf(r, k, want)
	}
	for i, part := range parts {
		inner := k
		if e.Kind == impl.TreeLet && i == 1 {
			inner = k.with(e.Name, parts[0])
		}
		e.Kids = append(e.Kids, typedExpr(r, inner, part, (nodes-1)/len(parts), depth-1))
	}
	return e
}

// typedMod is a module that is right by these faces.
func typedMod(r *rand.Rand) (impl.TreeMod, []impl.TypeFace) {
	var m impl.TreeMod
	var faces []impl.TypeFace
	for _, mod := range randomNames(r, 6) {
		faces = append(faces, impl.TypeFace{Mod: mod, Sigs: randomFace(r)})
		if len(m.Uses) < 4 && r.Intn(3) > 0 {
			m.Uses = append(m.Uses, mod)
		}
	}
	r.Shuffle(len(faces), func(i, j int) { faces[i], faces[j] = faces[j], faces[i] })
	for _, name := range randomNames(r, 8) {
		f := impl.TreeFun{Name: name, Pub: r.Intn(2) == 0, Type: 1 + r.Intn(3)}
		for _, arg := range randomNames(r, 4) {
			f.Args = append(f.Args, impl.TreeArg{Name: arg, Type: 1 + r.Intn(3)})
		}
		m.Funs = append(m.Funs, f)
	}
	k := knownOf(m, faces)
	size := 150 / (len(m.Funs) + 1)
	for i, f := range m.Funs {
		inner := k
		inner.vars = f.Args
		m.Funs[i].Body = typedExpr(r, inner, f.Type, size, 1+r.Intn(16))
	}
	if r.Intn(3) > 0 {
		m.Main = []impl.TreeExpr{typedExpr(r, k, 1+r.Intn(3), size, 1+r.Intn(16))}
	}
	return m, faces
}

// slipped is an expression with one part anywhere in it another one, right as most are; it may have another type.
func slipped(r *rand.Rand, k known, e impl.TreeExpr) impl.TreeExpr {
	e.Kids = slices.Clone(e.Kids)
	if len(e.Kids) > 0 && r.Intn(4) > 0 {
		i := r.Intn(len(e.Kids))
		e.Kids[i] = slipped(r, k, e.Kids[i])
		return e
	}
	switch n := r.Intn(8); {
	case n == 0 && e.Kind == impl.TreeCall:
		e.Mod = randomName(r)
	case n == 1 && e.Kind == impl.TreeCall && len(e.Kids) < 4:
		e.Kids = append(e.Kids, typedLeaf(r, k, 1+r.Intn(3)))
	case n <= 2 && e.Kind == impl.TreeCall && len(e.Kids) > 0:
		e.Kids = e.Kids[1:]
	case n <= 3 && e.Name != "" && e.Kind != impl.TreePrim:
		e.Name = randomName(r)
	case n == 4:
		return variable(randomName(r))
	case n == 5 && len(e.Kids) > 1:
		slices.Reverse(e.Kids)
	case n == 6:
		return randomExpr(r, 4, 2)
	default:
		return typedLeaf(r, k, 1+r.Intn(3))
	}
	return e
}

// P7: an expression has one type, or one code, by whichever way it is found.
func TestTypeExprRandom(t *testing.T) {
	r := rand.New(rand.NewSource(18))
	codes := map[int]int{}
	for range 5000 {
		m, faces := typedMod(r)
		k := knownOf(m, faces)
		for _, arg := range randomNames(r, 6) {
			k = k.with(arg, 1+r.Intn(3))
			if r.Intn(3) == 0 {
				k = k.with(arg, 1+r.Intn(3))
			}
		}
		want := 1 + r.Intn(3)
		e := typedExpr(r, k, want, 1+r.Intn(150), 1+r.Intn(16))
		if kind, code := checkExpr(t, "typed", m, faces, k.vars, e); kind != want || code != 0 {
			t.Fatalf("%s: %d, %d; want %d", impl.TreePrint(mainOf(e)), kind, code, want)
		}
		for range 4 {
			e = slipped(r, k, e)
			kind, code := checkExpr(t, "slipped", m, faces, k.vars, e)
			if again, c := impl.TypeExpr(m, faces, k.vars, e); again != kind || c != code {
				t.Fatal("it answers twice")
			}
			if kind < 0 || kind > 3 || code < 0 || code > 5 || (kind == 0) == (code == 0) {
				t.Fatal("neither a type nor a code", kind, code)
			}
			codes[code]++
		}
		e = randomExpr(r, 1+r.Intn(150), 1+r.Intn(16))
		_, code := checkExpr(t, "random", m, faces, k.vars, e)
		codes[code]++
		checkExpr(t, "turned", m, faces, k.vars, turnedExpr(r, e))
	}
	for _, code := range []int{0, impl.TypeName, impl.TypeArity, impl.TypeKind} {
		if codes[code] < 500 {
			t.Error(codes)
		}
	}
}

// P7: more variables ahead and more faces behind turn nothing where there was no code.
func TestTypeExprMore(t *testing.T) {
	r := rand.New(rand.NewSource(19))
	turned, right := 0, 0
	for range 5000 {
		m, faces := typedMod(r)
		k := knownOf(m, faces)
		for _, arg := range randomNames(r, 5) {
			k = k.with(arg, 1+r.Intn(3))
		}
		e := slipped(r, k, typedExpr(r, k, 1+r.Intn(3), 1+r.Intn(80), 1+r.Intn(16)))
		kind, code := impl.TypeExpr(m, faces, k.vars, e)
		var ahead []impl.TreeArg
		for _, v := range k.vars {
			ahead = append(ahead, impl.TreeArg{Name: v.Name, Type: r.Intn(5)})
		}
		for range r.Intn(5) {
			ahead = append(ahead, impl.TreeArg{Name: randomName(r), Type: 1 + r.Intn(3)})
		}
		behind := slices.Clone(faces)
		for range r.Intn(5) {
			behind = append(behind, impl.TypeFace{Mod: randomName(r), Sigs: randomFace(r)})
		}
		for _, face := range faces {
			behind = append(behind, impl.TypeFace{Mod: face.Mod, Sigs: turnedFace(r, face.Sigs)})
		}
		vars := append(ahead, k.vars...)
		more, moreCode := checkExpr(t, "more", m, behind, vars, e)
		if code == 0 {
			if right++; more != kind || moreCode != 0 {
				t.Fatalf("%s: %d turns to %d, %d", impl.TreePrint(mainOf(e)), kind, more, moreCode)
			}
		} else if moreCode != code {
			turned++
		}
		fault := impl.TypeMod(m, faces)
		if fault != (impl.TypeFault{}) || impl.TypeMod(m, behind) != fault {
			t.Fatalf("%s: %v", impl.TreePrint(m), fault)
		}
	}
	if right < 1000 || turned < 5 {
		t.Error(right, turned)
	}
}

// sameVars holds lists of variables against each other.
func sameVars(a, b []impl.TreeArg) bool {
	return reflect.DeepEqual(append([]impl.TreeArg(nil), a...), append([]impl.TreeArg(nil), b...))
}
