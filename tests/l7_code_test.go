package tests

import (
	"maps"
	"reflect"
	"slices"
	"strconv"
	"strings"
	"testing"

	"loop.example/smithy/impl"
)

// codeWords are the words of instructions, each at the place ahead of its Op.
const codeWords = "push flag load keep prim jump unless call back row"

// codePrims are the primitives that are instructions, each at the place ahead of its number.
const codePrims = "+ - * / % < <= = not at len put join print"

func TestCodeLimits(t *testing.T) {
	got := []int{impl.CodePush, impl.CodeFlag, impl.CodeLoad, impl.CodeKeep, impl.CodePrim, impl.CodeJump, impl.CodeUnless, impl.CodeCall, impl.CodeBack, impl.CodeRow}
	if !slices.Equal(got, []int{1, 2, 3, 4, 5, 6, 7, 8, 9, 10}) || impl.CodePrims != 14 || len(strings.Fields(codePrims)) != 14 {
		t.Error(got, impl.CodePrims)
	}
}

func shortcut(e impl.TreeExpr) bool {
	return e.Kind == impl.TreePrim && (e.Name == "and" || e.Name == "or")
}

// plainSize is how many instructions an expression has.
func plainSize(e impl.TreeExpr) int {
	size := 1
	for _, kid := range e.Kids {
		size += plainSize(kid)
	}
	if e.Kind == impl.TreeIf {
		size++
	} else if shortcut(e) {
		size += 2
	}
	return size
}

// plainWriter writes code by another way than the program: as words, a call with the name that it
// calls; each place is counted ahead, by the sizes of what is yet to be written.
type plainWriter struct {
	lines []string
	most  int
}

func (w *plainWriter) line(word string, a int) {
	w.lines = append(w.lines, word+" "+strconv.Itoa(a))
}

// leap writes a line that goes on behind so many others.
func (w *plainWriter) leap(word string, over int) { w.line(word, len(w.lines)+1+over) }

func (w *plainWriter) write(e impl.TreeExpr, slots map[string]int, count int) {
	w.most = max(w.most, count)
	switch {
	case e.Kind == impl.TreeNum:
		w.line("push", e.Num)
	case e.Kind == impl.TreeFlag:
		w.line("flag", e.Num)
	case e.Kind == impl.TreeVar:
		w.line("load", slots[e.Name])
	case e.Kind == impl.TreeLet:
		w.write(e.Kids[0], slots, count)
		w.line("keep", count)
		inner := maps.Clone(slots)
		inner[e.Name] = count
		w.write(e.Kids[1], inner, count+1)
	case e.Kind == impl.TreeIf:
		w.write(e.Kids[0], slots, count)
		w.leap("unless", plainSize(e.Kids[1])+1)
		w.write(e.Kids[1], slots, count)
		w.leap("jump", plainSize(e.Kids[2]))
		w.write(e.Kids[2], slots, count)
	case shortcut(e) && e.Name == "and":
		w.write(e.Kids[0], slots, count)
		w.leap("unless", plainSize(e.Kids[1])+1)
		w.write(e.Kids[1], slots, count)
		w.leap("jump", 1)
		w.line("flag", 0)
	case shortcut(e):
		w.write(e.Kids[0], slots, count)
		w.leap("unless", 2)
		w.line("flag", 1)
		w.leap("jump", plainSize(e.Kids[1]))
		w.write(e.Kids[1], slots, count)
	default:
		for _, kid := range e.Kids {
			w.write(kid, slots, count)
		}
		w.last(e)
	}
}

// last writes what stands behind the Kids.
func (w *plainWriter) last(e impl.TreeExpr) {
	switch e.Kind {
	case impl.TreePrim:
		w.line("prim", 1+slices.Index(strings.Fields(codePrims), e.Name))
	case impl.TreeList:
		w.line("row", len(e.Kids))
	case impl.TreeCall:
		w.lines = append(w.lines, "call "+e.Mod+"."+e.Name)
	}
}

// plainBody is a function with its code as words.
func plainBody(f impl.TreeFun) (impl.CodeFun, []string) {
	out := impl.CodeFun{Name: f.Name, Pub: f.Pub, Type: f.Type}
	slots := map[string]int{}
	for i, arg := range f.Args {
		out.Args = append(out.Args, arg.Type)
		slots[arg.Name] = i
	}
	w := plainWriter{}
	w.write(f.Body, slots, len(f.Args))
	w.line("back", 0)
	out.Slots = w.most
	return out, w.lines
}

// plainCode is an object by another way than the program.
func plainCode(m impl.TreeMod, faces []impl.TypeFace) (impl.CodeObj, bool) {
	if plainMod(m, faces).Code != 0 {
		return impl.CodeObj{}, false
	}
	funs := slices.Clone(m.Funs)
	for _, e := range m.Main {
		kind, _ := plainType(m, faces, nil, e)
		funs = append(funs, impl.TreeFun{Name: "main", Type: kind, Body: e})
	}
	var o impl.CodeObj
	for _, f := range funs {
		fun, lines := plainBody(f)
		for _, line := range lines {
			word, a, _ := strings.Cut(line, " ")
			ins := impl.CodeIns{Op: 1 + slices.Index(strings.Fields(codeWords), word)}
			if mod, name, named := strings.Cut(a, "."); named {
				ref := impl.CodeRef{Mod: mod, Name: name}
				if !slices.Contains(o.Refs, ref) {
					o.Refs = append(o.Refs, ref)
				}
				ins.A = slices.Index(o.Refs, ref)
			} else {
				ins.A, _ = strconv.Atoi(a)
			}
			fun.Code = append(fun.Code, ins)
		}
		o.Funs = append(o.Funs, fun)
	}
	return o, true
}

// settledObj is an object with nil in the place of each empty list.
func settledObj(o impl.CodeObj) impl.CodeObj {
	out := impl.CodeObj{Refs: append([]impl.CodeRef(nil), o.Refs...)}
	for _, f := range o.Funs {
		f.Args = append([]int(nil), f.Args...)
		f.Code = append([]impl.CodeIns(nil), f.Code...)
		out.Funs = append(out.Funs, f)
	}
	return out
}

func sameObj(a, b impl.CodeObj) bool { return reflect.DeepEqual(settledObj(a), settledObj(b)) }

// listed is code as words.
func listed(code []impl.CodeIns) string {
	var lines []string
	for _, ins := range code {
		word := "nothing"
		if 1 <= ins.Op && ins.Op <= 10 {
			word = strings.Fields(codeWords)[ins.Op-1]
		}
		lines = append(lines, word+" "+strconv.Itoa(ins.A))
	}
	return strings.Join(lines, ", ")
}

// checkCode holds CodeMake against the other way, and tells what it answers.
func checkCode(t *testing.T, what string, m impl.TreeMod, faces []impl.TypeFace) (impl.CodeObj, bool) {
	t.Helper()
	got, ok := impl.CodeMake(m, faces)
	want, wantOk := plainCode(m, faces)
	if ok != wantOk || !sameObj(got, want) {
		t.Fatalf("%s: CodeMake(%s) = %v, %v; want %v, %v (%v)", what, impl.TreePrint(m), got, ok, want, wantOk, faces)
	}
	if !impl.CodeSame(got, want) || !impl.CodeSame(want, got) {
		t.Fatalf("%s: CodeSame says that %v is not itself", what, got)
	}
	return got, ok
}

// codeFaces are the faces by which the bodies of these tests are right.
func codeFaces(t *testing.T) []impl.TypeFace {
	return []impl.TypeFace{faceOf(t, "lib", "f(int)int", "g()int", "go()bool", "sum(row)int"), faceOf(t, "other", "g()int", "sum(row)row")}
}

// codeBody is the function f with these parameters and this body, of a module with
// functions g and h, that uses lib and other; with what it calls.
func codeBody(t *testing.T, args, text string) (impl.CodeFun, []impl.CodeRef) {
	t.Helper()
	const head, tail = "(use lib other)(fun g () int 1)(fun h ((x row)) bool true)", ")"
	for _, kind := range []string{"int", "bool", "row"} {
		m := readMod(t, head+"(fun f ("+args+") "+kind+" "+text+tail)
		if impl.TypeMod(m, codeFaces(t)).Code == 0 {
			o, _ := checkCode(t, text, m, codeFaces(t))
			return o.Funs[2], o.Refs
		}
	}
	t.Fatalf("%s is not right", text)
	return impl.CodeFun{}, nil
}

// body is what the code of a body is to be, without the `back` that ends it.
type body struct {
	text  string
	slots int
	code  string
}

func checkBodies(t *testing.T, args string, list []body) {
	t.Helper()
	for _, c := range list {
		f, _ := codeBody(t, args, c.text)
		if got := listed(f.Code); f.Slots != c.slots || got != c.code+", back 0" {
			t.Errorf("(%s) %s: %d slots, %s; want %d, %s, back 0", args, c.text, f.Slots, got, c.slots, c.code)
		}
	}
}

// The document's example, whole.
func TestCodeExample(t *testing.T) {
	m := readMod(t, "( fun f ( ( n int ) ) int ( if ( = n 0 ) 1 ( let m ( - n 1 ) ( * n ( f m ) ) ) ) )")
	got, ok := checkCode(t, "example", m, nil)
	want := impl.CodeObj{Refs: []impl.CodeRef{{Name: "f"}}, Funs: []impl.CodeFun{{Name: "f", Args: []int{1}, Type: 1, Slots: 2, Code: []impl.CodeIns{
		{Op: 3, A: 0}, {Op: 1, A: 0}, {Op: 5, A: 8}, {Op: 7, A: 6}, {Op: 1, A: 1}, {Op: 6, A: 14}, {Op: 3, A: 0}, {Op: 1, A: 1}, {Op: 5, A: 2}, {Op: 4, A: 1}, {Op: 3, A: 0}, {Op: 3, A: 1}, {Op: 8, A: 0}, {Op: 5, A: 3}, {Op: 9, A: 0},
	}}}}
	if !ok || !sameObj(got, want) {
		t.Error(got, ok)
	}
	const words = "load 0, push 0, prim 8, unless 6, push 1, jump 14, load 0, push 1, prim 2, keep 1, load 0, load 1, call 0, prim 3, back 0"
	if listed(got.Funs[0].Code) != words {
		t.Error(listed(got.Funs[0].Code))
	}
}

// A body of every Kind of expression, and of every primitive.
func TestCodeKinds(t *testing.T) {
	checkBodies(t, "(i int)(b bool)(r row)", []body{
		{"0", 3, "push 0"}, {"7", 3, "push 7"}, {"-7", 3, "push -7"}, {"99999999999999999", 3, "push 99999999999999999"}, {"-99999999999999999", 3, "push -99999999999999999"},
		{"false", 3, "flag 0"}, {"true", 3, "flag 1"}, {"i", 3, "load 0"}, {"b", 3, "load 1"}, {"r", 3, "load 2"},
		{"(+ i 2)", 3, "load 0, push 2, prim 1"}, {"(- 2 i)", 3, "push 2, load 0, prim 2"}, {"(* i i)", 3, "load 0, load 0, prim 3"}, {"(/ i 0)", 3, "load 0, push 0, prim 4"}, {"(% -1 i)", 3, "push -1, load 0, prim 5"},
		{"(< i 2)", 3, "load 0, push 2, prim 6"}, {"(<= 2 i)", 3, "push 2, load 0, prim 7"}, {"(= i i)", 3, "load 0, load 0, prim 8"}, {"(not b)", 3, "load 1, prim 9"},
		{"(at r i)", 3, "load 2, load 0, prim 10"}, {"(len r)", 3, "load 2, prim 11"}, {"(put r i 5)", 3, "load 2, load 0, push 5, prim 12"}, {"(join r (row))", 3, "load 2, row 0, prim 13"}, {"(print i)", 3, "load 0, prim 14"},
		{"(if b 1 2)", 3, "load 1, unless 4, push 1, jump 5, push 2"}, {"(if true r (row i))", 3, "flag 1, unless 4, load 2, jump 6, load 0, row 1"},
		{"(and b false)", 3, "load 1, unless 4, flag 0, jump 5, flag 0"}, {"(and (not b) (< i 1))", 3, "load 1, prim 9, unless 7, load 0, push 1, prim 6, jump 8, flag 0"},
		{"(or b false)", 3, "load 1, unless 4, flag 1, jump 5, flag 0"}, {"(or (not b) (< i 1))", 3, "load 1, prim 9, unless 5, flag 1, jump 8, load 0, push 1, prim 6"},
		{"(let x 5 x)", 4, "push 5, keep 3, load 3"}, {"(let x r i)", 4, "load 2, keep 3, load 0"},
		{"(g)", 3, "call 0"}, {"(h r)", 3, "load 2, call 0"}, {"(f i b r)", 3, "load 0, load 1, load 2, call 0"}, {"(lib.g)", 3, "call 0"}, {"(lib.sum (other.sum r))", 3, "load 2, call 0, call 1"},
		{"(row)", 3, "row 0"}, {"(row i)", 3, "load 0, row 1"}, {"(row 1 i 3)", 3, "push 1, load 0, push 3, row 3"}, {"(row 8 7 6 5 4 3 2 1)", 3, "push 8, push 7, push 6, push 5, push 4, push 3, push 2, push 1, row 8"},
		{"(row (len (row)) (at (row 1) 0))", 3, "row 0, prim 11, push 1, row 1, push 0, prim 10, row 2"},
		{"(+ (* 1 2) (- 3 4))", 3, "push 1, push 2, prim 3, push 3, push 4, prim 2, prim 1"}, {"(print (print (print 1)))", 3, "push 1, prim 14, prim 14, prim 14"},
	})
	checkBodies(t, "", []body{
		{"0", 0, "push 0"}, {"-1", 0, "push -1"}, {"true", 0, "flag 1"}, {"(row)", 0, "row 0"}, {"(g)", 0, "call 0"}, {"(f)", 0, "call 0"}, {"(let f 1 f)", 1, "push 1, keep 0, load 0"},
	})
	// Each primitive that is an instruction has its own number, in the document's order.
	for place, word := range strings.Fields(codePrims) {
		args, _ := plainPrim(word)
		e := word
		for _, kind := range args {
			e += []string{"", " 1", " true", " (row)"}[kind]
		}
		f, _ := codeBody(t, "", "("+e+")")
		if got := f.Code[len(f.Code)-2]; got != (impl.CodeIns{Op: impl.CodePrim, A: place + 1}) {
			t.Error(word, got)
		}
	}
}

// The slot of each variable, and how many there are.
func TestCodeSlots(t *testing.T) {
	checkBodies(t, "", []body{
		// A let within the first kid of another one, within the second, within both.
		{"(let x (let y 1 y) x)", 1, "push 1, keep 0, load 0, keep 0, load 0"},
		{"(let x 1 (let y 2 y))", 2, "push 1, keep 0, push 2, keep 1, load 1"},
		{"(let x 1 (let y 2 x))", 2, "push 1, keep 0, push 2, keep 1, load 0"},
		{"(let x (let y 1 y) (let z 2 (+ x z)))", 2, "push 1, keep 0, load 0, keep 0, push 2, keep 1, load 0, load 1, prim 1"},
		{"(let x (let y 1 (let z 2 (+ y z))) x)", 2, "push 1, keep 0, push 2, keep 1, load 0, load 1, prim 1, keep 0, load 0"},
		{"(let x (let y (let z 1 z) y) x)", 1, "push 1, keep 0, load 0, keep 0, load 0, keep 0, load 0"},
		{"(let x 1 (let y (let z 2 z) (+ x y)))", 2, "push 1, keep 0, push 2, keep 1, load 1, keep 1, load 0, load 1, prim 1"},
		{"(let x 1 (let y 2 (let z 3 (let w 4 (row x y z w)))))", 4, "push 1, keep 0, push 2, keep 1, push 3, keep 2, push 4, keep 3, load 0, load 1, load 2, load 3, row 4"},
		// One let behind another: they do not stand beside each other.
		{"(+ (let x 1 x) (let y 2 y))", 1, "push 1, keep 0, load 0, push 2, keep 0, load 0, prim 1"},
		{"(row (let x 1 x) (let x 2 x) (let y 3 y))", 1, "push 1, keep 0, load 0, push 2, keep 0, load 0, push 3, keep 0, load 0, row 3"},
		{"(put (let x (row) x) (let y 2 y) (let z 3 z))", 1, "row 0, keep 0, load 0, push 2, keep 0, load 0, push 3, keep 0, load 0, prim 12"},
		{"(+ (let x 1 (let y 2 y)) (let z 3 z))", 2, "push 1, keep 0, push 2, keep 1, load 1, push 3, keep 0, load 0, prim 1"},
		{"(+ (let z 3 z) (let x 1 (let y 2 y)))", 2, "push 3, keep 0, load 0, push 1, keep 0, push 2, keep 1, load 1, prim 1"},
		{"(if (let x true x) (let y 1 y) (let z 2 z))", 1, "flag 1, keep 0, load 0, unless 8, push 1, keep 0, load 0, jump 11, push 2, keep 0, load 0"},
		{"(and (let x true x) (let y false y))", 1, "flag 1, keep 0, load 0, unless 8, flag 0, keep 0, load 0, jump 9, flag 0"},
		{"(or (let x true x) (let y false y))", 1, "flag 1, keep 0, load 0, unless 6, flag 1, jump 9, flag 0, keep 0, load 0"},
		{"(let x 1 (+ (let y 2 y) (let z 3 (+ x z))))", 2, "push 1, keep 0, push 2, keep 1, load 1, push 3, keep 1, load 0, load 1, prim 1, prim 1"},
		// A name that is bound twice: the last one counts, and only where it is known.
		{"(let x 1 (let x 2 x))", 2, "push 1, keep 0, push 2, keep 1, load 1"},
		{"(let x 1 (let x (+ x 1) x))", 2, "push 1, keep 0, load 0, push 1, prim 1, keep 1, load 1"},
		{"(let x 1 (+ (let x 2 x) x))", 2, "push 1, keep 0, push 2, keep 1, load 1, load 0, prim 1"},
		{"(let x 1 (let y 2 (let x 3 (let y 4 (row x y)))))", 4, "push 1, keep 0, push 2, keep 1, push 3, keep 2, push 4, keep 3, load 2, load 3, row 2"},
		{"(let x true (let x 1 (let x (row x) x)))", 3, "flag 1, keep 0, push 1, keep 1, load 1, row 1, keep 2, load 2"},
		{"(let x (let x 1 x) x)", 1, "push 1, keep 0, load 0, keep 0, load 0"},
		{"(let x (let x 1 (let x 2 x)) x)", 2, "push 1, keep 0, push 2, keep 1, load 1, keep 0, load 0"},
	})
	checkBodies(t, "(x int)(y bool)", []body{
		// Parameters alone, and what stands behind them.
		{"x", 2, "load 0"}, {"y", 2, "load 1"}, {"5", 2, "push 5"}, {"(let z 1 (+ x z))", 3, "push 1, keep 2, load 0, load 2, prim 1"},
		{"(f (let z 1 z) (let w y w))", 3, "push 1, keep 2, load 2, load 1, keep 2, load 2, call 0"},
		// A let with the name of a parameter has a slot of its own.
		{"(let x 1 x)", 3, "push 1, keep 2, load 2"}, {"(let x y x)", 3, "load 1, keep 2, load 2"}, {"(let y x y)", 3, "load 0, keep 2, load 2"}, {"(let x (+ x 1) x)", 3, "load 0, push 1, prim 1, keep 2, load 2"},
		{"(+ (let x 1 x) x)", 3, "push 1, keep 2, load 2, load 0, prim 1"}, {"(let x y (let y 1 (if x y 2)))", 4, "load 1, keep 2, push 1, keep 3, load 2, unless 8, load 3, jump 9, push 2"},
		{"(if y (let y 1 (let y 2 y)) (let y x y))", 4, "load 1, unless 8, push 1, keep 2, push 2, keep 3, load 3, jump 11, load 0, keep 2, load 2"},
	})
	checkBodies(t, "(a int)(b int)(c int)(d int)", []body{
		{"1", 4, "push 1"}, {"d", 4, "load 3"}, {"(row d c b a)", 4, "load 3, load 2, load 1, load 0, row 4"}, {"(f d a c b)", 4, "load 3, load 0, load 2, load 1, call 0"},
		{"(let e (f a b c d) (- e d))", 5, "load 0, load 1, load 2, load 3, call 0, keep 4, load 4, load 3, prim 2"},
	})
	// As many variables as a depth allows.
	e := variable("x")
	for range 15 {
		e = let("x", num(1), e)
	}
	o, _ := checkCode(t, "deep", mainOf(e), nil)
	if o.Funs[0].Slots != 15 || o.Funs[0].Code[30] != (impl.CodeIns{Op: impl.CodeLoad, A: 14}) {
		t.Error(o)
	}
}

// Where each `unless` and `jump` goes, one of them within another.
func TestCodeForks(t *testing.T) {
	checkBodies(t, "(a bool)(b bool)(c bool)", []body{
		{"(if (if a b c) 1 2)", 3, "load 0, unless 4, load 1, jump 5, load 2, unless 8, push 1, jump 9, push 2"},
		{"(if a (if b 1 2) 3)", 3, "load 0, unless 8, load 1, unless 6, push 1, jump 7, push 2, jump 9, push 3"},
		{"(if a 1 (if b 2 3))", 3, "load 0, unless 4, push 1, jump 9, load 1, unless 8, push 2, jump 9, push 3"},
		{"(if (and a b) 1 2)", 3, "load 0, unless 4, load 1, jump 5, flag 0, unless 8, push 1, jump 9, push 2"},
		{"(if (or a b) 1 2)", 3, "load 0, unless 4, flag 1, jump 5, load 1, unless 8, push 1, jump 9, push 2"},
		{"(if a (and b c) false)", 3, "load 0, unless 8, load 1, unless 6, load 2, jump 7, flag 0, jump 9, flag 0"},
		{"(if a true (or b c))", 3, "load 0, unless 4, flag 1, jump 9, load 1, unless 8, flag 1, jump 9, load 2"},
		{"(and (and a b) c)", 3, "load 0, unless 4, load 1, jump 5, flag 0, unless 8, load 2, jump 9, flag 0"},
		{"(and a (and b c))", 3, "load 0, unless 8, load 1, unless 6, load 2, jump 7, flag 0, jump 9, flag 0"},
		{"(and (or a b) c)", 3, "load 0, unless 4, flag 1, jump 5, load 1, unless 8, load 2, jump 9, flag 0"},
		{"(and a (or b c))", 3, "load 0, unless 8, load 1, unless 6, flag 1, jump 7, load 2, jump 9, flag 0"},
		{"(and a (if b c true))", 3, "load 0, unless 8, load 1, unless 6, load 2, jump 7, flag 1, jump 9, flag 0"},
		{"(and (if a b c) a)", 3, "load 0, unless 4, load 1, jump 5, load 2, unless 8, load 0, jump 9, flag 0"},
		{"(or (or a b) c)", 3, "load 0, unless 4, flag 1, jump 5, load 1, unless 8, flag 1, jump 9, load 2"},
		{"(or a (or b c))", 3, "load 0, unless 4, flag 1, jump 9, load 1, unless 8, flag 1, jump 9, load 2"},
		{"(or (and a b) c)", 3, "load 0, unless 4, load 1, jump 5, flag 0, unless 8, flag 1, jump 9, load 2"},
		{"(or a (and b c))", 3, "load 0, unless 4, flag 1, jump 9, load 1, unless 8, load 2, jump 9, flag 0"},
		{"(or (if a b c) (if b c a))", 3, "load 0, unless 4, load 1, jump 5, load 2, unless 8, flag 1, jump 13, load 1, unless 12, load 2, jump 13, load 0"},
		// The last of a body, and not.
		{"(if a b c)", 3, "load 0, unless 4, load 1, jump 5, load 2"}, {"(not (if a b c))", 3, "load 0, unless 4, load 1, jump 5, load 2, prim 9"}, {"(let x (if a b c) x)", 4, "load 0, unless 4, load 1, jump 5, load 2, keep 3, load 3"},
		{"(let x a (if x b c))", 4, "load 0, keep 3, load 3, unless 6, load 1, jump 7, load 2"}, {"(f (and a b) (or a b) (if a b c))", 3, "load 0, unless 4, load 1, jump 5, flag 0, load 0, unless 9, flag 1, jump 10, load 1, load 0, unless 14, load 1, jump 15, load 2, call 0"},
		{"(row (if a 1 2) (if b 3 4))", 3, "load 0, unless 4, push 1, jump 5, push 2, load 1, unless 9, push 3, jump 10, push 4, row 2"},
	})
}

// forksWithin calls with each way to have three truths under two forks, or three.
func forksWithin(call func(e impl.TreeExpr)) {
	a, b, c := variable("a"), variable("b"), variable("c")
	forks := []impl.TreeExpr{prim("and", a, b), prim("and", b, c), prim("or", a, c), prim("or", b, a), choice(a, b, c), choice(c, a, b)}
	for _, outer := range forks {
		call(outer)
		for i := range outer.Kids {
			for _, inner := range forks {
				e := outer
				e.Kids = slices.Clone(e.Kids)
				e.Kids[i] = inner
				call(e)
				for j := range outer.Kids {
					for k := range inner.Kids {
						deep := e
						deep.Kids = slices.Clone(e.Kids)
						deep.Kids[i].Kids = slices.Clone(inner.Kids)
						deep.Kids[i].Kids[k] = forks[(i+j+k)%len(forks)]
						if j != i {
							deep.Kids[j] = forks[(i+2*j+k)%len(forks)]
						}
						call(deep)
					}
				}
			}
		}
	}
}

// Whatever stands within whatever, it does what it means, by each truths there are.
func TestCodeForksDo(t *testing.T) {
	asked := 0
	forksWithin(func(e impl.TreeExpr) {
		m := readMod(t, "(fun f ((a bool)(b bool)(c bool)) bool true)")
		m.Funs[0].Body = e
		o, ok := checkCode(t, "forks", m, nil)
		if !ok {
			t.Fatal(impl.TreePrint(m))
		}
		mods := []impl.MeanMod{{Name: "m", Mod: m}}
		for n := range 8 {
			args := []impl.MeanVal{boolOf(n&1 > 0), boolOf(n&2 > 0), boolOf(n&4 > 0)}
			want, wantEnd := impl.MeanCall(mods, "m", "f", args, 1000)
			got, end := codeCalled(map[string]impl.CodeObj{"m": o}, "m", 0, args, 1000)
			if asked++; !sameVal(got, want) || end.End != impl.MeanHalt || wantEnd.End != impl.MeanHalt {
				t.Fatalf("%s of %v is %v, %v; want %v: %s", impl.TreePrint(m), args, got, end, want, listed(o.Funs[0].Code))
			}
		}
	})
	if asked < 4000 {
		t.Error(asked)
	}
}

// What is called is told once, in the order in which the calls stand in the code.
func TestCodeRefs(t *testing.T) {
	for _, c := range []struct{ text, refs, code string }{
		{"(main 1)", "", "push 1"}, {"(main (g))", ".g", "call 0"}, {"(main (lib.g))", "lib.g", "call 0"}, {"(main (+ (g) (g)))", ".g", "call 0, call 0, prim 1"},
		// An own function and another module's with the same name.
		{"(main (+ (g) (lib.g)))", ".g lib.g", "call 0, call 1, prim 1"}, {"(main (+ (lib.g) (g)))", "lib.g .g", "call 0, call 1, prim 1"}, {"(main (row (lib.g) (g) (other.g) (lib.g) (other.g) (g)))", "lib.g .g other.g", "call 0, call 1, call 2, call 0, call 2, call 1, row 6"},
		// Calls among the Kids stand ahead of the call.
		{"(main (f (g)))", ".g .f", "call 0, call 1"}, {"(main (f (lib.f (g))))", ".g lib.f .f", "call 0, call 1, call 2"}, {"(main (f (f (f 1))))", ".f", "push 1, call 0, call 0, call 0"}, {"(main (lib.sum (row (f 1) (g))))", ".f .g lib.sum", "push 1, call 0, call 1, row 2, call 2"},
		{"(main (let x (g) (f x)))", ".g .f", "call 0, keep 0, load 0, call 1"}, {"(main (if (lib.go) (f 1) (g)))", "lib.go .f .g", "call 0, unless 5, push 1, call 1, jump 6, call 2"}, {"(main (if (lib.go) (g) (g)))", "lib.go .g", "call 0, unless 4, call 1, jump 5, call 1"},
		{"(main (and (lib.go) (or (= (g) 1) (lib.go))))", "lib.go .g", "call 0, unless 10, call 1, push 1, prim 8, unless 8, flag 1, jump 9, call 0, jump 11, flag 0"},
	} {
		m := readMod(t, "(use other lib)(fun g () int 1)(fun f ((x int)) int x)"+c.text)
		o, ok := checkCode(t, c.text, m, codeFaces(t))
		var refs []string
		for _, ref := range o.Refs {
			refs = append(refs, ref.Mod+"."+ref.Name)
		}
		if got := strings.Join(refs, " "); !ok || got != c.refs || listed(o.Funs[2].Code) != c.code+", back 0" {
			t.Errorf("%s: %s; %s; want %s; %s", c.text, got, listed(o.Funs[2].Code), c.refs, c.code)
		}
	}
	// One place for one Mod and Name over all bodies, Main's too.
	m := readMod(t, "(use lib)(fun a () int (lib.g))(fun b () int (+ (a) (c)))(fun c () int (+ (lib.g) (+ (c) (lib.f (b)))))(main (row (c) (b) (a) (lib.f 1) (lib.g) (lib.sum (row))))")
	o, _ := checkCode(t, "several bodies", m, codeFaces(t))
	if want := []impl.CodeRef{{Mod: "lib", Name: "g"}, {Name: "a"}, {Name: "c"}, {Name: "b"}, {Mod: "lib", Name: "f"}, {Mod: "lib", Name: "sum"}}; !slices.Equal(o.Refs, want) {
		t.Error(o.Refs)
	}
	for i, want := range []string{"call 0", "call 1, call 2, prim 1", "call 0, call 2, call 3, call 4, prim 1, prim 1", "call 2, call 3, call 1, push 1, call 4, call 0, row 0, call 5, row 6"} {
		if got := listed(o.Funs[i].Code); got != want+", back 0" {
			t.Errorf("%d: %s", i, got)
		}
	}
}

// As many functions may be called as there are: 8 of each of 4 modules, and 8 of its own.
func TestCodeManyRefs(t *testing.T) {
	m := impl.TreeMod{Uses: names(4)}
	var faces []impl.TypeFace
	for _, name := range names(8) {
		m.Funs = append(m.Funs, impl.TreeFun{Name: name, Type: 1, Body: num(1)})
	}
	var want []impl.CodeRef
	for i, mod := range append([]string{""}, m.Uses...) {
		face := impl.TypeFace{Mod: mod}
		row := list()
		for _, name := range names(8) {
			face.Sigs = append(face.Sigs, sig(name, 1))
			row.Kids = append(row.Kids, call(mod, name))
			want = append(want, impl.CodeRef{Mod: mod, Name: name})
		}
		faces = append(faces, face)
		m.Funs[i].Body = prim("len", row)
	}
	o, ok := checkCode(t, "many", m, faces)
	if !ok || !slices.Equal(o.Refs, want) || len(o.Refs) != 40 {
		t.Error(o, ok)
	}
	// The first is called again, and still the first.
	m.Main = []impl.TreeExpr{list(call("d", "h"), call("", "a"))}
	if o, _ := checkCode(t, "many", m, faces); listed(o.Funs[8].Code) != "call 39, call 0, row 2, back 0" || len(o.Refs) != 40 {
		t.Error(o)
	}
}

// What is told of each function beside its code.
func TestCodeFuns(t *testing.T) {
	m := readMod(t, "(fun f () int 1)(pub g ((x bool)(y row)) row y)(fun h ((a int)(b int)(c bool)(d row)) bool (let e 1 c))(pub k () bool true)(main (row 1 2))")
	o, ok := checkCode(t, "heads", m, nil)
	want := impl.CodeObj{Funs: []impl.CodeFun{
		{Name: "f", Type: 1, Code: []impl.CodeIns{{Op: 1, A: 1}, {Op: 9}}},
		{Name: "g", Pub: true, Args: []int{2, 3}, Type: 3, Slots: 2, Code: []impl.CodeIns{{Op: 3, A: 1}, {Op: 9}}},
		{Name: "h", Args: []int{1, 1, 2, 3}, Type: 2, Slots: 5, Code: []impl.CodeIns{{Op: 1, A: 1}, {Op: 4, A: 4}, {Op: 3, A: 2}, {Op: 9}}},
		{Name: "k", Pub: true, Type: 2, Code: []impl.CodeIns{{Op: 2, A: 1}, {Op: 9}}},
		{Name: "main", Type: 3, Code: []impl.CodeIns{{Op: 1, A: 1}, {Op: 1, A: 2}, {Op: 10, A: 2}, {Op: 9}}},
	}}
	if !ok || !sameObj(o, want) {
		t.Error(o, ok)
	}
	// Main has whatever type its expression has, of an own function and of another module's.
	for text, kind := range map[string]int{"1": 1, "true": 2, "(row)": 3, "(f)": 1, "(g true (row))": 3, "(lib.go)": 2, "(lib.sum (row))": 1, "(other.sum (row))": 3, "(if true (f) 2)": 1, "(let x (row) (let y true y))": 2} {
		m := readMod(t, "(use lib other)(fun f () int 1)(pub g ((x bool)(y row)) row y)(main "+text+")")
		o, ok := checkCode(t, text, m, codeFaces(t))
		if last := o.Funs[len(o.Funs)-1]; !ok || last.Name != "main" || last.Pub || len(last.Args) != 0 || last.Type != kind {
			t.Error(text, o, ok)
		}
	}
	// No function and no Main; each alone; as many functions as there may be, and Main.
	for _, c := range []struct {
		text string
		want string
	}{{"", ""}, {"(use lib)", ""}, {"(use lib other)", ""}, {"(main 1)", "main"}, {"(fun f () int 1)", "f"}, {"(fun f () int 1)(main 1)", "f main"}, {"(fun b () int 1)(fun a () int 1)(main 1)", "b a main"}} {
		o, ok := checkCode(t, c.text, readMod(t, c.text), codeFaces(t))
		var got []string
		for _, f := range o.Funs {
			got = append(got, f.Name)
		}
		if !ok || strings.Join(got, " ") != c.want || len(o.Refs) != 0 {
			t.Error(c.text, o, ok)
		}
	}
	m = impl.TreeMod{Main: []impl.TreeExpr{num(8)}}
	for i, name := range names(8) {
		m.Funs = append(m.Funs, impl.TreeFun{Name: name, Type: 1, Body: num(i)})
	}
	o, ok = checkCode(t, "many", m, nil)
	if !ok || len(o.Funs) != 9 || o.Funs[8].Name != "main" {
		t.Fatal(o, ok)
	}
	for i, f := range o.Funs {
		if f.Code[0] != (impl.CodeIns{Op: impl.CodePush, A: i}) || len(f.Code) != 2 || f.Slots != 0 {
			t.Error(i, f)
		}
	}
}

// Where TypeMod has a code there is nothing.
func TestCodeWrong(t *testing.T) {
	nothing := func(what string, m impl.TreeMod, faces []impl.TypeFace) {
		t.Helper()
		if o, ok := impl.CodeMake(m, faces); ok || !sameObj(o, impl.CodeObj{}) {
			t.Errorf("%s: %v, %v", what, o, ok)
		}
	}
	faces := codeFaces(t)
	for _, text := range []string{
		// A use that is the Mod of no face, called or not.
		"(use nope)", "(use nope)(main 1)", "(use lib nope)(fun f () int 1)(main (f))", "(use lib other nope)", "(use nope)(main (nope.f))",
		// A fault in a function, the first, one within, the last, while all others are right.
		"(fun f () int x)(fun g () int 1)(main 1)", "(fun f () int 1)(fun g () int x)(fun h () int 1)", "(fun f () int 1)(fun g () bool 1)", "(fun f () int (f 1))", "(fun f () row (+ 1 true))", "(fun f () int (g))", "(fun f ((x int)) bool x)", "(pub f () int (if 1 2 3))", "(fun f ((x int)) int x)(fun g () int x)",
		// A fault in Main.
		"(main x)", "(fun f () int 1)(main (f 1))", "(fun f ((x int)) int x)(main (f true))", "(main (+ 1 true))", "(main (if true 1 false))", "(main (row true))", "(main (and true 5))", "(use lib)(main (lib.nope))", "(use lib)(main (lib.f))", "(use lib)(main (lib.f true))", "(main (lib.g))", "(use other)(main (lib.g))", "(main (let x 1 (let y x z)))", "(main (+ (let x 1 x) x))",
	} {
		m := readMod(t, text)
		nothing(text, m, faces)
		if _, ok := checkCode(t, text, m, faces); ok {
			t.Error(text, "has an object")
		}
	}
	if _, ok := checkCode(t, "without faces", readMod(t, "(use lib)"), nil); ok {
		t.Error("a use without a face")
	}
	for i, m := range wrongMods(t) {
		for _, faces := range [][]impl.TypeFace{nil, {faceOf(t, "a"), faceOf(t, "b")}} {
			nothing("module "+strconv.Itoa(i), m, faces)
		}
	}
	for n := 145; n <= 155; n++ {
		m := impl.TreeMod{Funs: []impl.TreeFun{{Name: "f", Type: 1, Body: sums(70)}}, Main: []impl.TreeExpr{sums(n - 70)}}
		if _, ok := checkCode(t, "large", m, nil); ok != (n <= 150) {
			t.Error("large", n, ok)
		}
	}
	for n := 12; n <= 20; n++ {
		if _, ok := checkCode(t, "deep", mainOf(nots(n)), nil); ok != (n <= 16) {
			t.Error("deep", n, ok)
		}
	}
	for n := range 12 {
		m := impl.TreeMod{Uses: names(min(n, 6)), Main: []impl.TreeExpr{list(slices.Repeat([]impl.TreeExpr{num(1)}, n)...)}}
		var faces []impl.TypeFace
		for _, name := range names(26) {
			faces = append(faces, impl.TypeFace{Mod: name})
		}
		if _, ok := checkCode(t, "uses and parts", m, faces); ok != (n <= 4) {
			t.Error("uses", n, ok)
		}
		m.Uses = nil
		if o, ok := checkCode(t, "parts", m, faces); ok != (n <= 8) || ok && listed(o.Funs[0].Code[n:]) != "row "+strconv.Itoa(n)+", back 0" {
			t.Error("parts", n, o, ok)
		}
		m = impl.TreeMod{Main: []impl.TreeExpr{num(1)}}
		for _, name := range names(n) {
			m.Funs = append(m.Funs, impl.TreeFun{Name: name, Type: 1, Body: num(1)})
		}
		if o, ok := checkCode(t, "functions", m, nil); ok != (n <= 8) || ok && len(o.Funs) != n+1 {
			t.Error("functions", n, o, ok)
		}
		f := impl.TreeFun{Name: "f", Type: 1, Body: num(1)}
		for _, name := range names(n) {
			f.Args = append(f.Args, impl.TreeArg{Name: name, Type: 2})
		}
		if o, ok := checkCode(t, "parameters", impl.TreeMod{Funs: []impl.TreeFun{f}}, nil); ok != (n <= 4) || ok && (o.Funs[0].Slots != n || len(o.Funs[0].Args) != n) {
			t.Error("parameters", n, o, ok)
		}
	}
}

// Faces that are too many, twice there or not ok are taken as TypeMod takes them.
func TestCodeFaces(t *testing.T) {
	m := readMod(t, "(use lib)(main (lib.g))")
	many := func(n int, face impl.TypeFace) []impl.TypeFace {
		var faces []impl.TypeFace
		for i := range n {
			faces = append(faces, impl.TypeFace{Mod: names(26)[i%26], Sigs: []impl.FaceSig{sig("g", 2)}})
		}
		return append(faces, face)
	}
	whole, lib := faceOf(t, "lib", "g()int"), func(sigs ...impl.FaceSig) []impl.TypeFace { return []impl.TypeFace{{Mod: "lib", Sigs: sigs}} }
	for i, c := range []struct {
		faces []impl.TypeFace
		kind  int
	}{
		{[]impl.TypeFace{whole}, 1}, {many(7, whole), 1}, {many(8, whole), 1}, {many(1000, whole), 1},
		// The first of two counts, whatever it has.
		{[]impl.TypeFace{whole, faceOf(t, "lib", "g()row")}, 1}, {[]impl.TypeFace{faceOf(t, "lib", "g()row"), whole}, 3}, {[]impl.TypeFace{whole, faceOf(t, "lib")}, 1}, {[]impl.TypeFace{{}, {}, whole, whole}, 1},
		// Lines that are too many, not ascending, twice there, or of no types.
		{lib(slices.Repeat([]impl.FaceSig{sig("g", 2)}, 20)...), 2}, {lib(sig("h", 1), sig("g", 3), sig("a", 1)), 3}, {lib(sig("g", 2), sig("g", 1)), 2}, {lib(sig("", -5), sig("G", 0), sig("g", 2)), 2},
		{lib(sig("g", 0)), 0}, {lib(sig("g", 77)), 77}, {lib(sig("g", -1)), -1}, {lib(sig("f", 1, 1, 1, 1, 1, 1, 1), sig("g", 1)), 1},
	} {
		o, ok := checkCode(t, "faces", m, c.faces)
		want := impl.CodeObj{Refs: []impl.CodeRef{{Mod: "lib", Name: "g"}}, Funs: []impl.CodeFun{{Name: "main", Type: c.kind, Code: []impl.CodeIns{{Op: impl.CodeCall}, {Op: impl.CodeBack}}}}}
		if !ok || !sameObj(o, want) {
			t.Errorf("case %d: %v, %v", i, o, ok)
		}
	}
	for i, faces := range [][]impl.TypeFace{nil, {}, {{}}, many(9, impl.TypeFace{Mod: "g"}), {faceOf(t, "lib"), whole}, lib(), lib(sig("g", 1, 1, 1, 1, 1, 1)), lib(sig("g", 0, 1)), lib(sig("G", 1), sig("", 1)), {{Mod: "LIB", Sigs: whole.Sigs}}, {{Mod: "", Sigs: whole.Sigs}}} {
		if o, ok := checkCode(t, "faces", m, faces); ok || !sameObj(o, impl.CodeObj{}) {
			t.Errorf("without an object %d: %v, %v", i, o, ok)
		}
	}
}
