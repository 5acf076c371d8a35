package tests

import (
	"math/rand"
	"slices"
	"strings"
	"sync"
	"testing"

	"loop.example/smithy/impl"
)

// codeRunner runs objects by the table of the chapter: it holds a stack and slots for each call.
type codeRunner struct {
	objs map[string]impl.CodeObj
	fuel int
	end  impl.MeanEnd
}

// codeStop is an end ahead of the end of all.
type codeStop struct{ end, trap int }

// must ends what runs, where something is not as it must be.
func must(right bool) {
	if !right {
		panic(codeStop{end: impl.MeanWrong})
	}
}

// codeFrame is a function that runs.
type codeFrame struct {
	*codeRunner
	mod   string
	slots []impl.MeanVal
	stack []impl.MeanVal
	depth int
}

func (f *codeFrame) push(v impl.MeanVal) { f.stack = append(f.stack, v) }

// pop takes as many values as these kinds, each of its own; 0 is any.
func (f *codeFrame) pop(kinds ...int) []impl.MeanVal {
	must(len(f.stack) >= len(kinds))
	out := slices.Clone(f.stack[len(f.stack)-len(kinds):])
	f.stack = f.stack[:len(f.stack)-len(kinds)]
	for i, kind := range kinds {
		must(kind == 0 || out[i].Kind == kind)
	}
	return out
}

// do does an instruction, and tells which place comes next.
func (f *codeFrame) do(at int, ins impl.CodeIns) int {
	switch ins.Op {
	case impl.CodePush:
		f.push(intOf(ins.A))
	case impl.CodeFlag:
		must(ins.A == 0 || ins.A == 1)
		f.push(boolOf(ins.A == 1))
	case impl.CodeLoad:
		must(f.slots[ins.A].Kind != 0)
		f.push(f.slots[ins.A])
	case impl.CodeKeep:
		f.slots[ins.A] = f.pop(0)[0]
	case impl.CodePrim:
		f.prim(strings.Fields(codePrims)[ins.A-1])
	case impl.CodeJump:
		must(ins.A > at)
		return ins.A
	case impl.CodeUnless:
		must(ins.A > at)
		if f.pop(impl.TreeBool)[0].Num == 0 {
			return ins.A
		}
	case impl.CodeCall:
		ref := f.objs[f.mod].Refs[ins.A]
		mod := ref.Mod
		if mod == "" {
			mod = f.mod
		}
		place := slices.IndexFunc(f.objs[mod].Funs, func(g impl.CodeFun) bool { return g.Name == ref.Name })
		callee := f.objs[mod].Funs[place]
		must(ref.Mod == "" || callee.Pub)
		f.push(f.call(mod, callee, f.pop(callee.Args...), f.depth))
	case impl.CodeRow:
		row := rowOf()
		for _, v := range f.pop(slices.Repeat([]int{impl.TreeInt}, ins.A)...) {
			row.Row = append(row.Row, v.Num)
		}
		f.push(row)
	default:
		must(false)
	}
	return at + 1
}

func (f *codeFrame) prim(word string) {
	args, _ := plainPrim(word)
	v, code := plainMake(word, f.pop(args...))
	must(code >= 0)
	if code > 0 {
		panic(codeStop{impl.MeanStops, code})
	}
	if word == "print" {
		f.end.Out = append(f.end.Out, v.Num)
	}
	f.push(v)
}

func (c *codeRunner) call(mod string, fun impl.CodeFun, args []impl.MeanVal, depth int) impl.MeanVal {
	if depth == 30 {
		panic(codeStop{impl.MeanStops, impl.MeanDeep})
	}
	return c.run(mod, fun, args, depth+1)
}

// run runs a function to its `back`.
func (c *codeRunner) run(mod string, fun impl.CodeFun, args []impl.MeanVal, depth int) impl.MeanVal {
	must(len(args) == len(fun.Args) && len(args) <= fun.Slots)
	f := &codeFrame{codeRunner: c, mod: mod, slots: make([]impl.MeanVal, fun.Slots), depth: depth}
	copy(f.slots, args)
	for at := 0; ; {
		if c.end.Steps == c.fuel {
			panic(codeStop{end: impl.MeanFuel})
		}
		c.end.Steps++
		ins := fun.Code[at]
		if ins.Op != impl.CodeBack {
			at = f.do(at, ins)
			continue
		}
		must(len(f.stack) == 1 && ins.A == 0 && at == len(fun.Code)-1)
		return f.pop(fun.Type)[0]
	}
}

// told is how it ends; whatever fails but by a stop is wrong.
func (c *codeRunner) told(do func()) (end impl.MeanEnd) {
	c.end.End = impl.MeanHalt
	defer func() {
		if got := recover(); got != nil {
			stop, ok := got.(codeStop)
			if !ok {
				stop.end = impl.MeanWrong
			}
			c.end.End, c.end.Trap = stop.end, stop.trap
		}
		end = c.end
	}()
	do()
	return c.end
}

// codeCalled is what a call of a function of an object comes to.
func codeCalled(objs map[string]impl.CodeObj, mod string, fun int, args []impl.MeanVal, fuel int) (val impl.MeanVal, end impl.MeanEnd) {
	c := &codeRunner{objs: objs, fuel: fuel}
	end = c.told(func() { val = c.call(mod, objs[mod].Funs[fun], args, 0) })
	return val, end
}

// codeRun runs the mains of modules, in their order, by their objects.
func codeRun(mods []impl.MeanMod, objs map[string]impl.CodeObj, fuel int) impl.MeanEnd {
	c := &codeRunner{objs: objs, fuel: fuel}
	return c.told(func() {
		for _, m := range mods {
			for _, f := range objs[m.Name].Funs {
				if f.Name == "main" {
					c.run(m.Name, f, nil, 0)
				}
			}
		}
	})
}

// objsOf are the objects of modules that are right together.
func objsOf(t *testing.T, mods []impl.MeanMod) map[string]impl.CodeObj {
	t.Helper()
	objs := map[string]impl.CodeObj{}
	for _, m := range mods {
		o, ok := checkCode(t, "object", m.Mod, facesOf(mods))
		if !ok {
			t.Fatalf("%q has no object%s", m.Name, written(mods))
		}
		checkSmall(t, m.Mod, o)
		objs[m.Name] = o
	}
	return objs
}

// The code does what the module means: it ends as that does, by no more than four times its steps.
func TestCodeMeans(t *testing.T) {
	r := rand.New(rand.NewSource(41))
	var count tally
	for n := range 2000 {
		mods := rightMods(r, n%3 > 0)
		objs := objsOf(t, mods)
		want := impl.MeanRun(mods, randomFuel(r))
		count.add(want)
		got := codeRun(mods, objs, 4*want.Steps)
		if want.End == impl.MeanFuel {
			// What both have printed is a beginning of one thing.
			least := min(len(got.Out), len(want.Out))
			if got.End == impl.MeanWrong || !slices.Equal(got.Out[:least], want.Out[:least]) {
				t.Fatalf("it does %v; it means %v%s", got, want, written(mods))
			}
		} else if got.End != want.End || got.Trap != want.Trap || !slices.Equal(got.Out, want.Out) {
			t.Fatalf("it does %v; it means %v%s", got, want, written(mods))
		}
		m := mods[r.Intn(len(mods))]
		for i, f := range m.Mod.Funs {
			var args []impl.MeanVal
			for _, arg := range f.Args {
				args = append(args, randomVal(r, arg.Type))
			}
			val, end := impl.MeanCall(mods, m.Name, f.Name, args, 3000)
			if count.add(end); end.End == impl.MeanFuel {
				continue
			}
			gotVal, gotEnd := codeCalled(objs, m.Name, i, args, 4*end.Steps)
			if !sameVal(gotVal, val) || gotEnd.End != end.End || gotEnd.Trap != end.Trap || !slices.Equal(gotEnd.Out, end.Out) {
				t.Fatalf("%s.%s of %v does %v, %v; it means %v, %v%s", m.Name, f.Name, args, gotVal, gotEnd, val, end, written(mods))
			}
		}
	}
	if !count.least(80, impl.MeanFuel, impl.MeanHalt, 4+impl.MeanDiv, 4+impl.MeanPlace, 4+impl.MeanDeep) {
		t.Error(count)
	}
}

// What is listed does what it means, too.
func TestCodeMeansListed(t *testing.T) {
	for _, c := range []struct {
		texts []string
		end   int
		trap  int
		out   []int
	}{
		{[]string{"(fun f ((n int)) int (if (= n 0) 1 (let m (- n 1) (* n (f m)))))(main (print (f 5)))"}, impl.MeanHalt, 0, []int{120}},
		{[]string{"(fun f ((n int)) int (if (= n 0) 0 (+ 1 (f (- n 1)))))(main (print (f 29)))"}, impl.MeanHalt, 0, []int{29}},
		{[]string{"(fun f ((n int)) int (if (= n 0) 0 (+ 1 (f (- n 1)))))(main (print (f 30)))"}, impl.MeanStops, impl.MeanDeep, nil},
		{[]string{"(pub g () int (print 1))", "(use a)(fun g () int (print 2))(main (row (g) (a.g) (g)))"}, impl.MeanHalt, 0, []int{2, 1, 2}},
		{[]string{"(main (let x 1 (row (let x 2 (print x)) (print x) (let y 3 (print (+ x y))))))"}, impl.MeanHalt, 0, []int{2, 1, 4}},
		{[]string{"(main (let x (let y 1 (let x 5 (print (+ x y)))) (print x)))"}, impl.MeanHalt, 0, []int{6, 6}},
		{[]string{"(fun f ((x int)(y int)) int (let x (+ x y) (let y (* x y) (print (- y x)))))(main (f 2 3))"}, impl.MeanHalt, 0, []int{10}},
		{[]string{"(main (if (and true (or false (= (print 1) 1))) (print 2) (print 3)))"}, impl.MeanHalt, 0, []int{1, 2}},
		{[]string{"(main (if (or true (= (print 1) 1)) (print 2) (print 3)))"}, impl.MeanHalt, 0, []int{2}},
		{[]string{"(main (if (and false (= (print 1) 1)) (print 2) (print 3)))"}, impl.MeanHalt, 0, []int{3}},
		{[]string{"(main (- (print 1) (/ (print 2) (print 0))))"}, impl.MeanStops, impl.MeanDiv, []int{1, 2, 0}},
		{[]string{"(main (let r (row 1 2 3 4 5 6 7 8) (len (join (join r r) (row (print 1))))))"}, impl.MeanStops, impl.MeanLong, []int{1}},
		{[]string{"(main (print (at (put (row 5 6) 1 9) 1)))", "(main (at (row) (print 0)))"}, impl.MeanStops, impl.MeanPlace, []int{9, 0}},
	} {
		mods := modsOf(t, c.texts...)
		got, want := codeRun(mods, objsOf(t, mods), 10000), impl.MeanRun(mods, 10000)
		for _, end := range []impl.MeanEnd{got, want} {
			if end.End != c.end || end.Trap != c.trap || !slices.Equal(end.Out, c.out) {
				t.Errorf("%v: %v", c.texts, end)
			}
		}
	}
}

// P17: the object hangs on nothing of the modules that are used but their faces.
func TestCodeHidden(t *testing.T) {
	r := rand.New(rand.NewSource(42))
	right, called, wrong := 0, 0, 0
	for range 1500 {
		var used []impl.TreeMod
		var faces, others []impl.TypeFace
		for _, mod := range freshNames(r, 3, nil) {
			m := randomMod(r)
			used = append(used, m)
			faces = append(faces, impl.TypeFace{Mod: mod, Sigs: impl.FaceOf(m)})
		}
		m := impl.TreeMod{Uses: []string{faces[0].Mod, faces[1].Mod}}
		k := knownOf(m, faces)
		m.Main = []impl.TreeExpr{typedExpr(r, k, 1+r.Intn(3), 60, 10)}
		m.Funs = []impl.TreeFun{{Name: "f", Type: 1, Body: typedExpr(r, k, 1, 60, 10)}}
		if r.Intn(4) == 0 {
			m.Main[0] = slipped(r, k, m.Main[0])
		}
		want, ok := checkCode(t, "before", m, faces)
		for i := range used {
			others = append(others, impl.TypeFace{Mod: faces[i].Mod, Sigs: impl.FaceOf(hidden(r, used[i]))})
		}
		got, gotOk := checkCode(t, "hidden", m, others)
		if gotOk != ok || !impl.CodeSame(got, want) {
			t.Fatalf("%s: %v turns to %v", impl.TreePrint(m), want, got)
		}
		if called += len(want.Refs); ok {
			right++
		} else {
			wrong++
		}
	}
	if right < 500 || wrong < 100 || called < 500 {
		t.Error(right, wrong, called)
	}
	// Two modules that do other things, with one face.
	app := readMod(t, "(use lib)(fun f ((n int)) int (lib.two n (lib.one)))(main (print (f (lib.one))))")
	var objs []impl.CodeObj
	for _, text := range []string{"(pub one () int 1)(pub two ((a int)(b int)) int a)", "(use more)(fun own () row (row))(pub two ((x int)(y int)) int (+ (one) (more.z)))(pub one () int (len (own)))(main (one))"} {
		o, ok := checkCode(t, text, app, []impl.TypeFace{{Mod: "lib", Sigs: impl.FaceOf(readMod(t, text))}})
		if objs = append(objs, o); !ok || !impl.CodeSame(o, objs[0]) {
			t.Error(text, o, ok)
		}
	}
}

// P17: nor does what is not asked for: faces that are not used, lines that are not called, faces behind the first, their order.
func TestCodeOthers(t *testing.T) {
	r := rand.New(rand.NewSource(43))
	less := 0
	for range 1000 {
		m, faces := typedMod(r)
		want, ok := checkCode(t, "typed", m, faces)
		if !ok {
			t.Fatal(impl.TreePrint(m))
		}
		var asked []impl.TypeFace
		for _, face := range faces {
			if !slices.Contains(m.Uses, face.Mod) {
				continue
			}
			kept := impl.TypeFace{Mod: face.Mod}
			for _, s := range face.Sigs {
				if slices.Contains(want.Refs, impl.CodeRef{Mod: face.Mod, Name: s.Name}) {
					kept.Sigs = append(kept.Sigs, s)
				} else {
					less++
				}
			}
			asked = append(asked, kept)
		}
		r.Shuffle(len(asked), func(i, j int) { asked[i], asked[j] = asked[j], asked[i] })
		behind := slices.Clone(faces)
		for _, face := range faces {
			behind = append(behind, impl.TypeFace{Mod: face.Mod, Sigs: turnedFace(r, face.Sigs)}, impl.TypeFace{Mod: randomName(r), Sigs: randomFace(r)})
		}
		for _, faces := range [][]impl.TypeFace{asked, behind, slices.Concat(asked, behind)} {
			if got, ok := checkCode(t, "others", m, faces); !ok || !impl.CodeSame(got, want) {
				t.Fatalf("%s: %v turns to %v", impl.TreePrint(m), want, got)
			}
		}
	}
	if less < 1000 {
		t.Error(less)
	}
}

// checkSmall is P18: at most three instructions for each expression, and one for each body.
func checkSmall(t *testing.T, m impl.TreeMod, o impl.CodeObj) int {
	t.Helper()
	var bodies []impl.TreeExpr
	for _, f := range m.Funs {
		bodies = append(bodies, f.Body)
	}
	bodies = append(bodies, m.Main...)
	if len(bodies) != len(o.Funs) {
		t.Fatalf("%s: %d functions", impl.TreePrint(m), len(o.Funs))
	}
	all, expressions := 0, 0
	for i, e := range bodies {
		nodes, _ := impl.TreeNodes(e)
		all += len(o.Funs[i].Code)
		expressions += nodes
		if len(o.Funs[i].Code) > 3*nodes+1 || len(o.Funs[i].Code) < nodes+1 {
			t.Fatalf("%s: %d instructions for %d expressions", impl.TreePrint(mainOf(e)), len(o.Funs[i].Code), nodes)
		}
	}
	if all > 3*expressions+len(bodies) {
		t.Fatalf("%s: %d instructions for %d expressions", impl.TreePrint(m), all, expressions)
	}
	return all
}

// P18: the code is no larger than that, of whatever module.
func TestCodeSmall(t *testing.T) {
	r := rand.New(rand.NewSource(44))
	large := 0
	for range 2000 {
		m, faces := typedMod(r)
		o, ok := checkCode(t, "typed", m, faces)
		if !ok {
			t.Fatal(impl.TreePrint(m))
		}
		large = max(large, checkSmall(t, m, o))
	}
	if large < 100 {
		t.Error(large)
	}
	forksWithin(func(e impl.TreeExpr) {
		m := readMod(t, "(fun f ((a bool)(b bool)(c bool)) bool true)")
		m.Funs[0].Body = e
		o, _ := checkCode(t, "forks", m, nil)
		checkSmall(t, m, o)
	})
	// What is longest: as many `and` and `or` as there may be, in as many bodies.
	m := impl.TreeMod{}
	for i, name := range names(8) {
		e := flag(1)
		for j := range 8 {
			e = prim([]string{"and", "or"}[(i+j)%2], e, flag(j%2))
		}
		m.Funs = append(m.Funs, impl.TreeFun{Name: name, Type: 2, Body: e})
	}
	m.Main = []impl.TreeExpr{prim("and", prim("or", prim("not", flag(1)), prim("not", flag(0))), prim("or", prim("and", flag(1), flag(0)), prim("or", flag(0), prim("not", flag(1)))))}
	o, ok := checkCode(t, "longest", m, nil)
	if !ok {
		t.Fatal("the test's own module")
	}
	if n := checkSmall(t, m, o); n != 8*(9+3*8+1)+(6+3+3*5+1) {
		t.Error(n)
	}
}

// The answers are the same at every call, and from several goroutines.
func TestCodeAgain(t *testing.T) {
	r := rand.New(rand.NewSource(45))
	for range 300 {
		m, faces := typedMod(r)
		if r.Intn(4) == 0 {
			m = slippedMod(r, m, faces)
		}
		want, wantOk := impl.CodeMake(m, faces)
		objs, oks, same := make([]impl.CodeObj, 8), make([]bool, 8), make([]bool, 8)
		var group sync.WaitGroup
		for i := range objs {
			group.Go(func() {
				objs[i], oks[i] = impl.CodeMake(m, faces)
				same[i] = impl.CodeSame(objs[i], want)
			})
		}
		group.Wait()
		for i, o := range objs {
			if oks[i] != wantOk || !same[i] || !sameObj(o, want) {
				t.Fatalf("%v, then %v", want, o)
			}
		}
	}
	// Nor does what was asked in between show.
	m, faces := readMod(t, "(use lib)(fun f () int (lib.g))(main (f))"), codeFaces(t)
	want, _ := checkCode(t, "first", m, faces)
	for range 200 {
		other, otherFaces := typedMod(r)
		impl.CodeMake(other, otherFaces)
		if got, _ := checkCode(t, "again", m, faces); !sameObj(got, want) {
			t.Fatal(got)
		}
	}
}

// Whatever a call is given, it answers.
func TestCodeAnything(t *testing.T) {
	r := rand.New(rand.NewSource(46))
	some := func() int { return int(r.Uint64()>>r.Intn(64)) - r.Intn(3) }
	right, wrong := 0, 0
	for range 4000 {
		m, faces := typedMod(r)
		for range r.Intn(4) {
			switch r.Intn(6) {
			case 0:
				m = turnedMod(r, m)
			case 1:
				m = randomMod(r)
			case 2:
				m = slippedMod(r, m, faces)
			case 3:
				faces = append(faces, impl.TypeFace{Mod: randomWrongName(r), Sigs: []impl.FaceSig{sig(randomWrongName(r), some(), some())}})
			case 4:
				faces = append([]impl.TypeFace{{Mod: randomName(r), Sigs: randomFace(r)}}, faces...)
			case 5:
				if len(faces) > 0 {
					faces[0].Sigs = turnedFace(r, faces[0].Sigs)
				}
			}
		}
		if _, ok := checkCode(t, "anything", m, faces); ok {
			right++
		} else {
			wrong++
		}
	}
	if right < 1000 || wrong < 1000 {
		t.Error(right, wrong)
	}
	for _, e := range []impl.TreeExpr{round("not"), round("and"), nots(100000), spread(100000), {}, {Kind: 9}, {Kind: -1}, {Kind: impl.TreeIf}, {Kind: impl.TreeLet, Name: "x"}, prim("and"), prim("nope")} {
		for _, m := range []impl.TreeMod{mainOf(e), funOf(e), {Main: []impl.TreeExpr{num(1), e}}, {Funs: []impl.TreeFun{{Name: "f", Type: 1, Body: list(e, e)}}}} {
			if o, ok := impl.CodeMake(m, nil); ok || !sameObj(o, impl.CodeObj{}) {
				t.Error(o, ok)
			}
		}
	}
	// Expressions that share their Kids are as others.
	leaf := []impl.TreeExpr{num(1), num(2)}
	shared := impl.TreeExpr{Kind: impl.TreePrim, Name: "+", Kids: leaf}
	o, ok := checkCode(t, "shared", mainOf(prim("*", shared, shared)), nil)
	if !ok || listed(o.Funs[0].Code) != "push 1, push 2, prim 1, push 1, push 2, prim 1, prim 3, back 0" {
		t.Error(o, ok)
	}
}
