package tests

import (
	"maps"
	"math"
	"slices"
	"strconv"
	"testing"

	"loop.example/smithy/impl"
)

// plainDoer runs modules by another way than the program: no function of it calls itself. What is
// to be done yet lies on a list, the next one last; values lie on another; variables are a map, in
// which the last one of a name is all there is.
type plainDoer struct {
	mods []impl.MeanMod
	fuel int
	end  impl.MeanEnd
	work []func()
	vals []impl.MeanVal
}

// plainSpot is where an expression stands.
type plainSpot struct {
	mod   impl.MeanMod
	vars  map[string]impl.MeanVal
	depth int
}

func (d *plainDoer) stop(end, trap int) {
	d.end.End, d.end.Trap, d.work = end, trap, nil
}

// soon puts work ahead of all other, in this order.
func (d *plainDoer) soon(work ...func()) {
	slices.Reverse(work)
	d.work = append(d.work, work...)
}

func (d *plainDoer) take(n int) []impl.MeanVal {
	out := slices.Clone(d.vals[len(d.vals)-n:])
	d.vals = d.vals[:len(d.vals)-n]
	return out
}

func (d *plainDoer) give(v impl.MeanVal) { d.vals = append(d.vals, v) }

// do works until there is nothing to do.
func (d *plainDoer) do() impl.MeanEnd {
	d.end.End = impl.MeanHalt
	for len(d.work) > 0 {
		next := d.work[len(d.work)-1]
		d.work = d.work[:len(d.work)-1]
		next()
	}
	return d.end
}

func (d *plainDoer) eval(e impl.TreeExpr, at plainSpot) func() {
	return func() {
		if d.end.Steps == d.fuel {
			d.stop(impl.MeanFuel, 0)
			return
		}
		d.end.Steps++
		switch {
		case e.Kind == impl.TreeNum:
			d.give(intOf(e.Num))
		case e.Kind == impl.TreeFlag:
			d.give(boolOf(e.Num == 1))
		case e.Kind == impl.TreeVar:
			v, known := at.vars[e.Name]
			if d.give(v); !known {
				d.stop(impl.MeanWrong, 0)
			}
		case e.Kind == impl.TreeLet:
			d.soon(d.eval(e.Kids[0], at), func() {
				vars := maps.Clone(at.vars)
				vars[e.Name] = d.take(1)[0]
				d.soon(d.eval(e.Kids[1], plainSpot{at.mod, vars, at.depth}))
			})
		case e.Kind == impl.TreeIf:
			d.soon(d.eval(e.Kids[0], at), d.fork(d.eval(e.Kids[1], at), d.eval(e.Kids[2], at)))
		case e.Name == "and" && e.Kind == impl.TreePrim:
			d.soon(d.eval(e.Kids[0], at), d.fork(d.asked(e.Kids[1], at), func() { d.give(boolOf(false)) }))
		case e.Name == "or" && e.Kind == impl.TreePrim:
			d.soon(d.eval(e.Kids[0], at), d.fork(func() { d.give(boolOf(true)) }, d.asked(e.Kids[1], at)))
		default:
			d.evalAll(e, at)
		}
	}
}

// fork asks whether the last value is true, and goes on by that.
func (d *plainDoer) fork(held, other func()) func() {
	return func() {
		switch v := d.take(1)[0]; {
		case v.Kind != impl.TreeBool:
			d.stop(impl.MeanWrong, 0)
		case v.Num == 1:
			d.soon(held)
		default:
			d.soon(other)
		}
	}
}

// asked makes a truth of an expression.
func (d *plainDoer) asked(e impl.TreeExpr, at plainSpot) func() {
	return func() {
		d.soon(d.eval(e, at), func() {
			if d.vals[len(d.vals)-1].Kind != impl.TreeBool {
				d.stop(impl.MeanWrong, 0)
			}
		})
	}
}

func (d *plainDoer) evalAll(e impl.TreeExpr, at plainSpot) {
	var work []func()
	for _, kid := range e.Kids {
		work = append(work, d.eval(kid, at))
	}
	d.soon(append(work, func() {
		vals := d.take(len(e.Kids))
		switch e.Kind {
		case impl.TreeCall:
			mod := e.Mod
			if mod == "" {
				mod = at.mod.Name
			}
			d.call(mod, e.Name, e.Mod != "", vals, at.depth)
		case impl.TreeList:
			d.row(vals)
		default:
			v, code := plainMake(e.Name, vals)
			if d.give(v); code > 0 {
				d.stop(impl.MeanStops, code)
			} else if code < 0 {
				d.stop(impl.MeanWrong, 0)
			} else if e.Name == "print" {
				d.end.Out = append(d.end.Out, v.Num)
			}
		}
	})...)
}

func (d *plainDoer) row(vals []impl.MeanVal) {
	row := rowOf()
	for _, v := range vals {
		if v.Kind != impl.TreeInt {
			d.stop(impl.MeanWrong, 0)
			return
		}
		row.Row = append(row.Row, v.Num)
	}
	d.give(row)
}

func (d *plainDoer) call(mod, name string, pub bool, vals []impl.MeanVal, depth int) {
	for _, m := range d.mods {
		for _, f := range m.Mod.Funs {
			if m.Name != mod || f.Name != name || pub && !f.Pub {
				continue
			}
			vars := map[string]impl.MeanVal{}
			for i, arg := range f.Args {
				if len(vals) == len(f.Args) && vals[i].Kind == arg.Type {
					vars[arg.Name] = vals[i]
				}
			}
			if len(vars) != len(f.Args) || len(vals) != len(f.Args) {
				d.stop(impl.MeanWrong, 0)
			} else if depth >= 30 {
				d.stop(impl.MeanStops, impl.MeanDeep)
			} else {
				d.soon(d.eval(f.Body, plainSpot{m, vars, depth + 1}), func() {
					if d.vals[len(d.vals)-1].Kind != f.Type {
						d.stop(impl.MeanWrong, 0)
					}
				})
			}
			return
		}
	}
	d.stop(impl.MeanWrong, 0)
}

// plainStand says whether modules may stand together.
func plainStand(mods []impl.MeanMod, fuel int) bool {
	names := map[string]int{}
	for _, m := range mods {
		if names[m.Name]++; !plainOk(m.Mod) {
			return false
		}
	}
	return len(names) == len(mods) && len(mods) <= 8 && fuel >= 0 && fuel <= 100000
}

func plainRun(mods []impl.MeanMod, fuel int) impl.MeanEnd {
	if !plainStand(mods, fuel) {
		return impl.MeanEnd{End: impl.MeanWrong}
	}
	d := &plainDoer{mods: mods, fuel: fuel}
	var work []func()
	for _, m := range mods {
		for _, e := range m.Mod.Main {
			work = append(work, d.eval(e, plainSpot{m, map[string]impl.MeanVal{}, 0}))
		}
	}
	d.soon(work...)
	return d.do()
}

// plainValue says whether this is a value.
func plainValue(v impl.MeanVal) bool {
	switch v.Kind {
	case impl.TreeInt:
		return sameVal(v, intOf(v.Num))
	case impl.TreeBool:
		return sameVal(v, boolOf(true)) || sameVal(v, boolOf(false))
	case impl.TreeRow:
		return sameVal(v, rowOf(v.Row...)) && len(v.Row) <= 16
	}
	return false
}

func plainCall(mods []impl.MeanMod, mod, name string, args []impl.MeanVal, fuel int) (impl.MeanVal, impl.MeanEnd) {
	if !plainStand(mods, fuel) || slices.ContainsFunc(args, func(v impl.MeanVal) bool { return !plainValue(v) }) {
		return impl.MeanVal{}, impl.MeanEnd{End: impl.MeanWrong}
	}
	d := &plainDoer{mods: mods, fuel: fuel}
	d.soon(func() { d.call(mod, name, false, args, 0) })
	if d.do(); d.end.End != impl.MeanHalt {
		return impl.MeanVal{}, d.end
	}
	return d.vals[0], d.end
}

func sameEnd(a, b impl.MeanEnd) bool {
	return a.End == b.End && a.Trap == b.Trap && a.Steps == b.Steps && slices.Equal(a.Out, b.Out)
}

// written is modules as texts, to be told by a test that fails.
func written(mods []impl.MeanMod) string {
	text := ""
	for _, m := range mods {
		text += "\n" + strconv.Quote(m.Name) + ":\n" + impl.TreePrint(m.Mod)
	}
	return text
}

// checkRun holds MeanRun against the other way, and tells what it answers.
func checkRun(t *testing.T, what string, mods []impl.MeanMod, fuel int) impl.MeanEnd {
	t.Helper()
	got, want := impl.MeanRun(mods, fuel), plainRun(mods, fuel)
	if !sameEnd(got, want) {
		t.Fatalf("%s: MeanRun with %d = %v; want %v%s", what, fuel, got, want, written(mods))
	}
	return got
}

func checkCall(t *testing.T, what string, mods []impl.MeanMod, mod, name string, args []impl.MeanVal, fuel int) (impl.MeanVal, impl.MeanEnd) {
	t.Helper()
	val, end := impl.MeanCall(mods, mod, name, args, fuel)
	want, wantEnd := plainCall(mods, mod, name, args, fuel)
	if !sameVal(val, want) || !sameEnd(end, wantEnd) {
		t.Fatalf("%s: MeanCall of %q.%q of %v with %d = %v, %v; want %v, %v%s", what, mod, name, args, fuel, val, end, want, wantEnd, written(mods))
	}
	return val, end
}

// modsOf are modules that are written so, named a, b and so on.
func modsOf(t *testing.T, texts ...string) []impl.MeanMod {
	t.Helper()
	var mods []impl.MeanMod
	for i, text := range texts {
		mods = append(mods, impl.MeanMod{Name: string(rune('a' + i)), Mod: readMod(t, text)})
	}
	return mods
}

// ends is how modules end; their texts are told apart by a `|`.
type ends struct {
	text string
	end  impl.MeanEnd
}

func halts(steps int, out ...int) impl.MeanEnd {
	return impl.MeanEnd{End: impl.MeanHalt, Steps: steps, Out: out}
}

func stops(trap, steps int, out ...int) impl.MeanEnd {
	return impl.MeanEnd{End: impl.MeanStops, Trap: trap, Steps: steps, Out: out}
}

func wrong(steps int, out ...int) impl.MeanEnd {
	return impl.MeanEnd{End: impl.MeanWrong, Steps: steps, Out: out}
}

func starves(steps int, out ...int) impl.MeanEnd {
	return impl.MeanEnd{End: impl.MeanFuel, Steps: steps, Out: out}
}

// checkFuels runs modules at every fuel up to what they want, and with more: P13.
func checkFuels(t *testing.T, what string, mods []impl.MeanMod, want impl.MeanEnd) {
	t.Helper()
	for fuel := range want.Steps + 4 {
		got := checkRun(t, what, mods, fuel)
		if fuel >= want.Steps {
			if !sameEnd(got, want) {
				t.Fatalf("%s: with %d %v; with more %v%s", what, fuel, got, want, written(mods))
			}
		} else if got.End != impl.MeanFuel || got.Trap != 0 || got.Steps != fuel || len(got.Out) > len(want.Out) || !slices.Equal(got.Out, want.Out[:len(got.Out)]) {
			t.Fatalf("%s: with %d %v; with more %v%s", what, fuel, got, want, written(mods))
		}
	}
}

func checkEnds(t *testing.T, list []ends) {
	t.Helper()
	for _, c := range list {
		var texts []string
		for start, i := 0, 0; i <= len(c.text); i++ {
			if i == len(c.text) || c.text[i] == '|' {
				texts = append(texts, c.text[start:i])
				start = i + 1
			}
		}
		mods := modsOf(t, texts...)
		for _, fuel := range []int{c.end.Steps, 1000, 100000} {
			if got := checkRun(t, "listed", mods, fuel); !sameEnd(got, c.end) {
				t.Errorf("%s with %d: %v; want %v", c.text, fuel, got, c.end)
			}
		}
		checkFuels(t, "listed", mods, c.end)
	}
}

// A main of every Kind, and of every primitive.
func TestMeanKinds(t *testing.T) {
	checkEnds(t, []ends{
		{"(main 7)", halts(1)}, {"(main -7)", halts(1)}, {"(main true)", halts(1)}, {"(main false)", halts(1)}, {"(main (row))", halts(1)},
		{"(main (row 1 2 3))", halts(4)}, {"(main (row 1 2 3 4 5 6 7 8))", halts(9)}, {"(main (print 7))", halts(2, 7)},
		{"(main (print (print (print -3))))", halts(4, -3, -3, -3)}, {"(main (row (print 1) (print 2) (print 3)))", halts(7, 1, 2, 3)},
		{"(main (print (+ 2 3)))", halts(4, 5)}, {"(main (print (- 2 3)))", halts(4, -1)}, {"(main (print (* 2 3)))", halts(4, 6)}, {"(main (print (/ -7 2)))", halts(4, -3)}, {"(main (print (% -7 2)))", halts(4, -1)},
		{"(main (print (if (< 1 2) 1 0)))", halts(6, 1)}, {"(main (print (if (<= 3 2) 1 0)))", halts(6, 0)}, {"(main (print (if (= 2 2) 1 0)))", halts(6, 1)},
		{"(main (print (if (not true) 1 0)))", halts(5, 0)}, {"(main (print (at (row 5 6) 1)))", halts(6, 6)}, {"(main (print (len (row 5 6))))", halts(5, 2)},
		{"(main (print (at (put (row 5 6) 0 9) 0)))", halts(9, 9)}, {"(main (print (len (join (row 1) (row 2 3)))))", halts(8, 3)},
		{"(main (let x 5 (print (* x x))))", halts(6, 25)}, {"(main (let r (row 4 5) (let s (put r 0 9) (print (+ (at r 0) (at s 0))))))", halts(17, 13)},
		{"(main (if true (print 1) (print 2)))", halts(4, 1)}, {"(main (if false (print 1) (print 2)))", halts(4, 2)},
		{"(main (- (print 1) (print 2)))", halts(5, 1, 2)}, {"(main (put (row (print 1)) (- (print 2) 2) (print 3)))", halts(10, 1, 2, 3)},
		{"", halts(0)}, {"(fun f () int 1)", halts(0)}, {"(use nope)", halts(0)},
	})
}

// Numbers wrap round at 64 bits where a module makes them, too.
func TestMeanNumbers(t *testing.T) {
	const least = "(* 4294967296 2147483648)"
	checkEnds(t, []ends{
		{"(main (print " + least + "))", halts(4, math.MinInt64)}, {"(main (print (- " + least + " 1)))", halts(6, math.MaxInt64)}, {"(main (print (+ " + least + " " + least + ")))", halts(8, 0)},
		{"(main (print (/ " + least + " -1)))", halts(6, math.MinInt64)}, {"(main (print (% " + least + " -1)))", halts(6, 0)}, {"(main (print (* " + least + " -1)))", halts(6, math.MinInt64)},
		{"(main (print (- 0 " + least + ")))", halts(6, math.MinInt64)}, {"(main (if (< " + least + " 0) (print 1) (print 2)))", halts(8, 1)},
		{"(main (print (/ " + least + " 0)))", stops(impl.MeanDiv, 6)}, {"(main (at (row 1) " + least + "))", stops(impl.MeanPlace, 6)},
		{"(main (print -99999999999999999))", halts(2, -99999999999999999)},
	})
}

// The second of `and` and of `or` is evaluated only where the first one asks for it, and is of the wanted Kind there.
func TestMeanShort(t *testing.T) {
	checkEnds(t, []ends{
		{"(main (print (if (and true true) 1 0)))", halts(6, 1)}, {"(main (print (if (and true false) 1 0)))", halts(6, 0)}, {"(main (print (if (and false true) 1 0)))", halts(5, 0)},
		{"(main (print (if (or true false) 1 0)))", halts(5, 1)}, {"(main (print (if (or false true) 1 0)))", halts(6, 1)}, {"(main (print (if (or false false) 1 0)))", halts(6, 0)},
		{"(main (and false (= (print 1) 1)))", halts(2)}, {"(main (or true (= (print 1) 1)))", halts(2)}, {"(main (and true (= (print 1) 1)))", halts(6, 1)}, {"(main (or false (= (print 1) 1)))", halts(6, 1)},
		{"(main (and false (= 1 (/ 1 0))))", halts(2)}, {"(main (or true (= 1 (/ 1 0))))", halts(2)}, {"(main (and true (= 1 (/ 1 0))))", stops(impl.MeanDiv, 7)}, {"(main (or false (= 1 (/ 1 0))))", stops(impl.MeanDiv, 7)},
		{"(main (and false nope))", halts(2)}, {"(main (or true nope))", halts(2)}, {"(main (and true nope))", wrong(3)}, {"(main (or false nope))", wrong(3)},
		{"(main (and false (nope)))", halts(2)}, {"(main (and (and true false) (or nope nope)))", halts(4)}, {"(main (or (and true true) (and nope nope)))", halts(4)},
		{"(main (and 1 true))", wrong(2)}, {"(main (or 0 true))", wrong(2)}, {"(main (and (row) (= (print 1) 1)))", wrong(2)}, {"(main (or (print 0) true))", wrong(3, 0)},
		{"(main (and true 5))", wrong(3)}, {"(main (or false 5))", wrong(3)}, {"(main (and true (row 1)))", wrong(4)}, {"(main (or false (row 1)))", wrong(4)}, {"(main (and true 0))", wrong(3)}, {"(main (or false 1))", wrong(3)}, {"(main (and true (row)))", wrong(3)},
		{"(main (and false 5))", halts(2)}, {"(main (or true 5))", halts(2)}, {"(main (and false (row (print 1))))", halts(2)}, {"(main (or true (row (print 1))))", halts(2)}, {"(main (and 5 5))", wrong(2)}, {"(main (or 5 5))", wrong(2)},
		{"(main (print (and true 5)))", wrong(4)}, {"(main (len (or false (row 1))))", wrong(5)}, {"(main (if (and true 1) (print 1) (print 2)))", wrong(4)}, {"(main (and true (print 4)))", wrong(4, 4)}, {"(main (or false (row (print 4) (print 5))))", wrong(7, 4, 5)},
		{"(main (or false (and true (or false 5))))", wrong(7)}, {"(main (or false (and true (or false true))))", halts(7)}, {"(main (or (and true 5) true))", wrong(4)}, {"(main (or true (and true 5)))", halts(2)}, {"(main (and (or false true) 5))", wrong(5)},
		// So it is with what a let, an if, a variable and a call make.
		{"(main (and true (let x true x)))", halts(5)}, {"(main (and true (let x 5 x)))", wrong(5)}, {"(main (let x 5 (or false x)))", wrong(5)}, {"(main (let x false (or false x)))", halts(5)},
		{"(main (and true (if true 5 true)))", wrong(5)}, {"(main (and true (if true false 5)))", halts(5)}, {"(main (or false (if false true (row))))", wrong(5)},
		{"(fun f () int 1)(main (and true (f)))", wrong(4)}, {"(fun f () bool true)(main (and true (f)))", halts(4)}, {"(fun f ((r row)) bool (or false r))(main (f (row)))", wrong(5)},
		{"(main (not (and true 5)))", wrong(4)}, {"(main (if (or false 1) 1 2))", wrong(4)}, {"(main (and (and true 5) true))", wrong(4)}, {"(fun f () bool (and true 5))(main (f))", wrong(4)}, {"(fun f () int (and true 5))(main (print (f)))", wrong(5)},
	})
}

// Variables: the last of a name counts, where it stands and no further.
func TestMeanVariables(t *testing.T) {
	checkEnds(t, []ends{
		{"(main (let x 1 (let x (+ x 1) (print x))))", halts(8, 2)}, {"(main (let x 1 (print (+ (let x 2 x) x))))", halts(8, 3)}, {"(main (let x 1 (print (- x (let x 2 x)))))", halts(8, -1)},
		{"(main (let x 1 (let y 2 (let x 3 (print (+ (* x 10) y))))))", halts(12, 32)}, {"(main (let x 1 (let x true (let x (row 7) (print (at x 0))))))", halts(11, 7)},
		{"(main (+ (let x 1 x) x))", wrong(5)}, {"(main (let x x 1))", wrong(2)}, {"(main x)", wrong(1)}, {"(main (let x (let y 1 y) y))", wrong(5)}, {"(main (print x))", wrong(2)},
		{"(fun f ((x int)) int (let x (+ x 1) (* x 10)))(main (print (f 4)))", halts(10, 50)}, {"(fun f ((x int)) int (let y x (+ x (let x 100 (+ x y)))))(main (print (f 4)))", halts(12, 108)},
		{"(fun f ((a int)(b int)(c int)(d int)) int (let a 9 (+ (* a 1000) (+ (* b 100) (+ (* c 10) d)))))(main (print (f 1 2 3 4)))", halts(21, 9234)},
		{"(fun f ((a int)(b int)) int (- a b))(main (let a 1 (let b 2 (print (f b a)))))", halts(11, 1)},
		// A function knows nothing of who calls it.
		{"(fun g () int x)(fun f ((x int)) int (g))(main (f 1))", wrong(4)}, {"(fun f () int x)(main (let x 1 (f)))", wrong(4)}, {"(fun f ((x int)) int 1)(main (+ (f 1) x))", wrong(5)},
		{"(fun f ((n int)) int (let m (* n 2) (if (= n 0) m (+ (f (- n 1)) m))))(main (print (f 3)))", halts(54, 12)},
		{"(main (+ (let a 1 (let b 2 (+ a b))) (let c 3 (let d (let e 4 (+ c e)) (print (+ c d))))))", halts(20, 10)},
	})
}

// Calls within a module and between modules, in whatever order these stand.
func TestMeanCalls(t *testing.T) {
	const lib = "(pub sq ((x int)) int (* x x))(fun own () int 1)(pub all ((r row)(b bool)(n int)) row (if b (put r 0 n) r))"
	checkEnds(t, []ends{
		{"(fun f () int 7)(main (print (f)))", halts(3, 7)}, {"(fun f ((x int)) int (* x x))(main (print (f (f 3))))", halts(10, 81)}, {"(pub f () int 7)(main (print (f)))", halts(3, 7)},
		{"(fun f () bool (g))(fun g () bool true)(main (if (f) (print 1) 2))", halts(6, 1)}, {"(fun f ((r row)) int (len r))(main (print (f (row 1 2))))", halts(7, 2)},
		{"(fun even ((n int)) bool (if (= n 0) true (odd (- n 1))))(fun odd ((n int)) bool (if (= n 0) false (even (- n 1))))(main (print (if (even 7) 1 0)))", halts(66, 0)},
		{lib + "|(use a)(main (print (a.sq 5)))", halts(6, 25)}, {"(use b)(main (print (b.sq 5)))|" + lib, halts(6, 25)}, {"(use b)(main (print (at (b.all (row 1 2) true 9) 0)))|" + lib, halts(15, 9)},
		{lib + "(main (print (own)))|(main (print (a.sq 2)))|(main (print 3))", halts(11, 1, 4, 3)},
		// Whether a module uses what it calls is not asked; whether that is Pub is.
		{"(main (print (b.sq 5)))|" + lib, halts(6, 25)}, {lib + "(main (print (a.sq 5)))", halts(6, 25)}, {"(use b)(main (b.own))|" + lib, wrong(1)}, {lib + "(main (a.own))", wrong(1)}, {lib + "(main (own))|(use a)(main (a.own))", wrong(3)},
		// The own functions are those of the module where the body stands.
		{"(fun h () int 1)(pub f () int (h))(main (print (f)))|(use a)(fun h () int 2)(main (print (a.f)))", halts(8, 1, 1)},
		{"(pub h () int 1)(pub f () int (b.h))|(use a)(pub h () int 2)(main (print (+ (a.f) (h))))", halts(7, 4)},
		{"(use b)(pub f ((n int)) int (if (= n 0) 0 (b.g (- n 1))))(main (print (f 3)))|(use a)(pub g ((n int)) int (if (= n 0) 1 (a.f (- n 1))))", halts(32, 1)},
		{"(main (f))|(pub f () int 1)", wrong(1)}, {"(use c)(main (c.f))|(pub f () int 1)", wrong(1)}, {"(main (nope))", wrong(1)}, {"(main (b.nope))|(pub f () int 1)", wrong(1)},
		// What is not evaluated is not looked at.
		{"(fun f () bool (+ true x))(main (print 1))|(use nope)(pub g () int (nope.h))", halts(2, 1)}, {"(main (if true 1 (nope)))", halts(3)}, {"(main (if false (nope) true))", halts(3)},
		{"(main (print (if true 1 (row))))", halts(4, 1)}, {"(main (print (len (if false 1 (row)))))", halts(5, 0)},
	})
}
