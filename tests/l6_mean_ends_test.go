package tests

import (
	"math"
	"slices"
	"strconv"
	"strings"
	"testing"

	"loop.example/smithy/impl"
)

// Each way to stop, and each way to go wrong, with what was printed before.
func TestMeanEnds(t *testing.T) {
	row := "(row 1 2 3 4 5 6 7 8)"
	checkEnds(t, []ends{
		{"(main (/ 1 0))", stops(impl.MeanDiv, 3)}, {"(main (% 1 0))", stops(impl.MeanDiv, 3)}, {"(main (+ (print 4) (/ (print 5) (- 1 1))))", stops(impl.MeanDiv, 9, 4, 5)},
		{"(main (at (row 5 6) 0))", halts(5)}, {"(main (at (row 5 6) 1))", halts(5)}, {"(main (at (row 5 6) 2))", stops(impl.MeanPlace, 5)}, {"(main (at (row 5 6) -1))", stops(impl.MeanPlace, 5)}, {"(main (at (row) 0))", stops(impl.MeanPlace, 3)},
		{"(main (put (row 5 6) 1 9))", halts(6)}, {"(main (put (row 5 6) 2 9))", stops(impl.MeanPlace, 6)}, {"(main (put (row 5 6) -1 9))", stops(impl.MeanPlace, 6)},
		{"(main (let r " + row + " (print (len (join r r)))))", halts(15, 16)}, {"(main (let r " + row + " (let s (join r r) (print (at s 15)))))", halts(18, 8)}, {"(main (let r " + row + " (let s (join r r) (print (at s 16)))))", stops(impl.MeanPlace, 18)},
		{"(main (let r " + row + " (join (join r r) (row))))", halts(15)}, {"(main (let r " + row + " (join (join r r) (row 1))))", stops(impl.MeanLong, 16)}, {"(main (let r " + row + " (join (row 1) (join r r))))", stops(impl.MeanLong, 16)},
		{"(main (let r (join " + row + " (row 1 2 3 4 5 6 7)) (print (len (join r (row (print 3)))))))", halts(26, 3, 16)},
		{"(fun f () int (f))(main (f))", stops(impl.MeanDeep, 31)}, {"(fun f () int (+ (print 1) (f)))(main (f))", stops(impl.MeanDeep, 1+4*30, slices.Repeat([]int{1}, 30)...)},
		{"(main (print 1))|(main (/ (print 2) 0))|(main (print 3))", stops(impl.MeanDiv, 6, 1, 2)}, {"(main (print 1))|(main (not (print 2)))|(main (print 3))", wrong(5, 1, 2)},
		// Primitives, parts of a row, and what is asked whether it is true.
		{"(main (+ 1 true))", wrong(3)}, {"(main (+ (row) 1))", wrong(3)}, {"(main (not 1))", wrong(2)}, {"(main (not 0))", wrong(2)}, {"(main (at 1 (row)))", wrong(3)}, {"(main (put (row 1) true 1))", wrong(5)}, {"(main (len true))", wrong(2)},
		{"(main (join (row) 1))", wrong(3)}, {"(main (print true))", wrong(2)}, {"(main (print (row 1)))", wrong(3)}, {"(main (= true true))", wrong(3)}, {"(main (= (row) (row)))", wrong(3)},
		{"(main (row 1 true))", wrong(3)}, {"(main (row (row)))", wrong(2)}, {"(main (row 1 2 3 4 5 6 7 false))", wrong(9)}, {"(main (if 1 2 3))", wrong(2)}, {"(main (if (row) (print 1) 3))", wrong(2)},
		// Parameters, too few, too many and of other Kinds, and the body's own.
		{"(fun f ((x int)) int x)(main (f))", wrong(1)}, {"(fun f ((x int)) int x)(main (f 1 2))", wrong(3)}, {"(fun f ((x int)) int x)(main (f true))", wrong(2)}, {"(fun f () int 1)(main (f (print 1)))", wrong(3, 1)},
		{"(fun f ((x int)(y bool)(z row)) int 1)(main (f 1 true (row)))", halts(5)}, {"(fun f ((x int)(y bool)(z row)) int 1)(main (f 1 (row) true))", wrong(4)}, {"(fun f ((x int)(y bool)(z row)) int 1)(main (f 1 true))", wrong(3)},
		{"(fun f () bool 1)(main (f))", wrong(2)}, {"(fun f () int true)(main (f))", wrong(2)}, {"(fun f () row (print 1))(main (f))", wrong(3, 1)}, {"(fun f () int (g))(fun g () bool true)(main (f))", wrong(3)},
		{"(fun f ((x int)) int x)(fun g ((y bool)) bool (f y))(main (g true))", wrong(4)},
	})
}

// Which of several ends comes first.
func TestMeanFirst(t *testing.T) {
	checkEnds(t, []ends{
		// All kids come first, in their order; then they are looked at.
		{"(main (+ (/ 1 0) nope))", stops(impl.MeanDiv, 4)}, {"(main (+ nope (/ 1 0)))", wrong(2)}, {"(main (+ true (/ 1 0)))", stops(impl.MeanDiv, 5)}, {"(main (+ (/ 1 0) true))", stops(impl.MeanDiv, 4)},
		{"(main (+ (at (row) 0) (/ 1 0)))", stops(impl.MeanPlace, 4)}, {"(main (+ (/ 1 0) (at (row) 0)))", stops(impl.MeanDiv, 4)}, {"(main (/ true 0))", wrong(3)}, {"(main (/ (print 1) false))", wrong(4, 1)}, {"(main (at (row) true))", wrong(3)},
		{"(main (row true (/ 1 0)))", stops(impl.MeanDiv, 5)}, {"(main (row true nope (/ 1 0)))", wrong(3)}, {"(main (row (/ 1 0) true))", stops(impl.MeanDiv, 4)}, {"(main (row true (print 1) (row)))", wrong(5, 1)},
		{"(main (put 1 (/ 1 0) nope))", stops(impl.MeanDiv, 5)}, {"(main (print (not (/ 1 0))))", stops(impl.MeanDiv, 5)}, {"(main (not (print (/ 1 0))))", stops(impl.MeanDiv, 5)},
		// So they do ahead of the name that is called, and of its parameters.
		{"(main (nope (/ 1 0)))", stops(impl.MeanDiv, 4)}, {"(main (nope (print 1)))", wrong(3, 1)}, {"(main (b.f (/ 1 0)))|(fun f () int 1)", stops(impl.MeanDiv, 4)}, {"(main (b.f (print 1)))|(fun f ((x int)) int 1)", wrong(3, 1)},
		{"(fun f ((x int)) int x)(main (f true (/ 1 0)))", stops(impl.MeanDiv, 5)}, {"(fun f ((x int)) int (/ 1 0))(main (f true))", wrong(2)}, {"(fun f ((x int)) int (/ 1 0))(main (f))", wrong(1)},
		// The body comes ahead of the function's type, and that ahead of what is behind the call.
		{"(fun f () bool (/ 1 0))(main (f))", stops(impl.MeanDiv, 4)}, {"(fun f () bool 1)(main (+ (f) (/ 1 0)))", wrong(3)}, {"(fun f () bool (print 1))(main (+ (print 2) (f)))", wrong(6, 2, 1)}, {"(fun f () bool 1)(main (+ (/ 1 0) (f)))", stops(impl.MeanDiv, 4)},
		// What is asked whether it is true is asked at once.
		{"(main (if 1 (/ 1 0) (/ 1 0)))", wrong(2)}, {"(main (if (/ 1 0) nope nope))", stops(impl.MeanDiv, 4)}, {"(main (and 1 (= 1 (/ 1 0))))", wrong(2)}, {"(main (or (= 1 (/ 1 0)) nope))", stops(impl.MeanDiv, 6)}, {"(main (or 1 nope))", wrong(2)},
		{"(main (let x (or false (print 7)) (print 8)))", wrong(5, 7)}, {"(main (% (and true 1) (print 2)))", wrong(4)}, {"(main (+ (print 2) (or false 1)))", wrong(6, 2)}, {"(main (and true (/ 1 0)))", stops(impl.MeanDiv, 5)}, {"(main (or false (+ (print 1) (/ 1 0))))", stops(impl.MeanDiv, 8, 1)},
		{"(main (row (and true 1) (/ 1 0)))", wrong(4)}, {"(main (row (/ 1 0) (and true 1)))", stops(impl.MeanDiv, 4)}, {"(main (nope (and true (print 1))))", wrong(5, 1)}, {"(fun f () bool (or false 1))(main (+ (f) (/ 1 0)))", wrong(5)},
		{"(main (and true 5))|(main (print 1))", wrong(3)}, {"(main (print 1))|(main (or false 5))|(main (print 2))", wrong(5, 1)}, {"(main (and false 5))|(main (print 1))", halts(4, 1)}, {"(main (and true false))|(main (print 1))", halts(5, 1)},
		{"(main (let x (/ 1 0) nope))", stops(impl.MeanDiv, 4)}, {"(main (let x nope (/ 1 0)))", wrong(2)}, {"(main (let x true (+ x (/ 1 0))))", stops(impl.MeanDiv, 7)},
		{"(main (/ 1 0))|(main nope)", stops(impl.MeanDiv, 3)}, {"(main nope)|(main (/ 1 0))", wrong(1)},
	})
}

// Want of fuel comes first where a step is to be made, and nowhere else.
func TestMeanWant(t *testing.T) {
	for _, c := range []struct {
		text string
		fuel int
		end  impl.MeanEnd
	}{
		{"", 0, halts(0)}, {"(fun f () int 1)", 0, halts(0)}, {"(main 1)", 0, starves(0)}, {"(main nope)", 0, starves(0)}, {"(main (nope))", 0, starves(0)}, {"(main nope)", 1, wrong(1)}, {"(main (nope))", 1, wrong(1)},
		{"(main 1)", 1, halts(1)}, {"(main (print 7))", 1, starves(1)}, {"(main (print 7))", 2, halts(2, 7)}, {"(main (+ (print 7) 1))", 3, starves(3, 7)}, {"(main (+ (print 7) 1))", 4, halts(4, 7)},
		{"(main (/ 1 0))", 2, starves(2)}, {"(main (/ 1 0))", 3, stops(impl.MeanDiv, 3)}, {"(main (not 1))", 1, starves(1)}, {"(main (not 1))", 2, wrong(2)}, {"(main (if 1 2 3))", 2, wrong(2)}, {"(main (if true nope 3))", 2, starves(2)},
		{"(main (+ true (/ 1 0)))", 4, starves(4)}, {"(main (+ true (/ 1 0)))", 5, stops(impl.MeanDiv, 5)}, {"(main (and true nope))", 2, starves(2)}, {"(main (and false nope))", 2, halts(2)},
		{"(main (and true 5))", 2, starves(2)}, {"(main (and true 5))", 3, wrong(3)}, {"(main (or false 5))", 2, starves(2)}, {"(main (or false 5))", 3, wrong(3)}, {"(main (and false 5))", 1, starves(1)}, {"(main (and false 5))", 2, halts(2)},
		{"(main (or false (print 7)))", 3, starves(3)}, {"(main (or false (print 7)))", 4, wrong(4, 7)}, {"(main (let x (or false (print 7)) (print 8)))", 5, wrong(5, 7)}, {"(main (and true false))", 2, starves(2)}, {"(main (and true false))", 3, halts(3)},
		{"(fun f () int 1)(main (f))", 1, starves(1)}, {"(fun f () bool 1)(main (f))", 1, starves(1)}, {"(fun f () bool 1)(main (f))", 2, wrong(2)}, {"(fun f ((x int)) int x)(main (f true))", 2, wrong(2)},
		{"(fun f () int (f))(main (f))", 30, starves(30)}, {"(fun f () int (f))(main (f))", 31, stops(impl.MeanDeep, 31)},
	} {
		if got := checkRun(t, "want", modsOf(t, c.text), c.fuel); !sameEnd(got, c.end) {
			t.Errorf("%s with %d: %v; want %v", c.text, c.fuel, got, c.end)
		}
	}
}

// atDepth is a module whose function calls itself so often, and does this at the end; at is how many calls it stands within.
func atDepth(at int, last string) string {
	return "(fun f ((n int)) int (if (= n 0) " + last + " (f (- n 1))))(fun g () int 5)(fun h ((x int)) int x)(main (print (f " + strconv.Itoa(at-1) + ")))"
}

// Depth 30 is met exactly, and passed by one; values are looked at ahead of it.
func TestMeanDeep(t *testing.T) {
	for _, c := range []struct {
		at   int
		last string
		end  int
		trap int
		out  []int
	}{
		{1, "(g)", impl.MeanHalt, 0, []int{5}}, {29, "(g)", impl.MeanHalt, 0, []int{5}}, {30, "7", impl.MeanHalt, 0, []int{7}}, {30, "(g)", impl.MeanStops, impl.MeanDeep, nil}, {31, "7", impl.MeanStops, impl.MeanDeep, nil}, {99, "7", impl.MeanStops, impl.MeanDeep, nil},
		{30, "(h 1)", impl.MeanStops, impl.MeanDeep, nil}, {30, "(h true)", impl.MeanWrong, 0, nil}, {30, "(h)", impl.MeanWrong, 0, nil}, {30, "(h 1 2)", impl.MeanWrong, 0, nil}, {30, "(g 1)", impl.MeanWrong, 0, nil},
		{30, "(nope)", impl.MeanWrong, 0, nil}, {30, "(a.g)", impl.MeanWrong, 0, nil}, {30, "(b.f)", impl.MeanWrong, 0, nil}, {30, "(h (/ 1 0))", impl.MeanStops, impl.MeanDiv, nil}, {30, "(h (nope))", impl.MeanWrong, 0, nil},
		{30, "(+ (print 3) (g))", impl.MeanStops, impl.MeanDeep, []int{3}}, {30, "(+ (g) (print 3))", impl.MeanStops, impl.MeanDeep, nil}, {30, "(+ (g) nope)", impl.MeanStops, impl.MeanDeep, nil}, {30, "(+ nope (g))", impl.MeanWrong, 0, nil}, {30, "(h (g))", impl.MeanStops, impl.MeanDeep, nil},
		{29, "(h (g))", impl.MeanHalt, 0, []int{5}}, {29, "(+ (g) (+ (g) (g)))", impl.MeanHalt, 0, []int{15}}, {29, "(h true)", impl.MeanWrong, 0, nil},
	} {
		mods := modsOf(t, atDepth(c.at, c.last))
		got := checkRun(t, "deep", mods, 100000)
		if got.End != c.end || got.Trap != c.trap || !slices.Equal(got.Out, c.out) {
			t.Errorf("%s within %d: %v", c.last, c.at, got)
		}
		checkFuels(t, "deep", mods, got)
		// A call is made at the depth 0, as Main's are.
		val, end := checkCall(t, "deep", mods, "a", "f", []impl.MeanVal{intOf(c.at - 1)}, 100000)
		if end.End != c.end || end.Trap != c.trap || (end.End == impl.MeanHalt) != (val.Kind == impl.TreeInt) {
			t.Errorf("%s within %d: %v, %v", c.last, c.at, val, end)
		}
	}
	// Depth is counted over modules, and is not left behind by what has come back.
	mods := modsOf(t, "(use b)(pub f ((n int)) int (if (= n 0) 0 (b.f (- n 1))))(main (row (f 29) (f 29) (print (f 29))))", "(use a)(pub f ((n int)) int (if (= n 0) 0 (a.f (- n 1))))(main (print (a.f 30)))")
	if got := checkRun(t, "deep modules", mods, 100000); got.End != impl.MeanStops || got.Trap != impl.MeanDeep || !slices.Equal(got.Out, []int{0}) {
		t.Error(got)
	}
}

// burning is a module that halts behind just so many steps, at least 2000.
func burning(t *testing.T, steps int) []impl.MeanMod {
	t.Helper()
	m := readMod(t, "(fun f ((n int)) int (if (= n 0) 0 (+ (f (- n 1)) (f (- n 1)))))")
	// A call with n makes 18 times 2 to the n, less 13, steps in it; 3 more are made to add it.
	e, left := num(0), steps-1
	for n := 20; n >= 0; n-- {
		for cost := 18<<n - 10; cost <= left; left -= cost {
			e = prim("+", e, call("", "f", num(n)))
		}
	}
	for range left {
		e = prim("print", e)
	}
	m.Main = []impl.TreeExpr{e}
	if !impl.TreeOk(m) {
		t.Fatal("the test's own module is not ok")
	}
	return []impl.MeanMod{{Name: "a", Mod: m}}
}

// The fuel may be just enough, or one less; it may be MeanMaxFuel, and not one more.
func TestMeanFuelBounds(t *testing.T) {
	for _, steps := range []int{2000, 54321, 99999, 100000} {
		mods := burning(t, steps)
		if got := checkRun(t, "burning", mods, steps); got.End != impl.MeanHalt || got.Steps != steps {
			t.Error(steps, got)
		}
		if got := checkRun(t, "burning", mods, steps-1); got.End != impl.MeanFuel || got.Steps != steps-1 {
			t.Error(steps, got)
		}
		if got := impl.MeanRun(mods, 100000); got.End != impl.MeanHalt || got.Steps != steps {
			t.Error(steps, got)
		}
	}
	if got := checkRun(t, "burning", burning(t, 100001), 100000); got.End != impl.MeanFuel || got.Steps != 100000 {
		t.Error(got)
	}
	mods := modsOf(t, "(fun f () int (print 1))(main (f))")
	for _, fuel := range []int{-1, -2, math.MinInt, 100001, 100002, 200000, 1 << 32, math.MaxInt} {
		for _, mods := range [][]impl.MeanMod{nil, mods} {
			if got := checkRun(t, "no fuel", mods, fuel); !sameEnd(got, impl.MeanEnd{End: impl.MeanWrong}) {
				t.Error(fuel, got)
			}
			if val, got := checkCall(t, "no fuel", mods, "a", "f", nil, fuel); !sameEnd(got, impl.MeanEnd{End: impl.MeanWrong}) || !isNothing(val) {
				t.Error(fuel, val, got)
			}
		}
	}
	// A function that prints as long as there is fuel.
	mods = modsOf(t, "(fun f ((n int)) int (if (= n 0) (print n) (+ (f (- n 1)) (f (- n 1)))))(main (f 29))")
	if got := checkRun(t, "printing", mods, 100000); got.End != impl.MeanFuel || got.Steps != 100000 || len(got.Out) < 5000 {
		t.Error(got.End, got.Steps, len(got.Out))
	}
}

// manyMods are modules with one function and a main each, so many.
func manyMods(t *testing.T, n int) []impl.MeanMod {
	var texts []string
	for i := range n {
		texts = append(texts, "(pub f () int "+strconv.Itoa(i)+")(main (print (a.f)))")
	}
	return modsOf(t, texts...)
}

func TestMeanModules(t *testing.T) {
	if got := checkRun(t, "none", nil, 0); !sameEnd(got, halts(0)) {
		t.Error(got)
	}
	if got := checkRun(t, "none", []impl.MeanMod{}, 100000); !sameEnd(got, halts(0)) {
		t.Error(got)
	}
	for n := 1; n <= 12; n++ {
		mods := manyMods(t, n)
		want := halts(3*n, slices.Repeat([]int{0}, n)...)
		if n > 8 {
			want = impl.MeanEnd{End: impl.MeanWrong}
		}
		if got := checkRun(t, "many", mods, 1000); !sameEnd(got, want) {
			t.Error(n, got)
		}
		for _, fuel := range []int{0, 1, 1000} {
			val, got := checkCall(t, "many", mods, "a", "f", nil, fuel)
			if n > 8 && (!sameEnd(got, want) || !isNothing(val)) || n <= 8 && fuel > 0 && got.End != impl.MeanHalt {
				t.Error(n, val, got)
			}
		}
		// Two of them have one name, wherever these stand.
		for i := range n {
			for j := range i {
				twice := slices.Clone(mods)
				twice[i].Name = twice[j].Name
				if got := checkRun(t, "twice", twice, 1000); !sameEnd(got, impl.MeanEnd{End: impl.MeanWrong}) {
					t.Error(i, j, got)
				}
				if val, got := checkCall(t, "twice", twice, "a", "f", nil, 1000); !sameEnd(got, impl.MeanEnd{End: impl.MeanWrong}) || !isNothing(val) {
					t.Error(i, j, val, got)
				}
			}
		}
	}
	if got := impl.MeanRun(make([]impl.MeanMod, 1000000), 10); !sameEnd(got, impl.MeanEnd{End: impl.MeanWrong}) {
		t.Error(got)
	}
	// Names of modules are any texts, but no two alike.
	odd := manyMods(t, 6)
	for i, name := range []string{"", "row", " ", "a.b", "\xff", strings.Repeat("long", 1000)} {
		odd[i].Name = name
	}
	if got := checkRun(t, "odd names", odd, 100); !sameEnd(got, wrong(2)) {
		t.Error(got)
	}
	for i, m := range odd {
		if val, got := checkCall(t, "odd names", odd, m.Name, "f", nil, 100); val.Num != i || got.End != impl.MeanHalt {
			t.Error(i, val, got)
		}
	}
}

// A module that is not ok, at any place, leaves nothing to be told.
func TestMeanNotOk(t *testing.T) {
	mods := modsOf(t, "(pub f () int 1)(main (print 1))", "(main (print 2))", "(main (print 3))")
	bad := append(wrongMods(t), mainOf(list(slices.Repeat([]impl.TreeExpr{num(1)}, 9)...)), mainOf(list(slices.Repeat([]impl.TreeExpr{num(1)}, 17)...)), mainOf(nots(17)), mainOf(sums(151)), mainOf(num(math.MinInt64)), mainOf(call("", "f", slices.Repeat([]impl.TreeExpr{num(1)}, 5)...)))
	for i, m := range bad {
		for place := range mods {
			some := slices.Clone(mods)
			some[place].Mod = m
			if got := impl.MeanRun(some, 1000); !sameEnd(got, impl.MeanEnd{End: impl.MeanWrong}) {
				t.Error(i, place, got)
			}
			if val, got := impl.MeanCall(some, "a", "f", nil, 1000); !sameEnd(got, impl.MeanEnd{End: impl.MeanWrong}) || !isNothing(val) {
				t.Error(i, place, val, got)
			}
		}
	}
	// What is as large and as deep as may be is ok.
	for _, e := range []impl.TreeExpr{nots(16), sums(150), list(upToNums(8)...)} {
		nodes, _ := impl.TreeNodes(e)
		if got := checkRun(t, "largest", []impl.MeanMod{{Mod: mainOf(e)}}, 1000); got.End != impl.MeanHalt || got.Steps != nodes {
			t.Error(got)
		}
	}
}

func upToNums(n int) []impl.TreeExpr {
	var out []impl.TreeExpr
	for _, k := range upTo(n) {
		out = append(out, num(k))
	}
	return out
}

// Calls of functions, with values that fit and with others.
func TestMeanCallListed(t *testing.T) {
	mods := modsOf(t, "(pub sq ((x int)) int (* x x))(fun own ((r row)(i int)) int (at r i))(fun neg ((b bool)) bool (not b))(fun id ((r row)) row r)(fun bad () bool (print 3))(fun num () int (and true 1))(fun late ((b bool)) bool (or b (print 4)))(pub four ((a int)(b bool)(c row)(d int)) row (if b (put c a d) c))(main (print 7))", "(use a)(pub sq ((x int)) int (print (a.sq (+ x 1))))")
	of := func(vals ...impl.MeanVal) []impl.MeanVal { return vals }
	none := impl.MeanEnd{End: impl.MeanWrong}
	for i, c := range []struct {
		mod, name string
		args      []impl.MeanVal
		val       impl.MeanVal
		end       impl.MeanEnd
	}{
		{"a", "sq", of(intOf(-4)), intOf(16), halts(3)}, {"b", "sq", of(intOf(4)), intOf(25), halts(8, 25)}, {"a", "sq", of(intOf(math.MinInt64)), intOf(0), halts(3)}, {"a", "neg", of(boolOf(true)), boolOf(false), halts(2)}, {"a", "neg", of(boolOf(false)), boolOf(true), halts(2)},
		// Whether a function is Pub is not asked of who calls from without.
		{"a", "own", of(rowOf(5, 6), intOf(1)), intOf(6), halts(3)}, {"a", "own", of(rowOf(5, 6), intOf(2)), impl.MeanVal{}, stops(impl.MeanPlace, 3)}, {"a", "own", of(rowOf(5, 6), intOf(-1)), impl.MeanVal{}, stops(impl.MeanPlace, 3)},
		{"a", "id", of(rowOf()), rowOf(), halts(1)}, {"a", "id", of(rowOf(upTo(16)...)), rowOf(upTo(16)...), halts(1)}, {"a", "id", of(rowOf(upTo(17)...)), impl.MeanVal{}, none}, {"a", "bad", nil, impl.MeanVal{}, wrong(2, 3)},
		{"a", "four", of(intOf(0), boolOf(true), rowOf(1), intOf(9)), rowOf(9), halts(6)}, {"a", "four", of(intOf(0), boolOf(false), rowOf(1), intOf(9)), rowOf(1), halts(3)}, {"a", "four", of(intOf(0), boolOf(true), rowOf(), intOf(9)), impl.MeanVal{}, stops(impl.MeanPlace, 6)},
		// The second of an `and` or an `or` is of the wanted Kind, where it is evaluated, or there is no value.
		{"a", "num", nil, impl.MeanVal{}, wrong(3)}, {"a", "late", of(boolOf(true)), boolOf(true), halts(2)}, {"a", "late", of(boolOf(false)), impl.MeanVal{}, wrong(4, 4)},
		// Too few, too many, of other Kinds.
		{"a", "sq", nil, impl.MeanVal{}, none}, {"a", "sq", of(intOf(1), intOf(2)), impl.MeanVal{}, none}, {"a", "sq", of(boolOf(true)), impl.MeanVal{}, none}, {"a", "sq", of(rowOf()), impl.MeanVal{}, none}, {"a", "bad", of(intOf(1)), impl.MeanVal{}, none},
		{"a", "own", of(intOf(1), rowOf(5, 6)), impl.MeanVal{}, none}, {"a", "four", of(intOf(0), boolOf(true), rowOf(1)), impl.MeanVal{}, none}, {"a", "four", of(intOf(0), boolOf(true), rowOf(1), intOf(9), intOf(9)), impl.MeanVal{}, none}, {"a", "four", of(intOf(0), boolOf(true), rowOf(1), boolOf(true)), impl.MeanVal{}, none},
		// What is no value.
		{"a", "sq", of(impl.MeanVal{}), impl.MeanVal{}, none}, {"a", "sq", of(impl.MeanVal{Kind: 4}), impl.MeanVal{}, none}, {"a", "sq", of(impl.MeanVal{Kind: -1, Num: 1}), impl.MeanVal{}, none}, {"a", "sq", of(impl.MeanVal{Kind: 1, Num: 1, Row: []int{1}}), impl.MeanVal{}, none}, {"a", "sq", of(impl.MeanVal{Kind: 1, Num: 2, Row: []int{}}), intOf(4), halts(3)},
		{"a", "neg", of(impl.MeanVal{Kind: 2, Num: 2}), impl.MeanVal{}, none}, {"a", "neg", of(impl.MeanVal{Kind: 2, Num: -1}), impl.MeanVal{}, none}, {"a", "neg", of(impl.MeanVal{Kind: 2, Num: 1, Row: []int{0}}), impl.MeanVal{}, none}, {"a", "id", of(impl.MeanVal{Kind: 3, Num: 1}), impl.MeanVal{}, none}, {"a", "id", of(impl.MeanVal{Kind: 3, Num: 1, Row: []int{1}}), impl.MeanVal{}, none},
		// No such module, no such function.
		{"c", "sq", of(intOf(1)), impl.MeanVal{}, none}, {"", "sq", of(intOf(1)), impl.MeanVal{}, none}, {"a", "nope", nil, impl.MeanVal{}, none}, {"a", "", nil, impl.MeanVal{}, none}, {"a", "main", nil, impl.MeanVal{}, none}, {"b", "own", of(rowOf(5), intOf(0)), impl.MeanVal{}, none}, {"b", "a.sq", of(intOf(1)), impl.MeanVal{}, none}, {"a", "print", of(intOf(1)), impl.MeanVal{}, none},
	} {
		for _, fuel := range []int{c.end.Steps, c.end.Steps + 1, 100000} {
			val, end := checkCall(t, "listed", mods, c.mod, c.name, c.args, fuel)
			if !sameVal(val, c.val) || !sameEnd(end, c.end) {
				t.Errorf("case %d with %d: %v, %v; want %v, %v", i, fuel, val, end, c.val, c.end)
			}
		}
		for fuel := range c.end.Steps {
			if val, end := checkCall(t, "starving", mods, c.mod, c.name, c.args, fuel); end.End != impl.MeanFuel || end.Steps != fuel || !isNothing(val) {
				t.Errorf("case %d with %d: %v, %v", i, fuel, val, end)
			}
		}
	}
	if val, end := checkCall(t, "no modules", nil, "", "", nil, 10); !isNothing(val) || !sameEnd(end, none) {
		t.Error(val, end)
	}
}
