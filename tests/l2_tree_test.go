package tests

import (
	"math"
	"math/rand"
	"reflect"
	"slices"
	"strconv"
	"strings"
	"testing"

	"loop.example/smithy/impl"
)

const primWords = "+ - * / % < <= = not at len put join print and or"

func TestTreeLimits(t *testing.T) {
	if got := []int{impl.TreeMaxUses, impl.TreeMaxFuns, impl.TreeMaxArgs, impl.TreeMaxList, impl.TreeMaxNodes, impl.TreeMaxDepth}; !slices.Equal(got, []int{4, 8, 4, 8, 150, 16}) {
		t.Error(got)
	}
	if got := []int{impl.TreeInt, impl.TreeBool, impl.TreeRow}; !slices.Equal(got, []int{1, 2, 3}) {
		t.Error(got)
	}
	if got := []int{impl.TreeNum, impl.TreeFlag, impl.TreeVar, impl.TreePrim, impl.TreeIf, impl.TreeLet, impl.TreeCall, impl.TreeList}; !slices.Equal(got, []int{1, 2, 3, 4, 5, 6, 7, 8}) {
		t.Error(got)
	}
	if got := []int{impl.TreeText, impl.TreeForm, impl.TreeWrong}; !slices.Equal(got, []int{1, 2, 3}) {
		t.Error(got)
	}
}

func TestTreeType(t *testing.T) {
	for n := -300; n <= 300; n++ {
		want := ""
		if n >= 1 && n <= 3 {
			want = []string{"int", "bool", "row"}[n-1]
		}
		if got := impl.TreeType(n); got != want {
			t.Errorf("TreeType(%d) = %q", n, got)
		}
	}
	for _, n := range []int{math.MinInt, math.MaxInt, 1 << 32, 1<<32 + 1, 1<<62 + 2} {
		if got := impl.TreeType(n); got != "" {
			t.Errorf("TreeType(%d) = %q", n, got)
		}
	}
}

func TestTreeArity(t *testing.T) {
	want := map[string]int{"not": 1, "len": 1, "print": 1, "put": 3}
	for _, word := range strings.Fields("+ - * / % < <= = at join and or") {
		want[word] = 2
	}
	if len(want) != len(strings.Fields(primWords)) {
		t.Fatal(len(want))
	}
	words := strings.Fields(primWords + " " + ownWords + " > >= == != ++ -- ** // && || ! puts ands x f lib.sum Not NOT 1 0 ( ) . \xff")
	words = append(words, "", " ", "+ ", " +", "\n", "+\n", "put put", strings.Repeat("+", 10000))
	for _, word := range words {
		n, known := want[word]
		if !known {
			n = -1
		}
		if got := impl.TreeArity(word); got != n {
			t.Errorf("TreeArity(%.20q) = %d; want %d", word, got, n)
		}
	}
	everyText("+-*/%<=!>& ", 3, func(word string) {
		if _, known := want[word]; !known && impl.TreeArity(word) != -1 {
			t.Errorf("TreeArity(%q) = %d", word, impl.TreeArity(word))
		}
	})
}

// Short ways to write expressions.

func num(n int) impl.TreeExpr { return impl.TreeExpr{Kind: impl.TreeNum, Num: n} }

func flag(n int) impl.TreeExpr { return impl.TreeExpr{Kind: impl.TreeFlag, Num: n} }

func variable(name string) impl.TreeExpr { return impl.TreeExpr{Kind: impl.TreeVar, Name: name} }

func prim(name string, kids ...impl.TreeExpr) impl.TreeExpr {
	return impl.TreeExpr{Kind: impl.TreePrim, Name: name, Kids: kids}
}

func choice(kids ...impl.TreeExpr) impl.TreeExpr { return impl.TreeExpr{Kind: impl.TreeIf, Kids: kids} }

func let(name string, kids ...impl.TreeExpr) impl.TreeExpr {
	return impl.TreeExpr{Kind: impl.TreeLet, Name: name, Kids: kids}
}

func call(mod, name string, kids ...impl.TreeExpr) impl.TreeExpr {
	return impl.TreeExpr{Kind: impl.TreeCall, Mod: mod, Name: name, Kids: kids}
}

func list(kids ...impl.TreeExpr) impl.TreeExpr { return impl.TreeExpr{Kind: impl.TreeList, Kids: kids} }

func mainOf(e impl.TreeExpr) impl.TreeMod { return impl.TreeMod{Main: []impl.TreeExpr{e}} }

func funOf(e impl.TreeExpr) impl.TreeMod {
	return impl.TreeMod{Funs: []impl.TreeFun{{Name: "f", Type: impl.TreeInt, Body: e}}}
}

// chain is an expression of this depth, with one expression a level.
func chain(depth int) impl.TreeExpr {
	e := num(1)
	for range depth - 1 {
		e = prim("not", e)
	}
	return e
}

// spread is an expression of so many expressions, none of them deep.
func spread(nodes int) impl.TreeExpr {
	kids := make([]impl.TreeExpr, 0, 8)
	for left := nodes - 1; left > 0; {
		n := min(left, max(1, (nodes+6)/8))
		if len(kids) == 7 {
			n = left
		}
		if n == 1 {
			kids = append(kids, num(7))
		} else {
			kids = append(kids, spread(n))
		}
		left -= n
	}
	return list(kids...)
}

// plainNodes counts by another way than the program.
func plainNodes(e impl.TreeExpr) (int, int) {
	nodes, deep := 1, 0
	for _, kid := range e.Kids {
		n, d := plainNodes(kid)
		nodes, deep = nodes+n, max(deep, d)
	}
	return nodes, deep + 1
}

func checkNodes(t *testing.T, e impl.TreeExpr, nodes, depth int) {
	t.Helper()
	if n, d := impl.TreeNodes(e); n != nodes || d != depth {
		t.Errorf("TreeNodes = %d, %d; want %d, %d", n, d, nodes, depth)
	}
}

func TestTreeNodes(t *testing.T) {
	checkNodes(t, impl.TreeExpr{}, 1, 1)
	checkNodes(t, num(1), 1, 1)
	checkNodes(t, list(), 1, 1)
	checkNodes(t, impl.TreeExpr{Kids: []impl.TreeExpr{}}, 1, 1)
	checkNodes(t, prim("+", num(1), num(1)), 3, 2)
	checkNodes(t, prim("+", prim("not", num(1)), num(1)), 4, 3)
	checkNodes(t, prim("+", num(1), prim("not", num(1))), 4, 3)
	checkNodes(t, let("x", num(1), choice(flag(1), call("", "f"), list(num(1), prim("len", list())))), 9, 5)
	checkNodes(t, chain(17), 17, 17)
	for _, n := range []int{1, 2, 8, 9, 10, 150, 151, 1000} {
		if got, _ := plainNodes(spread(n)); got != n {
			t.Error("spread", n, got)
		}
	}
	// It counts what is wrong, too.
	checkNodes(t, impl.TreeExpr{Kind: -5, Kids: []impl.TreeExpr{{Kind: 99}, {Kind: impl.TreeNum, Kids: []impl.TreeExpr{{}}}}}, 4, 3)
	checkNodes(t, list(make([]impl.TreeExpr, 5000)...), 5001, 2)
	r := rand.New(rand.NewSource(3))
	for range 2000 {
		e := turnedExpr(r, randomExpr(r, 1+r.Intn(60), 8))
		n, d := plainNodes(e)
		checkNodes(t, e, n, d)
	}
}

func TestTreeNodesHuge(t *testing.T) {
	checkNodes(t, chain(300000), 300000, 300000)
	// The same Kids twice on each of 40 levels: 2 to the 41 less 1.
	e := num(1)
	for range 40 {
		e = prim("+", e, e)
	}
	checkNodes(t, e, 1<<41-1, 41)
	for range 40 {
		e = prim("+", e, e)
	}
	if _, d := impl.TreeNodes(e); d != 81 {
		t.Error(d)
	}
	if impl.TreeOk(mainOf(e)) || !impl.TreeSame(mainOf(e), mainOf(e)) || impl.TreeSame(mainOf(e), mainOf(prim("+", e, num(1)))) {
		t.Error("much in little")
	}
	// One list is of Kids on two levels.
	leaf := []impl.TreeExpr{num(1), num(2)}
	checkNodes(t, list(list(leaf...), impl.TreeExpr{Kind: impl.TreeList, Kids: leaf}, list(impl.TreeExpr{Kind: impl.TreeList, Kids: leaf})), 11, 4)
}

// round is an expression that is its own kid.
func round(name string) impl.TreeExpr {
	kids := []impl.TreeExpr{prim(name)}
	kids[0].Kids = kids
	return kids[0]
}

func TestTreeEndless(t *testing.T) {
	e := round("not")
	if n, d := impl.TreeNodes(e); n <= impl.TreeMaxNodes || d <= impl.TreeMaxDepth {
		t.Error(n, d)
	}
	m := mainOf(e)
	if impl.TreeOk(m) || impl.TreePrint(m) != "" || impl.TreeOk(funOf(e)) {
		t.Error("what is endless is ok")
	}
	if !impl.TreeSame(m, m) || impl.TreeSame(m, mainOf(round("len"))) || impl.TreeSame(m, mainOf(chain(3))) || impl.TreeSame(mainOf(chain(3)), m) {
		t.Error("same")
	}
	twice := []impl.TreeExpr{prim("not")}
	twice[0].Kids = []impl.TreeExpr{prim("not")}
	twice[0].Kids[0].Kids = twice
	if !impl.TreeSame(m, mainOf(twice[0])) {
		t.Error("the same without end")
	}
}

// everyKind is a right expression of each kind, and of each primitive.
func everyKind() []impl.TreeExpr {
	a, b, c := num(1), flag(0), variable("x")
	all := []impl.TreeExpr{
		num(0), num(7), num(-7), flag(0), flag(1), variable("x"), variable("abcdefgh"),
		choice(a, b, c), let("x", a, b), call("", "f"), call("", "f", a), call("lib", "f", a, b), call("", "f", a, b, c, a),
		list(), list(a), list(a, b, c, a, b, c, a, b),
	}
	for _, word := range strings.Fields(primWords) {
		all = append(all, prim(word, []impl.TreeExpr{a, b, c}[:impl.TreeArity(word)]...))
	}
	return all
}

// plainRight says what is right by another way than the program.
func plainRight(e impl.TreeExpr) bool {
	ok := e.Mod == "" || e.Kind == 7 && impl.LexName(e.Mod)
	switch e.Kind {
	case 1:
		ok = ok && e.Num > -100000000000000000 && e.Num < 100000000000000000
	case 2:
		ok = ok && e.Num&1 == e.Num
	default:
		ok = ok && e.Num == 0
	}
	switch e.Kind {
	case 3, 6, 7:
		ok = ok && impl.LexName(e.Name)
	case 4:
		ok = ok && slices.Contains(strings.Fields(primWords), e.Name)
	default:
		ok = ok && e.Name == ""
	}
	least, most := 0, 0
	switch e.Kind {
	case 1, 2, 3:
	case 4:
		least, most = impl.TreeArity(e.Name), impl.TreeArity(e.Name)
	case 5:
		least, most = 3, 3
	case 6:
		least, most = 2, 2
	case 7:
		most = 4
	case 8:
		most = 8
	default:
		ok = false
	}
	ok = ok && len(e.Kids) >= least && len(e.Kids) <= most
	for _, kid := range e.Kids {
		ok = ok && plainRight(kid)
	}
	return ok
}

// plainOk says what is ok by another way than the program.
func plainOk(m impl.TreeMod) bool {
	ok := len(m.Uses) <= 4 && len(m.Funs) <= 8 && len(m.Main) <= 1 && plainNames(m.Uses)
	nodes := 0
	look := func(e impl.TreeExpr) {
		n, d := plainNodes(e)
		nodes += n
		ok = ok && d <= 16 && plainRight(e)
	}
	var funs []string
	for _, f := range m.Funs {
		funs = append(funs, f.Name)
		var args []string
		for _, a := range f.Args {
			args = append(args, a.Name)
			ok = ok && a.Type >= 1 && a.Type <= 3
		}
		ok = ok && len(args) <= 4 && plainNames(args) && f.Type >= 1 && f.Type <= 3
		look(f.Body)
	}
	for _, e := range m.Main {
		look(e)
	}
	return ok && plainNames(funs) && nodes <= 150
}

func plainNames(names []string) bool {
	once := map[string]int{}
	for _, n := range names {
		once[n]++
	}
	for n := range once {
		if !impl.LexName(n) {
			return false
		}
	}
	return len(once) == len(names)
}

func checkOk(t *testing.T, what string, m impl.TreeMod, want bool) {
	t.Helper()
	if got := impl.TreeOk(m); got != want {
		t.Errorf("%s: TreeOk = %v", what, got)
	}
	if text := impl.TreePrint(m); !want && text != "" || want && text == "" && len(m.Uses)+len(m.Funs)+len(m.Main) > 0 {
		t.Errorf("%s: TreePrint = %q", what, text)
	}
}

// inEach checks a module in which an expression is Main, a Body, and within another one.
func inEach(t *testing.T, what string, e impl.TreeExpr, want bool) {
	t.Helper()
	checkOk(t, what+" as Main", mainOf(e), want)
	checkOk(t, what+" as a Body", funOf(e), want)
	checkOk(t, what+" within", mainOf(list(num(1), let("x", e, num(2)))), want)
	checkOk(t, what+" last", mainOf(choice(num(1), num(2), prim("put", num(1), num(2), e))), want)
}

// What is not written may not be there either.
func TestTreeOkParts(t *testing.T) {
	turns := []func(*impl.TreeExpr){
		func(e *impl.TreeExpr) { e.Num = 1 }, func(e *impl.TreeExpr) { e.Num = -1 }, func(e *impl.TreeExpr) { e.Num = 2 },
		func(e *impl.TreeExpr) { e.Num = math.MinInt }, func(e *impl.TreeExpr) { e.Num = math.MaxInt },
		func(e *impl.TreeExpr) { e.Name = "" }, func(e *impl.TreeExpr) { e.Name = "x" }, func(e *impl.TreeExpr) { e.Name = "not" },
		func(e *impl.TreeExpr) { e.Name = "row" }, func(e *impl.TreeExpr) { e.Name = "X" }, func(e *impl.TreeExpr) { e.Name = "abcdefghi" }, func(e *impl.TreeExpr) { e.Name = "a.b" },
		func(e *impl.TreeExpr) { e.Mod = "" }, func(e *impl.TreeExpr) { e.Mod = "m" }, func(e *impl.TreeExpr) { e.Mod = "main" }, func(e *impl.TreeExpr) { e.Mod = "a.b" }, func(e *impl.TreeExpr) { e.Mod = " " },
		func(e *impl.TreeExpr) { e.Kids = nil }, func(e *impl.TreeExpr) { e.Kids = []impl.TreeExpr{} },
		func(e *impl.TreeExpr) { e.Kids = append(slices.Clone(e.Kids), num(1)) },
		func(e *impl.TreeExpr) { e.Kids = append(slices.Clone(e.Kids), impl.TreeExpr{}) },
		func(e *impl.TreeExpr) { e.Kids = slices.Clone(e.Kids)[:max(0, len(e.Kids)-1)] },
		func(e *impl.TreeExpr) { e.Kind = 0 }, func(e *impl.TreeExpr) { e.Kind = 9 }, func(e *impl.TreeExpr) { e.Kind = -1 }, func(e *impl.TreeExpr) { e.Kind = e.Kind + 1<<32 },
	}
	for kind := 1; kind <= 8; kind++ {
		turns = append(turns, func(e *impl.TreeExpr) { e.Kind = kind })
	}
	right, wrong := 0, 0
	for _, e := range everyKind() {
		inEach(t, "right", e, true)
		for i, turn := range turns {
			other := e
			turn(&other)
			want := plainRight(other)
			inEach(t, "kind "+strconv.Itoa(e.Kind)+" "+e.Name+" turn "+strconv.Itoa(i), other, want)
			if want {
				right++
			} else {
				wrong++
			}
		}
	}
	if right < 50 || wrong < 500 {
		t.Error(right, wrong)
	}
	inEach(t, "nothing", impl.TreeExpr{}, false)
}

func TestTreeOkNumbers(t *testing.T) {
	for _, n := range []int{0, 1, -1, 99999999999999999, -99999999999999999, 99999999999999998} {
		inEach(t, strconv.Itoa(n), num(n), true)
	}
	for _, n := range []int{100000000000000000, -100000000000000000, 100000000000000001, math.MaxInt, math.MinInt, math.MinInt + 1} {
		inEach(t, strconv.Itoa(n), num(n), false)
	}
	for n := -3; n <= 3; n++ {
		inEach(t, "flag", flag(n), n == 0 || n == 1)
	}
}

func names(n int) []string {
	var all []string
	for i := range n {
		all = append(all, string(rune('a'+i)))
	}
	return all
}

func TestTreeOkBounds(t *testing.T) {
	for n := range 7 {
		checkOk(t, "uses", impl.TreeMod{Uses: names(n)}, n <= 4)
		var args []impl.TreeArg
		for _, name := range names(n) {
			args = append(args, impl.TreeArg{Name: name, Type: 1 + len(args)%3})
		}
		checkOk(t, "args", impl.TreeMod{Funs: []impl.TreeFun{{Name: "f", Args: args, Type: 1, Body: num(1)}}}, n <= 4)
		inEach(t, "call", call("", "f", slices.Repeat([]impl.TreeExpr{num(1)}, n)...), n <= 4)
		inEach(t, "call of a module", call("lib", "f", slices.Repeat([]impl.TreeExpr{num(1)}, n)...), n <= 4)
	}
	for n := range 11 {
		inEach(t, "list", list(slices.Repeat([]impl.TreeExpr{num(1)}, n)...), n <= 8)
		var funs []impl.TreeFun
		for _, name := range names(n) {
			funs = append(funs, impl.TreeFun{Name: name, Type: 1, Body: num(1)})
		}
		checkOk(t, "funs", impl.TreeMod{Funs: funs}, n <= 8)
	}
	for n := range 4 {
		checkOk(t, "mains", impl.TreeMod{Main: slices.Repeat([]impl.TreeExpr{num(1)}, n)}, n <= 1)
	}
	for n := 14; n <= 18; n++ {
		checkOk(t, "deep Main", mainOf(chain(n)), n <= 16)
		checkOk(t, "deep Body", funOf(chain(n)), n <= 16)
		checkOk(t, "deep behind", mainOf(prim("+", num(1), chain(n-1))), n <= 16)
		checkOk(t, "deep ahead", mainOf(prim("+", chain(n-1), num(1))), n <= 16)
	}
	checkOk(t, "very deep", mainOf(chain(300000)), false)
	for _, n := range []int{148, 149, 150, 151, 152, 100000} {
		checkOk(t, "large Main", mainOf(spread(n)), n <= 150)
		checkOk(t, "large Body", funOf(spread(n)), n <= 150)
		both := funOf(spread(50))
		both.Main = []impl.TreeExpr{spread(n - 50)}
		checkOk(t, "large together", both, n <= 150)
		both.Funs = append(both.Funs, impl.TreeFun{Name: "g", Type: 1, Body: spread(n - 50)})
		both.Main = nil
		checkOk(t, "large bodies", both, n <= 150)
	}
}

func TestTreeOkNames(t *testing.T) {
	wrong := append(strings.Fields(ownWords), "", "A", "abcdefghi", "a1", "a.b", "+", "(", "a b", "é", "\xff")
	fun := func(name string) impl.TreeFun { return impl.TreeFun{Name: name, Type: 1, Body: num(1)} }
	withArgs := func(names ...string) impl.TreeMod {
		f := fun("f")
		for _, name := range names {
			f.Args = append(f.Args, impl.TreeArg{Name: name, Type: 1})
		}
		return impl.TreeMod{Funs: []impl.TreeFun{f}}
	}
	for _, name := range wrong {
		checkOk(t, "use "+name, impl.TreeMod{Uses: []string{name}}, false)
		checkOk(t, "last use "+name, impl.TreeMod{Uses: []string{"a", name}}, false)
		checkOk(t, "fun "+name, impl.TreeMod{Funs: []impl.TreeFun{fun(name)}}, false)
		checkOk(t, "last fun "+name, impl.TreeMod{Funs: []impl.TreeFun{fun("a"), fun(name)}}, false)
		checkOk(t, "arg "+name, withArgs(name), false)
		checkOk(t, "last arg "+name, withArgs("a", name), false)
		inEach(t, "var "+name, variable(name), false)
		inEach(t, "let "+name, let(name, num(1), num(1)), false)
		inEach(t, "call "+name, call("", name), false)
		inEach(t, "call of "+name, call(name, "f"), name == "")
	}
	for _, twice := range [][]string{{"a", "a"}, {"a", "b", "a"}, {"a", "b", "b"}, {"a", "b", "c", "a"}} {
		checkOk(t, "uses twice", impl.TreeMod{Uses: twice}, false)
		checkOk(t, "args twice", withArgs(twice...), false)
		var m impl.TreeMod
		for _, name := range twice {
			m.Funs = append(m.Funs, fun(name))
		}
		checkOk(t, "funs twice", m, false)
		// Pub or not, with whatever parameters: it is the name that counts.
		m.Funs[0].Pub = true
		m.Funs[0].Args = []impl.TreeArg{{Name: "z", Type: 1}}
		checkOk(t, "funs twice", m, false)
	}
	// Names of different sorts may be alike.
	m := withArgs("f", "a")
	m.Uses = []string{"f", "a"}
	m.Funs = append(m.Funs, fun("a"))
	m.Funs[1].Args = []impl.TreeArg{{Name: "a", Type: 3}}
	checkOk(t, "alike", m, true)
	for _, n := range []int{-1, 0, 1, 2, 3, 4, math.MinInt, math.MaxInt, 1<<32 + 1} {
		m := withArgs("a", "b")
		m.Funs[0].Type = n
		checkOk(t, "type of a function", m, n >= 1 && n <= 3)
		m = withArgs("a", "b")
		m.Funs[0].Args[1].Type = n
		checkOk(t, "type of a parameter", m, n >= 1 && n <= 3)
	}
	checkOk(t, "nothing", impl.TreeMod{}, true)
	checkOk(t, "nothing", impl.TreeMod{Uses: []string{}, Funs: []impl.TreeFun{}, Main: []impl.TreeExpr{}}, true)
	checkOk(t, "a function of nothing", impl.TreeMod{Funs: []impl.TreeFun{{}}}, false)
	checkOk(t, "a function without a body", impl.TreeMod{Funs: []impl.TreeFun{{Name: "f", Type: 1}}}, false)
}

func randomName(r *rand.Rand) string {
	for {
		word := make([]byte, 1+r.Intn(1+r.Intn(8)))
		for i := range word {
			word[i] = byte('a' + r.Intn(26))
		}
		if impl.LexName(string(word)) {
			return string(word)
		}
	}
}

func randomNames(r *rand.Rand, most int) []string {
	var all []string
	for range r.Intn(most + 1) {
		if name := randomName(r); !slices.Contains(all, name) {
			all = append(all, name)
		}
	}
	return all
}

// randomExpr is a right expression of at most so many expressions, at most so deep.
func randomExpr(r *rand.Rand, nodes, depth int) impl.TreeExpr {
	e := impl.TreeExpr{Kind: 1 + r.Intn(8)}
	kids := 0
	switch e.Kind {
	case impl.TreePrim:
		e.Name = strings.Fields(primWords)[r.Intn(16)]
		kids = impl.TreeArity(e.Name)
	case impl.TreeIf:
		kids = 3
	case impl.TreeLet:
		e.Name = randomName(r)
		kids = 2
	case impl.TreeCall:
		e.Name = randomName(r)
		if r.Intn(2) == 0 {
			e.Mod = randomName(r)
		}
		kids = r.Intn(min(4, nodes-1) + 1)
	case impl.TreeList:
		kids = r.Intn(min(8, nodes-1) + 1)
	}
	if kids >= nodes || kids > 0 && depth == 1 {
		e, kids = impl.TreeExpr{Kind: 1 + r.Intn(3)}, 0
	}
	switch e.Kind {
	case impl.TreeNum:
		e.Num = r.Intn(21) - 10
		if r.Intn(4) == 0 {
			e.Num = r.Intn(199999999999999999) - 99999999999999999
		}
	case impl.TreeFlag:
		e.Num = r.Intn(2)
	case impl.TreeVar:
		e.Name = randomName(r)
	}
	for range kids {
		e.Kids = append(e.Kids, randomExpr(r, (nodes-1)/kids, depth-1))
	}
	return e
}

// randomMod is a module that is ok.
func randomMod(r *rand.Rand) impl.TreeMod {
	m := impl.TreeMod{Uses: randomNames(r, 4)}
	funs := randomNames(r, 8)
	for _, name := range funs {
		f := impl.TreeFun{Name: name, Pub: r.Intn(2) == 0, Type: 1 + r.Intn(3), Body: randomExpr(r, 150/(len(funs)+1), 1+r.Intn(16))}
		for _, arg := range randomNames(r, 4) {
			f.Args = append(f.Args, impl.TreeArg{Name: arg, Type: 1 + r.Intn(3)})
		}
		m.Funs = append(m.Funs, f)
	}
	if r.Intn(2) == 0 {
		m.Main = []impl.TreeExpr{randomExpr(r, 150/(len(funs)+1), 1+r.Intn(16))}
	}
	return m
}

func randomWrongName(r *rand.Rand) string {
	all := append(strings.Fields(ownWords+" "+primWords), "", "x", "abcdefgh", "abcdefghi", "a.b", "(", ")", "1")
	return all[r.Intn(len(all))]
}

// turnedExpr is an expression with one part anywhere in it turned.
func turnedExpr(r *rand.Rand, e impl.TreeExpr) impl.TreeExpr {
	e.Kids = slices.Clone(e.Kids)
	if len(e.Kids) > 0 && r.Intn(4) > 0 {
		i := r.Intn(len(e.Kids))
		e.Kids[i] = turnedExpr(r, e.Kids[i])
		return e
	}
	switch r.Intn(7) {
	case 0:
		e.Kind = r.Intn(11) - 1
	case 1:
		e.Num = r.Intn(7) - 3
	case 2:
		e.Num = []int{99999999999999999, 100000000000000000, -99999999999999999, -100000000000000000, math.MinInt, math.MaxInt}[r.Intn(6)]
	case 3:
		e.Name = randomWrongName(r)
	case 4:
		e.Mod = randomWrongName(r)
	case 5:
		e.Kids = append(e.Kids, randomExpr(r, 5, 2))
	case 6:
		e.Kids = e.Kids[:max(0, len(e.Kids)-1)]
	}
	return e
}

// turnedMod is a module with one part turned; most are not ok.
func turnedMod(r *rand.Rand, m impl.TreeMod) impl.TreeMod {
	m.Uses, m.Funs, m.Main = slices.Clone(m.Uses), slices.Clone(m.Funs), slices.Clone(m.Main)
	switch n := r.Intn(12); {
	case n == 0 && len(m.Uses) > 0:
		m.Uses[r.Intn(len(m.Uses))] = randomWrongName(r)
	case n == 1:
		m.Uses = append(m.Uses, randomName(r))
	case n == 2 && len(m.Uses) > 0:
		m.Uses = append(m.Uses, m.Uses[r.Intn(len(m.Uses))])
	case n == 3:
		m.Main = append(m.Main, randomExpr(r, 20, 4))
	case n == 4 && len(m.Main) > 0:
		m.Main[0] = turnedExpr(r, m.Main[0])
	case n == 5 && len(m.Main) > 0:
		m.Main = nil
	case len(m.Funs) > 0:
		i := r.Intn(len(m.Funs))
		f := &m.Funs[i]
		f.Args = slices.Clone(f.Args)
		switch r.Intn(8) {
		case 0:
			f.Name = randomWrongName(r)
		case 1:
			f.Type = r.Intn(6) - 1
		case 2:
			f.Args = append(f.Args, impl.TreeArg{Name: randomName(r), Type: r.Intn(5)})
		case 3:
			f.Pub = !f.Pub
		case 4:
			m.Funs = append(m.Funs, m.Funs[r.Intn(len(m.Funs))])
		case 5:
			if len(f.Args) > 0 {
				f.Args[r.Intn(len(f.Args))] = impl.TreeArg{Name: randomWrongName(r), Type: r.Intn(5)}
			}
		default:
			f.Body = turnedExpr(r, f.Body)
		}
	default:
		m.Uses = append(m.Uses, "a", "b", "c", "d", "e")
	}
	return m
}

func TestTreeOkRandom(t *testing.T) {
	r := rand.New(rand.NewSource(4))
	right, wrong := 0, 0
	for range 20000 {
		m := randomMod(r)
		if !plainOk(m) {
			t.Fatal("the test's own module is not ok")
		}
		checkOk(t, "random", m, true)
		m = turnedMod(r, m)
		want := plainOk(m)
		checkOk(t, "turned", m, want)
		if want {
			right++
		} else {
			wrong++
		}
	}
	if right < 1000 || wrong < 5000 {
		t.Error(right, wrong)
	}
}

// settled is a module with nil in the place of each empty list, to be held against others by reflection.
func settled(m impl.TreeMod) impl.TreeMod {
	var expr func(e impl.TreeExpr) impl.TreeExpr
	expr = func(e impl.TreeExpr) impl.TreeExpr {
		var kids []impl.TreeExpr
		for _, kid := range e.Kids {
			kids = append(kids, expr(kid))
		}
		e.Kids = kids
		return e
	}
	var out impl.TreeMod
	out.Uses = append(out.Uses, m.Uses...)
	for _, f := range m.Funs {
		f.Args = append([]impl.TreeArg(nil), f.Args...)
		f.Body = expr(f.Body)
		out.Funs = append(out.Funs, f)
	}
	for _, e := range m.Main {
		out.Main = append(out.Main, expr(e))
	}
	return out
}

func plainSame(a, b impl.TreeMod) bool { return reflect.DeepEqual(settled(a), settled(b)) }

func TestTreeSame(t *testing.T) {
	r := rand.New(rand.NewSource(5))
	same, other := 0, 0
	for range 5000 {
		m := randomMod(r)
		if !impl.TreeSame(m, m) || !impl.TreeSame(m, settled(m)) || !impl.TreeSame(settled(m), m) {
			t.Fatal("a module is not the same as itself")
		}
		turned := turnedMod(r, m)
		want := plainSame(m, turned)
		if impl.TreeSame(m, turned) != want || impl.TreeSame(turned, m) != want || !impl.TreeSame(turned, settled(turned)) {
			t.Fatalf("TreeSame is not %v: %q %q", want, impl.TreePrint(m), impl.TreePrint(turned))
		}
		if want {
			same++
		} else {
			other++
		}
	}
	if same < 100 || other < 1000 {
		t.Error(same, other)
	}
}

// Each part counts, whether or not the modules are ok.
func TestTreeSameParts(t *testing.T) {
	base := func() impl.TreeMod {
		return impl.TreeMod{
			Uses: []string{"a", "b"},
			Funs: []impl.TreeFun{{Name: "f", Pub: true, Args: []impl.TreeArg{{Name: "x", Type: 1}, {Name: "y", Type: 2}}, Type: 1,
				Body: impl.TreeExpr{Kind: 77, Num: 5, Name: "n", Mod: "m", Kids: []impl.TreeExpr{num(1), list(num(2), num(3))}}}, {Name: "g"}},
			Main: []impl.TreeExpr{num(1), flag(1)},
		}
	}
	for i, turn := range []func(*impl.TreeMod){
		func(m *impl.TreeMod) { m.Uses = nil }, func(m *impl.TreeMod) { m.Uses[1] = "c" }, func(m *impl.TreeMod) { m.Uses = m.Uses[:1] },
		func(m *impl.TreeMod) { m.Uses = append(m.Uses, "") }, func(m *impl.TreeMod) { slices.Reverse(m.Uses) },
		func(m *impl.TreeMod) { m.Funs = m.Funs[:1] }, func(m *impl.TreeMod) { m.Funs = append(m.Funs, impl.TreeFun{}) }, func(m *impl.TreeMod) { slices.Reverse(m.Funs) },
		func(m *impl.TreeMod) { m.Funs[0].Name = "h" }, func(m *impl.TreeMod) { m.Funs[0].Pub = false }, func(m *impl.TreeMod) { m.Funs[0].Type = 2 },
		func(m *impl.TreeMod) { m.Funs[0].Args = nil }, func(m *impl.TreeMod) { m.Funs[0].Args[1].Name = "z" }, func(m *impl.TreeMod) { m.Funs[0].Args[1].Type = 3 },
		func(m *impl.TreeMod) { m.Funs[0].Args = append(m.Funs[0].Args, impl.TreeArg{}) },
		func(m *impl.TreeMod) { m.Funs[0].Body.Kind = 78 }, func(m *impl.TreeMod) { m.Funs[0].Body.Num = 6 }, func(m *impl.TreeMod) { m.Funs[0].Body.Name = "" },
		func(m *impl.TreeMod) { m.Funs[0].Body.Mod = "n" }, func(m *impl.TreeMod) { m.Funs[0].Body.Kids = nil }, func(m *impl.TreeMod) { m.Funs[0].Body.Kids[1].Kids[1].Num = 4 },
		func(m *impl.TreeMod) { m.Funs[0].Body.Kids[1].Kids = m.Funs[0].Body.Kids[1].Kids[:1] },
		func(m *impl.TreeMod) { m.Funs[0].Body.Kids[0].Kids = []impl.TreeExpr{{}} },
		func(m *impl.TreeMod) { m.Main = nil }, func(m *impl.TreeMod) { m.Main = m.Main[:1] }, func(m *impl.TreeMod) { m.Main[1].Num = 0 }, func(m *impl.TreeMod) { m.Main[1].Kids = []impl.TreeExpr{{}} },
		func(m *impl.TreeMod) { m.Main = append(m.Main, impl.TreeExpr{}) },
	} {
		m := base()
		turn(&m)
		if !impl.TreeSame(base(), base()) || !impl.TreeSame(m, m) || impl.TreeSame(m, base()) || impl.TreeSame(base(), m) {
			t.Error("turn", i)
		}
	}
	if !impl.TreeSame(impl.TreeMod{}, impl.TreeMod{Uses: []string{}, Funs: []impl.TreeFun{}, Main: []impl.TreeExpr{}}) {
		t.Error("the empty list is the nil list")
	}
	a, b := funOf(num(1)), funOf(num(1))
	a.Funs[0].Args, a.Funs[0].Body.Kids = []impl.TreeArg{}, []impl.TreeExpr{}
	if !impl.TreeSame(a, b) || !impl.TreeSame(b, a) {
		t.Error("the empty list is the nil list, within")
	}
	if !impl.TreeSame(mainOf(chain(300000)), mainOf(chain(300000))) || impl.TreeSame(mainOf(chain(300000)), mainOf(chain(299999))) {
		t.Error("very deep")
	}
}

func TestTreePrint(t *testing.T) {
	fun := impl.TreeFun{Name: "f", Type: 1, Body: num(-1)}
	pub := impl.TreeFun{Name: "g", Pub: true, Args: []impl.TreeArg{{Name: "x", Type: 1}, {Name: "y", Type: 2}, {Name: "z", Type: 3}}, Type: 3, Body: variable("z")}
	for _, c := range []struct {
		m    impl.TreeMod
		want string
	}{
		{impl.TreeMod{}, ""},
		{impl.TreeMod{Uses: []string{"b", "a"}}, "(use b a)\n"},
		{impl.TreeMod{Funs: []impl.TreeFun{fun}}, "(fun f () int -1)\n"},
		{impl.TreeMod{Funs: []impl.TreeFun{pub, fun}}, "(pub g ((x int) (y bool) (z row)) row z)\n(fun f () int -1)\n"},
		{impl.TreeMod{Uses: []string{"a"}, Funs: []impl.TreeFun{fun}, Main: []impl.TreeExpr{list()}}, "(use a)\n(fun f () int -1)\n(main (row))\n"},
		{mainOf(num(0)), "(main 0)\n"},
		{mainOf(num(-99999999999999999)), "(main -99999999999999999)\n"},
		{mainOf(flag(0)), "(main false)\n"},
		{mainOf(flag(1)), "(main true)\n"},
		{mainOf(variable("abcdefgh")), "(main abcdefgh)\n"},
		{mainOf(prim("+", num(1), prim("not", flag(1)))), "(main (+ 1 (not true)))\n"},
		{mainOf(choice(flag(1), num(1), num(2))), "(main (if true 1 2))\n"},
		{mainOf(let("x", num(1), variable("x"))), "(main (let x 1 x))\n"},
		{mainOf(call("", "f")), "(main (f))\n"},
		{mainOf(call("lib", "f", call("", "g", num(1)), num(2))), "(main (lib.f (g 1) 2))\n"},
		{mainOf(list(num(1), list(), num(-2))), "(main (row 1 (row) -2))\n"},
		{mainOf(prim("put", list(), num(1), num(2))), "(main (put (row) 1 2))\n"},
	} {
		if got := impl.TreePrint(c.m); got != c.want {
			t.Errorf("TreePrint = %q; want %q", got, c.want)
		}
		if m, code := impl.TreeRead(c.want); code != 0 || !plainSame(m, c.m) {
			t.Errorf("TreeRead(%q) = %v, %d", c.want, m, code)
		}
	}
}

// readBack is promise 3 for a module.
func readBack(t *testing.T, m impl.TreeMod) {
	t.Helper()
	text := impl.TreePrint(m)
	got, code := impl.TreeRead(text)
	if code != 0 || !plainSame(got, m) || !impl.TreeSame(got, m) {
		t.Fatalf("%q reads with %d as %q", text, code, impl.TreePrint(got))
	}
	if !impl.TreeOk(got) || impl.TreePrint(got) != text {
		t.Fatalf("%q is read as what is not ok, or prints as %q", text, impl.TreePrint(got))
	}
}

// P3: TreeRead of TreePrint is the module.
func TestTreeReadBack(t *testing.T) {
	r := rand.New(rand.NewSource(6))
	for range 10000 {
		readBack(t, randomMod(r))
	}
	readBack(t, impl.TreeMod{})
	for _, e := range everyKind() {
		readBack(t, mainOf(e))
		readBack(t, funOf(e))
		for _, f := range everyKind() {
			readBack(t, mainOf(let("y", e, choice(f, e, f))))
		}
	}
	for n := range 5 {
		readBack(t, impl.TreeMod{Uses: names(n)})
	}
	readBack(t, mainOf(chain(16)))
	readBack(t, mainOf(spread(150)))
	readBack(t, mainOf(list(num(99999999999999999), num(-99999999999999999))))
}

// P3 for the longest text there is: all names are as long as they may be, and all bounds are met.
func TestTreeReadBackLongest(t *testing.T) {
	m := impl.TreeMod{Uses: []string{"aaaaaaaa", "aaaaaaab", "aaaaaaac", "aaaaaaad"}}
	leaf := call("abcdefgh", "abcdefgh")
	var args []impl.TreeArg
	for _, name := range m.Uses {
		args = append(args, impl.TreeArg{Name: name, Type: impl.TreeBool})
	}
	kids := slices.Repeat([]impl.TreeExpr{leaf}, 4)
	part := call("abcdefgh", "abcdefgh", call("abcdefgh", "abcdefgh", kids...), call("abcdefgh", "abcdefgh", kids...), call("abcdefgh", "abcdefgh", kids...), leaf)
	left := 150
	for i := range 8 {
		n, _ := plainNodes(part)
		left -= n
		m.Funs = append(m.Funs, impl.TreeFun{Name: "funnam" + names(8)[i], Pub: true, Args: args, Type: impl.TreeBool, Body: part})
	}
	m.Main = []impl.TreeExpr{chainOf(leaf, left)}
	if n, _ := plainNodes(m.Main[0]); n != left || !impl.TreeOk(m) {
		t.Fatal(left, n)
	}
	if n := len(impl.TreePrint(m)); n < 3500 || n > impl.LexMaxText {
		t.Error(n)
	}
	readBack(t, m)
}

// chainOf is so many calls one within another.
func chainOf(leaf impl.TreeExpr, nodes int) impl.TreeExpr {
	e := leaf
	for range nodes - 1 {
		e = call("abcdefgh", "abcdefgh", e)
	}
	return e
}
