package tests

import (
	"math/rand"
	"slices"
	"strings"
	"testing"

	"loop.example/smithy/impl"
)

// sureRunner runs an image by the table of chapter 7: it holds a stack and slots for each call, and shows them ahead of each step.
type sureRunner struct {
	m     impl.LinkImage
	fuel  int
	end   impl.MeanEnd
	watch func(fun, at int, stack, slots []impl.MeanVal)
}

// sureFrame is a function that runs.
type sureFrame struct {
	*sureRunner
	fun          int
	stack, slots []impl.MeanVal
	depth        int
}

func (f *sureFrame) push(v impl.MeanVal) {
	must(len(f.stack) < 100)
	f.stack = append(f.stack, v)
}

// pop takes as many values as these kinds, each of its own; 0 is any.
func (f *sureFrame) pop(kinds ...int) []impl.MeanVal {
	left := len(f.stack) - len(kinds)
	must(left >= 0)
	out := slices.Clone(f.stack[left:])
	f.stack = f.stack[:left]
	for i, kind := range kinds {
		must(kind == 0 || out[i].Kind == kind)
	}
	return out
}

// do does an instruction, and tells which place comes next.
func (f *sureFrame) do(at int, ins impl.CodeIns) int {
	switch ins.Op {
	case impl.CodePush:
		f.push(intOf(ins.A))
	case impl.CodeFlag:
		f.push(boolOf(ins.A == 1))
	case impl.CodeLoad:
		must(f.slots[ins.A].Kind != 0)
		f.push(f.slots[ins.A])
	case impl.CodeKeep:
		f.slots[ins.A] = f.pop(0)[0]
	case impl.CodePrim:
		f.prim(insPrims[ins.A-1])
	case impl.CodeJump:
		return ins.A
	case impl.CodeUnless:
		if f.pop(impl.TreeBool)[0].Num == 0 {
			return ins.A
		}
	case impl.CodeCall:
		args := f.pop(f.m.Funs[ins.A].Args...)
		if f.depth == 30 {
			panic(codeStop{impl.MeanStops, impl.MeanDeep})
		}
		f.push(f.run(ins.A, args, f.depth+1))
	case impl.CodeRow:
		row := rowOf()
		for _, v := range f.pop(slices.Repeat([]int{impl.TreeInt}, ins.A)...) {
			row.Row = append(row.Row, v.Num)
		}
		must(len(row.Row) <= 16)
		f.push(row)
	}
	return at + 1
}

func (f *sureFrame) prim(word string) {
	args, _ := plainPrim(word)
	v, code := plainMake(word, f.pop(args...))
	must(code >= 0)
	if code > 0 {
		panic(codeStop{impl.MeanStops, code})
	}
	if word == "print" {
		f.end.Out = append(f.end.Out, v.Num)
	}
	f.push(v)
}

// run runs a function to its `back`.
func (s *sureRunner) run(fun int, args []impl.MeanVal, depth int) impl.MeanVal {
	code := s.m.Funs[fun].Code
	f := &sureFrame{sureRunner: s, fun: fun, slots: make([]impl.MeanVal, s.m.Funs[fun].Slots), depth: depth}
	must(len(args) == len(s.m.Funs[fun].Args) && len(args) == copy(f.slots, args))
	for at := 0; ; {
		if s.end.Steps == s.fuel {
			panic(codeStop{end: impl.MeanFuel})
		}
		s.end.Steps++
		s.watch(fun, at, f.stack, f.slots)
		if code[at].Op != impl.CodeBack {
			at = f.do(at, code[at])
			continue
		}
		must(len(f.stack) == 1)
		return f.pop(s.m.Funs[fun].Type)[0]
	}
}

// told is how it ends; whatever fails but by a stop is wrong.
func (s *sureRunner) told(do func()) (end impl.MeanEnd) {
	s.end.End = impl.MeanHalt
	defer func() {
		if got := recover(); got != nil {
			stop, ok := got.(codeStop)
			if !ok {
				stop.end = impl.MeanWrong
			}
			s.end.End, s.end.Trap = stop.end, stop.trap
		}
		end = s.end
	}()
	do()
	return s.end
}

// sureRun runs a function, or all of Mains, if it is none; it shows each step.
func sureRun(m impl.LinkImage, fun int, args []impl.MeanVal, fuel int, watch func(fun, at int, stack, slots []impl.MeanVal)) impl.MeanEnd {
	s := &sureRunner{m: m, fuel: fuel, watch: watch}
	return s.told(func() {
		if fun >= 0 {
			s.run(fun, args, 1)
			return
		}
		for _, number := range m.Mains {
			s.run(number, nil, 0)
		}
	})
}

// checkRuns is P25: an image without a fault is run, by its Mains and by each function, and has just as many
// values, of these kinds, ahead of each instruction. It tells how many steps there were, and how all ended.
func checkRuns(t *testing.T, what string, r *rand.Rand, m impl.LinkImage, count *tally) int {
	t.Helper()
	var told [][][]int
	for number := range m.Funs {
		rows, ok := impl.SureStacks(m, number)
		if told = append(told, rows); !ok || len(rows) != len(m.Funs[number].Code) {
			t.Fatalf("%s: SureStacks(%s, %d) = %v, %v", what, plainImageText(m), number, rows, ok)
		}
	}
	steps := 0
	watch := func(fun, at int, stack, slots []impl.MeanVal) {
		steps++
		var kinds []int
		for _, v := range stack {
			kinds = append(kinds, v.Kind)
		}
		if !slices.Equal(kinds, told[fun][at]) {
			t.Fatalf("%s: %v is ahead of %d of %d in %s; it is told %v", what, kinds, at, fun, plainImageText(m), told[fun][at])
		}
	}
	for number := -1; number < len(m.Funs); number++ {
		for range 3 {
			var args []impl.MeanVal
			if number >= 0 {
				for _, kind := range m.Funs[number].Args {
					args = append(args, randomVal(r, kind))
				}
			}
			end := sureRun(m, number, args, 300, watch)
			if count.add(end); end.End == impl.MeanWrong {
				t.Fatalf("%s: %d of %s with %v ends with %v", what, number, plainImageText(m), args, end)
			}
		}
	}
	return steps
}

// wholeImage is the image of modules that are right together, which has no fault (P24), and the stacks that each way has.
func wholeImage(t *testing.T, what string, parts []impl.LinkPart) impl.LinkImage {
	t.Helper()
	m, fault := impl.LinkMake(parts)
	if fault.Code != 0 {
		t.Fatalf("%s: the test's own parts: %v", what, fault)
	}
	if got := checkSure(t, what, m); got != noFault {
		t.Fatalf("%s: %s has %v", what, plainImageText(m), got)
	}
	if !checkWays(t, what, m) {
		t.Fatalf("%s: %s by its ways", what, plainImageText(m))
	}
	return m
}

// P24 and P25: images of modules that are right together, in whatever order they are linked.
func TestSureMade(t *testing.T) {
	r := rand.New(rand.NewSource(68))
	var count tally
	var ops [11]int
	var prims [15]int
	mains, none, crossed, steps := 0, 0, 0, 0
	for n := range 500 {
		parts := linkedOf(t, rightMods(r, n%3 > 0))
		for range 2 {
			m := wholeImage(t, "right modules", parts)
			for _, f := range m.Funs {
				for _, ins := range f.Code {
					if ops[ins.Op]++; ins.Op == impl.CodePrim {
						prims[ins.A]++
					} else if ins.Op == impl.CodeCall && m.Funs[ins.A].Mod != f.Mod {
						crossed++
					}
				}
			}
			if mains += len(m.Mains); len(m.Mains) == 0 {
				none++
			}
			steps += checkRuns(t, "right modules", r, m, &count)
			r.Shuffle(len(parts), func(i, j int) { parts[i], parts[j] = parts[j], parts[i] })
		}
	}
	if !count.least(100, impl.MeanFuel, impl.MeanHalt, 4+impl.MeanDiv, 4+impl.MeanPlace) || slices.Min(ops[1:]) < 300 || slices.Min(prims[1:]) < 300 || mains < 300 || none < 10 || crossed < 500 || steps < 50000 {
		t.Error(count, ops, prims, mains, none, crossed, steps)
	}
}

// P24 and P25 of what is listed: each Kind, each primitive, lets within lets, ifs within ifs, with and without Main.
func TestSureMadeListed(t *testing.T) {
	r := rand.New(rand.NewSource(69))
	var count tally
	for _, texts := range [][]string{
		nil, {""}, {"", "", ""}, {"(main 1)"}, {"(main true)"}, {"(main (row))"}, {"(fun f () int 1)"},
		{"(pub f ((n int)(b bool)(r row)) row r)", "(use a)(main (a.f 1 true (row 2)))"},
		{"(main (print (+ (- 5 1) (* 2 (/ 9 (% 7 4))))))", "(main (if (not (< 1 2)) (<= 1 2) (= 1 2)))", "(main (len (join (put (row 1 2) 0 (at (row 3) 0)) (row))))"},
		{"(main (and true (or false (and (not true) (or true false)))))", "(fun f ((a bool)(b bool)) bool (or (and a b) (and (or a b) (not a))))(main (f true false))"},
		{"(main (let a 1 (let b (let c true (if c 2 3)) (let c (row a b) (let a c (len a))))))", "(main (+ (let a 1 a) (let a true (if a (let a (row) (len a)) (let b 5 b)))))"},
		{"(fun f ((n int)) int (if (< n 1) (if (= n 0) 1 (if (< n -5) 2 3)) (if (< n 5) (f (- n 1)) (f (/ n 2)))))(main (print (f 9)))"},
		{"(main (if (if true false true) (if false (row 1) (row 2)) (if (and true false) (row 3) (if (or true false) (row 4) (row)))))"},
		{"(main (let x (if true 1 2) (if (let x (= x 1) x) (let x (row x) (at x 0)) (let y false (if y x 0)))))"},
		// A slot that two ways keep with other kinds, and that is kept again behind where they meet.
		{"(main (let x (if true (let y 1 y) (let y true (if y 1 2))) (let y (row x) (len y))))", "(fun f ((b bool)) int (+ (if b (let x 1 x) (let x (row) (len x))) (let x b (if x 1 0))))(main (f true))"},
		{"(fun g () row (row 1 2 3 4 5 6 7 8))(pub f ((a row)(b row)(c row)(d row)) row (join (join a b) (join c d)))(main (len (f (g) (g) (row) (row))))", "(use a)(main (a.f (row) (row 1) (row 2 3) (row)))"},
		{"(use b)(pub f ((n int)) int (if (< n 1) 0 (+ 1 (b.f (- n 1)))))(main (print (f 9)))", "(use a)(pub f ((n int)) int (if (< n 1) 100 (+ 1 (a.f (- n 1)))))"},
	} {
		everyPart(linkedOf(t, modsOf(t, texts...)), func(parts []impl.LinkPart) {
			m := wholeImage(t, "listed", parts)
			checkRuns(t, "listed", r, m, &count)
		})
	}
	// Each Kind and each primitive with operands of all sorts.
	leaf := leaves()
	for _, word := range strings.Fields(primWords) {
		args, kind := plainPrim(word)
		var kids []impl.TreeExpr
		for _, arg := range args {
			kids = append(kids, leaf[arg])
		}
		m := mainOf(prim(word, kids...))
		m.Funs = []impl.TreeFun{{Name: "f", Pub: true, Type: kind, Body: let("x", prim(word, kids...), choice(flag(1), variable("x"), prim(word, kids...)))}}
		image := wholeImage(t, word, linkedOf(t, []impl.MeanMod{{Name: "a", Mod: m}}))
		checkRuns(t, word, r, image, &count)
	}
	// All that two forks may be within one another.
	forksWithin(func(e impl.TreeExpr) {
		m := readMod(t, "(fun f ((a bool)(b bool)(c bool)) bool true)")
		m.Funs[0].Body = e
		wholeImage(t, "forks", linkedOf(t, []impl.MeanMod{{Name: "a", Mod: m}}))
	})
}

// P24 of what is largest: as many modules, functions, expressions as may be; the highest stack; the most slots.
func TestSureMadeLarge(t *testing.T) {
	r := rand.New(rand.NewSource(70))
	var count tally
	var mods []impl.MeanMod
	for i, name := range names(8) {
		m := impl.TreeMod{Uses: names(8)[max(0, i-4):i]}
		for j, fun := range names(8) {
			f := impl.TreeFun{Name: fun, Pub: true, Type: 1, Args: []impl.TreeArg{{Name: "w", Type: 1}, {Name: "x", Type: 2}, {Name: "y", Type: 3}, {Name: "z", Type: 1}}}
			f.Body = choice(variable("x"), variable("w"), prim("len", variable("y")))
			if len(m.Uses) > 0 && j > 0 {
				f.Body = choice(variable("x"), call(m.Uses[j%len(m.Uses)], fun, variable("z"), variable("x"), variable("y"), variable("w")), call("", "a", variable("z"), variable("x"), variable("y"), variable("w")))
			}
			m.Funs = append(m.Funs, f)
		}
		m.Main = []impl.TreeExpr{prim("print", call("", "h", num(i), flag(1), list(num(1)), num(2)))}
		mods = append(mods, impl.MeanMod{Name: name, Mod: m})
	}
	m := wholeImage(t, "many", linkedOf(t, mods))
	if checkRuns(t, "many", r, m, &count); len(m.Funs) != 72 || len(m.Mains) != 8 {
		t.Error(len(m.Funs), m.Mains)
	}
	// Rows whose last number is a call with a row as its last argument: all that is ahead of them stays on the stack.
	var rowAt, callAt func(depth int) impl.TreeExpr
	rowAt = func(depth int) impl.TreeExpr {
		return list(append(slices.Repeat([]impl.TreeExpr{num(1)}, 7), callAt(depth+1))...)
	}
	callAt = func(depth int) impl.TreeExpr {
		if depth == 16 {
			return num(1)
		}
		return call("", "f", num(1), num(1), num(1), rowAt(depth+1))
	}
	high := readMod(t, "(fun f ((a int)(b int)(c int)(d row)) int (+ a (len d)))")
	high.Main = []impl.TreeExpr{rowAt(1)}
	m = wholeImage(t, "high", linkedOf(t, []impl.MeanMod{{Name: "a", Mod: high}}))
	checkRuns(t, "high", r, m, &count)
	rows, ok := impl.SureStacks(m, 1)
	if most := slices.MaxFunc(rows, func(a, b []int) int { return len(a) - len(b) }); !ok || len(most) != 8*7+7*3+1 {
		t.Error(most, ok)
	}
	// As many variables beside one another as there may be.
	deep := variable("x")
	for i := range 15 {
		deep = let("x", []impl.TreeExpr{num(1), flag(1), list()}[i%3], deep)
	}
	slots := readMod(t, "(fun f ((a int)(b bool)(c row)(d int)) int 1)")
	slots.Funs[0].Body = deep
	m = wholeImage(t, "slots", linkedOf(t, []impl.MeanMod{{Name: "a", Mod: slots}}))
	if checkRuns(t, "slots", r, m, &count); m.Funs[0].Slots != 19 {
		t.Error(m.Funs[0].Slots)
	}
	// As much code as there may be.
	e := flag(1)
	for i := range 14 {
		e = prim([]string{"and", "or"}[i%2], e, flag(i/2%2))
	}
	long := impl.TreeMod{}
	for _, name := range names(5) {
		long.Funs = append(long.Funs, impl.TreeFun{Name: name, Type: 2, Body: e})
	}
	m = wholeImage(t, "long", linkedOf(t, []impl.MeanMod{{Name: "a", Mod: long}, {Name: "b", Mod: long}}))
	checkRuns(t, "long", r, m, &count)
	if count[impl.MeanHalt] < 100 {
		t.Error(count)
	}
}

// shapedIns is an instruction that may do at a place, if it is lucky.
func shapedIns(r *rand.Rand, m impl.LinkImage, fun impl.LinkFun, at int) impl.CodeIns {
	ins := randomIns(r)
	switch ins.Op {
	case impl.CodeLoad, impl.CodeKeep:
		ins.A %= fun.Slots + 1
	case impl.CodeCall:
		ins.A %= len(m.Funs)
	case impl.CodePrim:
		ins.A %= 15
	case impl.CodeRow:
		ins.A %= 4
	case impl.CodeJump, impl.CodeUnless:
		ins.A = at + 1 + ins.A%6
	}
	return ins
}

// shapedFun is a function of an image that goes whatever ways it finds, without a fault; false, if it found none.
func shapedFun(r *rand.Rand, m impl.LinkImage, number int) (impl.LinkFun, bool) {
	fun := m.Funs[number]
	ways := plainAhead(fun)
	for at := range 60 {
		stack, slots := plainMeet(waysTo(ways, at))
		ways = slices.DeleteFunc(ways, func(way sureEdge) bool { return way.to == at })
		fun.Code = append(fun.Code, impl.CodeIns{})
		for tries := 0; ; tries++ {
			if tries == 60 {
				return fun, false
			}
			ins := shapedIns(r, m, fun, at)
			if ins.Op <= impl.CodeFlag && len(stack) > 3 {
				continue
			}
			fun.Code[at] = ins
			after, kept, onward, code := plainDo(m, fun, at, stack, slots)
			if code != 0 {
				continue
			}
			if len(ways) == 0 && len(onward) == 0 {
				return fun, true
			}
			// Ways that meet have one stack, and there is a way to what is next.
			joins := func(way sureEdge) bool { return way.stack != after && slices.Contains(onward, way.to) }
			if slices.ContainsFunc(ways, joins) || !slices.Contains(onward, at+1) && len(waysTo(ways, at+1)) == 0 {
				continue
			}
			for _, to := range onward {
				ways = append(ways, sureEdge{at, to, after, kept})
			}
			break
		}
	}
	return fun, false
}

// shapedImage is an image without a fault, of functions that no module has.
func shapedImage(r *rand.Rand) impl.LinkImage {
	var m impl.LinkImage
	for _, name := range names(1 + r.Intn(4)) {
		f := impl.LinkFun{Mod: "a", Name: name, Type: 1 + r.Intn(3)}
		for range r.Intn(4) {
			f.Args = append(f.Args, 1+r.Intn(3))
		}
		f.Slots = len(f.Args) + r.Intn(3)
		m.Funs = append(m.Funs, f)
	}
	for number := range m.Funs {
		f, ok := shapedFun(r, m, number)
		for !ok {
			f, ok = shapedFun(r, m, number)
		}
		m.Funs[number] = f
		if len(f.Args) == 0 && len(m.Mains) < 8 {
			m.Mains = append(m.Mains, number)
		}
	}
	return m
}

// turnedCode is an image with a few instructions turned, in memory of its own; many have a fault.
func turnedCode(r *rand.Rand, m impl.LinkImage) impl.LinkImage {
	m = settledImage(m)
	for range 1 + r.Intn(2) {
		f := &m.Funs[r.Intn(len(m.Funs))]
		n := len(f.Code)
		if n == 0 {
			continue
		}
		i, j := r.Intn(n), r.Intn(n)
		switch r.Intn(9) {
		case 0:
			f.Code[i] = randomIns(r)
		case 1:
			f.Code[i].Op = 1 + r.Intn(10)
			if f.Code[i].A = min(max(f.Code[i].A, 0), 1); f.Code[i].Op == impl.CodeBack {
				f.Code[i].A = 0
			}
		case 2:
			if f.Code[i].Op != impl.CodeFlag && f.Code[i].Op != impl.CodeBack {
				f.Code[i].A = max(0, f.Code[i].A+r.Intn(5)-2)
			}
		case 3:
			f.Code = slices.Delete(f.Code, i, i+1)
		case 4:
			f.Code = slices.Insert(f.Code, i, f.Code[j])
		case 5:
			f.Code[i], f.Code[j] = f.Code[j], f.Code[i]
		case 6:
			f.Type = 1 + r.Intn(3)
		case 7:
			f.Slots = max(0, f.Slots-1)
		case 8:
			if len(f.Args) > 0 {
				f.Args[r.Intn(len(f.Args))] = 1 + r.Intn(3)
			}
		}
	}
	return m
}

// P25: images of other code, some without a fault, are told by the other way, by each way, and by being run.
func TestSureRandom(t *testing.T) {
	r := rand.New(rand.NewSource(71))
	var count tally
	var faults [8]int
	steps, joins := 0, 0
	for n := range 900 {
		m := shapedImage(r)
		if n%3 == 0 {
			m, _ = impl.LinkMake(linkedOf(t, rightMods(r, true)))
		} else if got := checkSure(t, "shaped", m); got != noFault {
			t.Fatalf("the test's own image: %s: %v", plainImageText(m), got)
		}
		for _, f := range m.Funs {
			for _, ins := range f.Code {
				if ins.Op == impl.CodeUnless || ins.Op == impl.CodeJump {
					joins++
				}
			}
		}
		if checkWays(t, "shaped", m) {
			steps += checkRuns(t, "shaped", r, m, &count)
		}
		for range min(4, 4*len(m.Funs)) {
			other := turnedCode(r, m)
			fault := checkSure(t, "turned", other)
			if faults[fault.Code]++; fault.Code == impl.SureForm {
				continue
			}
			ways := checkWays(t, "turned", other)
			if ways != (fault.Code == 0) {
				t.Fatalf("%s: %v, but %v by its ways", plainImageText(other), fault, ways)
			}
			if ways {
				steps += checkRuns(t, "turned", r, other, &count)
			}
		}
	}
	for code, n := range faults {
		if n < 50 && code != impl.SureForm && code != impl.SureMain {
			t.Error(code, n)
		}
	}
	if steps < 50000 || joins < 3000 || !count.least(100, impl.MeanFuel, impl.MeanHalt, 4+impl.MeanDiv, 4+impl.MeanPlace) {
		t.Error(steps, joins, count)
	}
}
