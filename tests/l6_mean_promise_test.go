package tests

import (
	"math/rand"
	"slices"
	"strings"
	"sync"
	"testing"

	"loop.example/smithy/impl"
)

// headMods are modules with functions, of whose bodies only the types are as they will be.
func headMods(r *rand.Rand) []impl.MeanMod {
	var mods []impl.MeanMod
	for _, name := range freshNames(r, 1+r.Intn(8), nil) {
		m := impl.MeanMod{Name: name}
		for _, fun := range randomNames(r, 4) {
			f := impl.TreeFun{Name: fun, Pub: r.Intn(3) > 0, Type: 1 + r.Intn(3)}
			for _, arg := range randomNames(r, 3) {
				f.Args = append(f.Args, impl.TreeArg{Name: arg, Type: 1 + r.Intn(3)})
			}
			f.Body = leaves()[f.Type]
			m.Mod.Funs = append(m.Mod.Funs, f)
		}
		mods = append(mods, m)
	}
	return mods
}

// facesOf are the faces of modules, in whatever order.
func facesOf(mods []impl.MeanMod) []impl.TypeFace {
	var faces []impl.TypeFace
	for _, m := range mods {
		faces = append(faces, impl.TypeFace{Mod: m.Name, Sigs: impl.FaceOf(m.Mod)})
	}
	return faces
}

// rightMods are modules that are right together. Where they are tame a body calls only what stands
// ahead of it, so that most of them halt; else anything calls anything, itself among it.
func rightMods(r *rand.Rand, tame bool) []impl.MeanMod {
	mods := headMods(r)
	faces := facesOf(mods)
	for i := range mods {
		m := &mods[i].Mod
		for j, o := range mods {
			if len(m.Uses) < 4 && r.Intn(2) == 0 && (j < i || !tame) {
				m.Uses = append(m.Uses, o.Name)
			}
		}
		for j, f := range m.Funs {
			k := knownOf(*m, faces)
			if tame {
				k = knownOf(impl.TreeMod{Uses: m.Uses, Funs: m.Funs[:j]}, faces)
			}
			k.vars = f.Args
			m.Funs[j].Body = typedExpr(r, k, f.Type, 5+r.Intn(20), 1+r.Intn(10))
		}
		if r.Intn(4) > 0 {
			kind := 1 + r.Intn(3)
			e := typedExpr(r, knownOf(*m, faces), kind, 5+r.Intn(40), 1+r.Intn(12))
			if kind == impl.TreeInt {
				e = prim("print", e)
			}
			m.Main = []impl.TreeExpr{e}
		}
	}
	return mods
}

// anyCall is an expression with one of its calls another one, of any function there is.
func anyCall(r *rand.Rand, mods []impl.MeanMod, e impl.TreeExpr) impl.TreeExpr {
	e.Kids = slices.Clone(e.Kids)
	if len(e.Kids) > 0 && r.Intn(4) > 0 {
		i := r.Intn(len(e.Kids))
		e.Kids[i] = anyCall(r, mods, e.Kids[i])
		return e
	}
	m := mods[r.Intn(len(mods))]
	if len(m.Mod.Funs) == 0 {
		return e
	}
	f := m.Mod.Funs[r.Intn(len(m.Mod.Funs))]
	out := call(m.Name, f.Name)
	if r.Intn(3) == 0 {
		out.Mod = ""
	}
	for _, arg := range f.Args {
		out.Kids = append(out.Kids, leaves()[arg.Type])
	}
	return out
}

// slippedMods are modules of which one is another one, so that many go wrong.
func slippedMods(r *rand.Rand, mods []impl.MeanMod) []impl.MeanMod {
	out := slices.Clone(mods)
	i := r.Intn(len(out))
	m := slippedMod(r, out[i].Mod, facesOf(mods))
	for j := range m.Main {
		if r.Intn(2) == 0 {
			m.Main[j] = anyCall(r, mods, m.Main[j])
		}
	}
	if len(m.Funs) > 0 && r.Intn(2) == 0 {
		j := r.Intn(len(m.Funs))
		m.Funs[j].Body = anyCall(r, mods, m.Funs[j].Body)
	}
	out[i].Mod = m
	return out
}

func randomFuel(r *rand.Rand) int {
	if r.Intn(3) == 0 {
		return r.Intn(40)
	}
	return r.Intn(3000)
}

// tally counts how things end: by End, and for those that stop by Trap from 4 on.
type tally [9]int

func (c *tally) add(end impl.MeanEnd) { c[end.End]++; c[4+end.Trap]++ }

// least says whether each of these was counted so often.
func (c *tally) least(n int, places ...int) bool {
	for _, p := range places {
		if c[p] < n {
			return false
		}
	}
	return true
}

// P12: modules that are right never end with MeanWrong, whatever the fuel.
func TestMeanNeverWrong(t *testing.T) {
	r := rand.New(rand.NewSource(31))
	var count tally
	for n := range 3000 {
		mods := rightMods(r, n%3 > 0)
		for _, m := range mods {
			var faces []impl.TypeFace
			for _, face := range facesOf(mods) {
				if slices.Contains(m.Mod.Uses, face.Mod) {
					faces = append(faces, face)
				}
			}
			if fault := impl.TypeMod(m.Mod, faces); fault != (impl.TypeFault{}) {
				t.Fatalf("the test's own module is not right: %v%s", fault, written(mods))
			}
		}
		for range 3 {
			r.Shuffle(len(mods), func(i, j int) { mods[i], mods[j] = mods[j], mods[i] })
			end := checkRun(t, "right", mods, randomFuel(r))
			count.add(end)
			if end.End == impl.MeanWrong {
				t.Fatalf("wrong: %v%s", end, written(mods))
			}
		}
		m := mods[r.Intn(len(mods))]
		for _, f := range m.Mod.Funs {
			var args []impl.MeanVal
			for _, arg := range f.Args {
				args = append(args, randomVal(r, arg.Type))
			}
			val, end := checkCall(t, "right", mods, m.Name, f.Name, args, randomFuel(r))
			count.add(end)
			if end.End == impl.MeanWrong || end.End == impl.MeanHalt && val.Kind != f.Type {
				t.Fatalf("wrong: %v, %v%s", val, end, written(mods))
			}
		}
	}
	if !count.least(200, impl.MeanFuel, impl.MeanHalt, 4+impl.MeanDiv, 4+impl.MeanPlace, 4+impl.MeanDeep) || count[impl.MeanHalt] < 2500 {
		t.Error(count)
	}
}

// What is not right ends as the other way says, too.
func TestMeanSlipped(t *testing.T) {
	r := rand.New(rand.NewSource(32))
	var count tally
	printed := 0
	for n := range 4000 {
		mods := rightMods(r, n%4 > 0)
		for range 1 + r.Intn(4) {
			mods = slippedMods(r, mods)
			end := checkRun(t, "slipped", mods, randomFuel(r))
			if count.add(end); end.End == impl.MeanWrong && len(end.Out) > 0 {
				printed++
			}
		}
		m := mods[r.Intn(len(mods))]
		for _, f := range m.Mod.Funs {
			var args []impl.MeanVal
			for _, arg := range f.Args {
				kind := arg.Type
				if r.Intn(10) == 0 {
					kind = 1 + r.Intn(3)
				}
				args = append(args, randomVal(r, kind))
			}
			_, end := checkCall(t, "slipped", mods, m.Name, f.Name, args, randomFuel(r))
			count.add(end)
		}
	}
	if !count.least(200, impl.MeanFuel, impl.MeanHalt, impl.MeanWrong, 4+impl.MeanDiv, 4+impl.MeanPlace, 4+impl.MeanDeep) || count[impl.MeanWrong] < 2000 || printed < 100 {
		t.Error(count, printed)
	}
}

// P13: with more fuel what has ended ends just so, and what has not has printed a beginning.
func TestMeanMoreFuel(t *testing.T) {
	r := rand.New(rand.NewSource(33))
	var count tally
	for n := range 800 {
		mods := rightMods(r, n%4 > 0)
		if n%2 == 0 {
			mods = slippedMods(r, mods)
		}
		full := impl.MeanRun(mods, 100000)
		if full.End != impl.MeanFuel && full.Steps < 200 {
			checkFuels(t, "more fuel", mods, full)
		}
		fuels := []int{0, 1, 99999}
		for range 6 {
			fuels = append(fuels, r.Intn(min(100000, 2*full.Steps+2)), r.Intn(100000))
		}
		for _, fuel := range fuels {
			got := impl.MeanRun(mods, fuel)
			count.add(got)
			if fuel >= full.Steps && !sameEnd(got, full) && full.End != impl.MeanFuel {
				t.Fatalf("with %d %v; with more %v%s", fuel, got, full, written(mods))
			}
			if fuel < full.Steps && (got.End != impl.MeanFuel || got.Trap != 0 || got.Steps != fuel || len(got.Out) > len(full.Out) || !slices.Equal(got.Out, full.Out[:len(got.Out)])) {
				t.Fatalf("with %d %v; with more %v%s", fuel, got, full, written(mods))
			}
		}
	}
	if !count.least(200, impl.MeanFuel, impl.MeanHalt, impl.MeanWrong, 4+impl.MeanDiv, 4+impl.MeanPlace, 4+impl.MeanDeep) {
		t.Error(count)
	}
}

// silent are modules without their mains.
func silent(mods []impl.MeanMod) []impl.MeanMod {
	out := slices.Clone(mods)
	for i := range out {
		out[i].Mod.Main = nil
	}
	return out
}

// behindEnd is how something ends that is done behind something else.
func behindEnd(first, second impl.MeanEnd) impl.MeanEnd {
	if first.End != impl.MeanHalt {
		return first
	}
	second.Out = slices.Concat(first.Out, second.Out)
	second.Steps += first.Steps
	return second
}

// P14: modules one behind the other do what the first ones do, and then what the others do.
func TestMeanBehind(t *testing.T) {
	r := rand.New(rand.NewSource(34))
	var count tally
	apart := 0
	for n := range 2500 {
		mods := rightMods(r, n%4 > 0)
		if n%2 == 0 {
			mods = slippedMods(r, mods)
		}
		fuel := randomFuel(r)
		whole := impl.MeanRun(mods, fuel)
		count.add(whole)
		for cut := range len(mods) + 1 {
			// The functions of all are there, but only some have a main.
			first := impl.MeanRun(slices.Concat(mods[:cut], silent(mods[cut:])), fuel)
			second := impl.MeanRun(slices.Concat(silent(mods[:cut]), mods[cut:]), max(0, fuel-first.Steps))
			if want := behindEnd(first, second); !sameEnd(whole, want) {
				t.Fatalf("cut at %d: %v; want %v%s", cut, whole, want, written(mods))
			}
		}
		// Modules that know nothing of each other do not need each other.
		others := rightMods(r, true)
		shared := slices.ContainsFunc(others, func(o impl.MeanMod) bool {
			return slices.ContainsFunc(mods, func(m impl.MeanMod) bool { return m.Name == o.Name })
		})
		if n%2 == 0 || shared || len(mods)+len(others) > 8 {
			continue
		}
		apart++
		second := impl.MeanRun(others, max(0, fuel-whole.Steps))
		if got, want := impl.MeanRun(slices.Concat(mods, others), fuel), behindEnd(whole, second); !sameEnd(got, want) {
			t.Fatalf("%v; want %v%s%s", got, want, written(mods), written(others))
		}
	}
	if !count.least(50, impl.MeanFuel, impl.MeanHalt, impl.MeanWrong, 4+impl.MeanDiv, 4+impl.MeanPlace, 4+impl.MeanDeep) || apart < 300 {
		t.Error(count, apart)
	}
	// A module without a main does nothing, wherever it stands.
	mods := modsOf(t, "(main (print 1))", "(main (print 2))", "(main (print 3))")
	for place := range 4 {
		with := slices.Insert(slices.Clone(mods), place, impl.MeanMod{Name: "more", Mod: readMod(t, "(pub f () int (print 9))")})
		if got := checkRun(t, "silent", with, 100); !sameEnd(got, halts(6, 1, 2, 3)) {
			t.Error(place, got)
		}
	}
	slices.Reverse(mods)
	if got := checkRun(t, "in another order", mods, 100); !sameEnd(got, halts(6, 3, 2, 1)) {
		t.Error(got)
	}
}

// spelledVal is an expression that makes a value, of at most 8 numbers a row that is written.
func spelledVal(v impl.MeanVal) impl.TreeExpr {
	switch v.Kind {
	case impl.TreeInt:
		return num(v.Num)
	case impl.TreeBool:
		return flag(v.Num)
	}
	rows := []impl.TreeExpr{list()}
	for i, n := range v.Row {
		if i == 8 {
			rows = append(rows, list())
		}
		rows[i/8].Kids = append(rows[i/8].Kids, num(n))
	}
	if len(rows) == 1 {
		return rows[0]
	}
	return prim("join", rows...)
}

// toldBy is an expression that prints what another one makes; of a row, how many it has.
func toldBy(kind int, e impl.TreeExpr) impl.TreeExpr {
	switch kind {
	case impl.TreeInt:
		return prim("print", e)
	case impl.TreeBool:
		return choice(e, prim("print", num(1)), prim("print", num(0)))
	}
	return let("r", e, prim("print", prim("len", variable("r"))))
}

// P16: a call of a function ends as it does when it is all that a module does.
func TestMeanCallRun(t *testing.T) {
	r := rand.New(rand.NewSource(35))
	var count tally
	for n := range 3000 {
		mods := silent(rightMods(r, n%4 > 0))
		if n%2 == 0 {
			mods = silent(slippedMods(r, mods))
		}
		place := r.Intn(len(mods))
		for _, f := range mods[place].Mod.Funs {
			e, steps := call("", f.Name), 1
			var args []impl.MeanVal
			for range len(f.Args) {
				args = append(args, randomVal(r, f.Args[len(args)].Type))
				e.Kids = append(e.Kids, spelledVal(args[len(args)-1]))
				nodes, _ := impl.TreeNodes(e.Kids[len(args)-1])
				steps += nodes
			}
			fuel := randomFuel(r)
			val, end := checkCall(t, "call", mods, mods[place].Name, f.Name, args, fuel)
			count.add(end)
			want := end
			want.Steps += steps
			// The main may stand in its own module, and, if it is Pub, in another one.
			own := slices.Clone(mods)
			own[place].Mod.Main = []impl.TreeExpr{e}
			if !impl.TreeOk(own[place].Mod) {
				continue
			}
			if got := impl.MeanRun(own, fuel+steps); !sameEnd(got, want) {
				t.Fatalf("%s: %v; as a main %v%s", f.Name, end, got, written(own))
			}
			e.Mod = mods[place].Name
			if other := append(slices.Clone(mods), impl.MeanMod{Name: "thething", Mod: mainOf(e)}); len(other) <= 8 {
				if got := impl.MeanRun(other, fuel+steps); f.Pub && !sameEnd(got, want) || !f.Pub && !sameEnd(got, wrong(steps)) {
					t.Fatalf("%s: %v; as another's main %v%s", f.Name, end, got, written(other))
				}
			}
			checkTold(t, own, place, f.Type, val, end)
		}
	}
	if !count.least(40, impl.MeanFuel, impl.MeanHalt, impl.MeanWrong, 4+impl.MeanDiv, 4+impl.MeanPlace, 4+impl.MeanDeep) {
		t.Error(count)
	}
}

// checkTold prints what a main makes, and holds it against a value.
func checkTold(t *testing.T, mods []impl.MeanMod, place, kind int, val impl.MeanVal, end impl.MeanEnd) {
	t.Helper()
	mods = slices.Clone(mods)
	mods[place].Mod.Main = []impl.TreeExpr{toldBy(kind, mods[place].Mod.Main[0])}
	if end.End != impl.MeanHalt || !impl.TreeOk(mods[place].Mod) {
		return
	}
	want := val.Num
	if kind == impl.TreeRow {
		want = len(val.Row)
	}
	if got := impl.MeanRun(mods, 100000); got.End != impl.MeanHalt || !slices.Equal(got.Out, append(slices.Clone(end.Out), want)) {
		t.Fatalf("%v tells %v%s", val, got, written(mods))
	}
}

// The answers are the same at every call, and from several goroutines.
func TestMeanAgain(t *testing.T) {
	r := rand.New(rand.NewSource(36))
	for range 200 {
		mods := rightMods(r, true)
		mods = slippedMods(r, mods)
		fuel := randomFuel(r)
		want := impl.MeanRun(mods, fuel)
		got := make([]impl.MeanEnd, 8)
		var group sync.WaitGroup
		for i := range got {
			group.Go(func() { got[i] = impl.MeanRun(mods, fuel) })
		}
		group.Wait()
		for _, end := range append(got, impl.MeanRun(mods, fuel)) {
			if !sameEnd(end, want) {
				t.Fatalf("%v, then %v%s", want, end, written(mods))
			}
		}
	}
}

// roomyMods are modules whose lists all have spare room, with something in it.
func roomyMods(mods []impl.MeanMod) []impl.MeanMod {
	out := append(slices.Clone(mods), impl.MeanMod{Name: "room", Mod: mainOf(num(1))}, impl.MeanMod{Name: "room"})[:len(mods)]
	for i := range out {
		out[i].Mod = roomy(out[i].Mod)
	}
	return out
}

// wideMods is all that is in modules and in their room, in memory of its own.
func wideMods(mods []impl.MeanMod) []impl.MeanMod {
	out := slices.Clone(mods[:cap(mods)])
	for i := range out {
		out[i].Mod = wide(out[i].Mod)
	}
	return out
}

func sameMods(a, b []impl.MeanMod) bool {
	return slices.EqualFunc(a, b, func(a, b impl.MeanMod) bool { return a.Name == b.Name && plainSame(a.Mod, b.Mod) })
}

// Nothing is written into an argument or behind its end, and every answer is new memory.
func TestMeanNew(t *testing.T) {
	r := rand.New(rand.NewSource(37))
	rows, printed := 0, 0
	for range 600 {
		mods := slippedMods(r, rightMods(r, true))
		fuel := randomFuel(r)
		want := impl.MeanRun(mods, fuel)
		room := roomyMods(mods)
		before := wideMods(room)
		got, other := impl.MeanRun(room, fuel), impl.MeanRun(room, fuel)
		if !sameEnd(got, want) || shareInts(got.Out, other.Out) {
			t.Fatal("what is behind an end counts, or two answers share memory")
		}
		if spoilInts(got.Out); !sameEnd(other, want) || !sameEnd(impl.MeanRun(room, fuel), want) {
			t.Fatal("what was written into an answer shows")
		}
		printed += len(want.Out)
		m := mods[r.Intn(len(mods))]
		for _, f := range m.Mod.Funs {
			var args []impl.MeanVal
			for _, arg := range f.Args {
				args = append(args, randomVal(r, arg.Type))
			}
			wantVal, wantEnd := impl.MeanCall(mods, m.Name, f.Name, args, fuel)
			args = roomyVals(args)
			beforeArgs := wideVals(args)
			val, end := impl.MeanCall(room, m.Name, f.Name, args, fuel)
			if !sameVal(val, wantVal) || !sameEnd(end, wantEnd) {
				t.Fatal("what is behind an end counts")
			}
			again, againEnd := impl.MeanCall(room, m.Name, f.Name, args, fuel)
			for _, list := range [][]int{again.Row, againEnd.Out, end.Out} {
				if shareInts(val.Row, list) || shareInts(end.Out, again.Row) || shareInts(end.Out, againEnd.Out) {
					t.Fatal("two lists of answers share memory")
				}
			}
			for _, arg := range args {
				if shareInts(val.Row, arg.Row) {
					t.Fatal("a row is an argument's")
				}
			}
			rows += len(val.Row)
			spoilInts(val.Row)
			spoilInts(end.Out)
			if !sameVal(again, wantVal) || !sameEnd(againEnd, wantEnd) || !sameVals(wideVals(args), beforeArgs) {
				t.Fatal("an argument or another answer was written into")
			}
		}
		if !sameMods(wideMods(room), before) {
			t.Fatal("a module was written into")
		}
	}
	if rows < 300 || printed < 300 {
		t.Error(rows, printed)
	}
}

// A variable that a body has beside its parameters is not put behind the arguments, and a row that is put into stays as it was.
func TestMeanCallRoom(t *testing.T) {
	mods := modsOf(t, "(fun f ((r row)(n int)) row (let s (put r 0 n) (let x 7 (let y 8 (if (= (+ x y) (at s 0)) r s)))))(fun id ((r row)) row r)(fun both ((r row)) row (let s r (join s (row))))")
	args := roomyVals([]impl.MeanVal{rowOf(1, 2, 3), intOf(15)})
	before := wideVals(args)
	for _, c := range []struct {
		name string
		args []impl.MeanVal
		want impl.MeanVal
	}{{"f", args, rowOf(1, 2, 3)}, {"id", args[:1], rowOf(1, 2, 3)}, {"both", args[:1], rowOf(1, 2, 3)}, {"f", []impl.MeanVal{args[0], intOf(9)}, rowOf(9, 2, 3)}} {
		val, end := checkCall(t, "room", mods, "a", c.name, c.args, 1000)
		if !sameVal(val, c.want) || end.End != impl.MeanHalt || shareInts(val.Row, args[0].Row) {
			t.Error(c.name, val, end)
		}
		if spoilInts(val.Row); !sameVals(wideVals(args), before) {
			t.Fatal(c.name, "an argument was written into")
		}
	}
	// The empty row has no room that is another's.
	empty := impl.MeanVal{Kind: impl.TreeRow, Row: roomyInts(nil)}
	if val, _ := impl.MeanCall(mods, "a", "id", []impl.MeanVal{empty}, 10); len(val.Row) != 0 || shareInts(val.Row, empty.Row) {
		t.Error(val)
	}
	if val, _ := impl.MeanPrim("join", []impl.MeanVal{empty, empty}); len(val.Row) != 0 || shareInts(val.Row, empty.Row) {
		t.Error(val)
	}
}

// Whatever a call is given, it answers.
func TestMeanAnything(t *testing.T) {
	r := rand.New(rand.NewSource(38))
	some := func() impl.MeanVal {
		v := impl.MeanVal{Kind: r.Intn(6) - 1, Num: r.Intn(5) - 2}
		for range r.Intn(3) * r.Intn(10) {
			v.Row = append(v.Row, r.Intn(9))
		}
		return v
	}
	for range 3000 {
		mods := rightMods(r, true)
		for range r.Intn(4) {
			i := r.Intn(len(mods))
			switch r.Intn(4) {
			case 0:
				mods[i].Mod = turnedMod(r, mods[i].Mod)
			case 1:
				mods[i].Mod = randomMod(r)
			case 2:
				mods[i].Name = randomWrongName(r)
			case 3:
				mods = append(mods, impl.MeanMod{Name: randomWrongName(r), Mod: randomMod(r)})
			}
		}
		fuel := r.Intn(400) - 10
		checkRun(t, "anything", mods, fuel)
		m := mods[r.Intn(len(mods))]
		name := randomWrongName(r)
		if len(m.Mod.Funs) > 0 {
			name = m.Mod.Funs[0].Name
		}
		var args []impl.MeanVal
		for range r.Intn(5) {
			args = append(args, some())
		}
		checkCall(t, "anything", mods, m.Name, name, args, fuel)
		checkPrim(t, strings.Fields(primWords)[r.Intn(16)], args...)
	}
	for _, e := range []impl.TreeExpr{round("not"), nots(100000), spread(100000), {}, {Kind: 9}} {
		for _, m := range []impl.TreeMod{mainOf(e), funOf(e)} {
			mods := []impl.MeanMod{{Name: "a", Mod: m}}
			if got := impl.MeanRun(mods, 100000); !sameEnd(got, impl.MeanEnd{End: impl.MeanWrong}) {
				t.Error(got)
			}
			if val, got := impl.MeanCall(mods, "a", "f", nil, 100000); !sameEnd(got, impl.MeanEnd{End: impl.MeanWrong}) || !isNothing(val) {
				t.Error(val, got)
			}
		}
	}
	many := slices.Repeat([]impl.MeanVal{intOf(1)}, 100000)
	if val, got := impl.MeanCall(modsOf(t, "(fun f ((x int)) int x)"), "a", "f", many, 10); !sameEnd(got, impl.MeanEnd{End: impl.MeanWrong}) || !isNothing(val) {
		t.Error(val, got)
	}
}
