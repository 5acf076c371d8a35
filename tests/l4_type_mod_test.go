package tests

import (
	"math/rand"
	"slices"
	"strings"
	"testing"

	"loop.example/smithy/impl"
)

// plainMod is what is wrong by another way than the program: all that is, in order, of which the first is told.
func plainMod(m impl.TreeMod, faces []impl.TypeFace) impl.TypeFault {
	if !plainOk(m) {
		return impl.TypeFault{Code: impl.TypeForm}
	}
	var all []impl.TypeFault
	for i, use := range m.Uses {
		has := 0
		for _, face := range faces {
			if face.Mod == use {
				has++
			}
		}
		if has == 0 {
			all = append(all, impl.TypeFault{Code: impl.TypeUse, Fun: i})
		}
	}
	for i, f := range m.Funs {
		kind, code := plainType(m, faces, f.Args, f.Body)
		if code == 0 && kind != f.Type {
			code = impl.TypeKind
		}
		all = append(all, impl.TypeFault{Code: code, Fun: i})
	}
	for _, e := range m.Main {
		_, code := plainType(m, faces, nil, e)
		all = append(all, impl.TypeFault{Code: code, Fun: len(m.Funs)})
	}
	for _, f := range all {
		if f.Code != 0 {
			return f
		}
	}
	return impl.TypeFault{}
}

// checkMod holds TypeMod against the other way, and tells what it answers.
func checkMod(t *testing.T, what string, m impl.TreeMod, faces []impl.TypeFace) impl.TypeFault {
	t.Helper()
	got := impl.TypeMod(m, faces)
	if want := plainMod(m, faces); got != want {
		t.Fatalf("%s: TypeMod(%s) = %v; want %v (%v)", what, impl.TreePrint(m), got, want, faces)
	}
	return got
}

func TestTypeMod(t *testing.T) {
	faces := []impl.TypeFace{faceOf(t, "lib", "sum(row)int", "two(int,bool)row"), faceOf(t, "void"), faceOf(t, "lib", "late()int"), faceOf(t, "out", "f()int")}
	for _, c := range []struct {
		text      string
		code, fun int
	}{
		// Right, with and without Main, which may have any type.
		{"", 0, 0}, {"(main 1)", 0, 0}, {"(main true)", 0, 0}, {"(main (row 1))", 0, 0}, {"(use lib)", 0, 0}, {"(use lib void out)", 0, 0}, {"(use lib)(main (lib.sum (lib.two 1 true)))", 0, 0},
		{"(fun f () int 1)", 0, 0}, {"(fun f ((x int)) int x)", 0, 0}, {"(pub f ((x int)(y bool)(z row)(w row)) row (if y z w))", 0, 0},
		{"(fun f ((x int)) int (f (+ x 1)))(main (f 2))", 0, 0}, {"(fun f () int (g))(fun g () int (f))", 0, 0}, {"(use lib)(fun f () int (lib.sum (row)))(fun lib () bool true)(main (lib))", 0, 0},
		{"(fun f ((f int)) int (f f))", 0, 0}, {"(fun f ((x int)) bool (let x true x))", 0, 0}, {"(use out)(fun f () bool true)(main (if (f) (out.f) 2))", 0, 0},
		// A module that is used and not known, called or not.
		{"(use nope)", 1, 0}, {"(use nope)(main 1)", 1, 0}, {"(use lib nope)", 1, 1}, {"(use lib void nope)(main (lib.sum (row)))", 1, 2}, {"(use lib void out nope)", 1, 3}, {"(use nope lib nay)", 1, 0}, {"(use lib nope nay)", 1, 1},
		// It comes ahead of all that is wrong within.
		{"(use lib nope)(fun f () int true)(main x)", 1, 1}, {"(use nope)(fun f () int (nope.f))", 1, 0}, {"(use lib void nope)(fun f () int (lib.sum))", 1, 2},
		// A module that is known and not used.
		{"(main (lib.sum (row)))", 2, 0}, {"(use void)(fun f () int 1)(main (lib.sum (row)))", 2, 1}, {"(use lib)(main (lib.late))", 2, 0}, {"(use void)(main (void.f))", 2, 0}, {"(use out)(fun g () int (f))", 2, 0},
		// Each code, in each place.
		{"(fun f () int x)", 2, 0}, {"(fun f () int (f 1))", 3, 0}, {"(fun f () int (+ 1 true))", 4, 0}, {"(fun f () bool 1)", 4, 0}, {"(fun f ((x row)) int x)", 4, 0}, {"(fun f () row (f 1))", 3, 0}, {"(fun f () row x)", 2, 0},
		{"(fun f () int 1)(fun g () int x)", 2, 1}, {"(fun f () int 1)(fun g () int (f 1))", 3, 1}, {"(fun f () int 1)(fun g () bool (f))", 4, 1}, {"(fun f () int 1)(fun g () int 1)(pub h () row 1)", 4, 2},
		{"(main x)", 2, 0}, {"(fun f () int 1)(main (f 1))", 3, 1}, {"(fun f () int 1)(fun g () int 1)(main (not 1))", 4, 2},
		// The first function that is wrong, with its first code.
		{"(fun f () int x)(fun g () bool 1)(main (f 1))", 2, 0}, {"(fun f () int 1)(fun g () bool 1)(main x)", 4, 1}, {"(fun f () bool 1)(fun g () int x)", 4, 0}, {"(fun f () bool (+ x true))", 2, 0}, {"(fun f () bool (f 1))(main x)", 3, 0},
		// Parameters are known in their own function alone.
		{"(fun f ((x int)) int x)(fun g () int x)", 2, 1}, {"(fun f ((x int)) int x)(main x)", 2, 1}, {"(fun f ((x int)) int x)(fun g ((x bool)) bool x)(main (f (if (g true) 1 2)))", 0, 0},
	} {
		if got := checkMod(t, "listed", readMod(t, c.text), faces); got != (impl.TypeFault{Code: c.code, Fun: c.fun}) {
			t.Errorf("%s: %v; want %d, %d", c.text, got, c.code, c.fun)
		}
	}
	if got := checkMod(t, "no faces", readMod(t, "(use lib)"), nil); got != (impl.TypeFault{Code: impl.TypeUse}) {
		t.Error(got)
	}
}

// Each function there may be, and Main behind them, is told by its place.
func TestTypeModPlaces(t *testing.T) {
	for n := range 9 {
		var m impl.TreeMod
		for _, name := range names(n) {
			m.Funs = append(m.Funs, impl.TreeFun{Name: name, Type: 1, Body: num(1)})
		}
		m.Main = []impl.TreeExpr{num(1)}
		if got := checkMod(t, "right", m, nil); got != (impl.TypeFault{}) {
			t.Error(n, got)
		}
		for at := n; at >= 0; at-- {
			// What is wrong behind it stays wrong.
			if at == n {
				m.Main[0] = variable("x")
			} else {
				m.Funs[at].Type = 2 + at%2
			}
			want := impl.TypeFault{Code: impl.TypeKind, Fun: at}
			if at == n {
				want.Code = impl.TypeName
			}
			if got := checkMod(t, "places", m, nil); got != want {
				t.Error(n, at, got)
			}
		}
	}
	for n := range 5 {
		m := impl.TreeMod{Uses: names(n)}
		var faces []impl.TypeFace
		for at := n; at >= 0; at-- {
			faces = nil
			for _, name := range names(at) {
				faces = append(faces, impl.TypeFace{Mod: name})
			}
			want := impl.TypeFault{Code: impl.TypeUse, Fun: at}
			if at == n {
				want = impl.TypeFault{}
			}
			if got := checkMod(t, "uses", m, faces); got != want {
				t.Error(n, at, got)
			}
		}
	}
}

// What is not ok is told ahead of all else, at the place 0.
func TestTypeModForm(t *testing.T) {
	faces := []impl.TypeFace{faceOf(t, "a"), faceOf(t, "b")}
	for i, m := range wrongMods(t) {
		for _, faces := range [][]impl.TypeFace{nil, faces} {
			if got := impl.TypeMod(m, faces); got != (impl.TypeFault{Code: impl.TypeForm}) {
				t.Errorf("module %d: %v", i, got)
			}
		}
	}
	for n := 140; n <= 160; n++ {
		m := impl.TreeMod{Funs: []impl.TreeFun{{Name: "f", Type: 1, Body: sums(70)}}, Main: []impl.TreeExpr{sums(n - 70)}}
		want := impl.TypeFault{}
		if n > 150 {
			want.Code = impl.TypeForm
		}
		if got := checkMod(t, "large", m, nil); got != want {
			t.Error("large", n, got)
		}
	}
	for n := 10; n <= 20; n++ {
		want := impl.TypeFault{}
		if n > 16 {
			want.Code = impl.TypeForm
		}
		m := funOf(nots(n))
		m.Funs[0].Type = impl.TreeBool
		if got := checkMod(t, "deep", m, nil); got != want {
			t.Error("deep Body", n, got)
		}
		if got := checkMod(t, "deep", mainOf(nots(n)), nil); got != want {
			t.Error("deep Main", n, got)
		}
	}
}

// slippedMod is a module with one body another one, or another head.
func slippedMod(r *rand.Rand, m impl.TreeMod, faces []impl.TypeFace) impl.TreeMod {
	m.Uses, m.Funs, m.Main = slices.Clone(m.Uses), slices.Clone(m.Funs), slices.Clone(m.Main)
	k := knownOf(m, faces)
	at := r.Intn(len(m.Funs) + 1)
	switch n := r.Intn(6); {
	case n == 0 && len(m.Uses) > 0:
		m.Uses = slices.Delete(m.Uses, 0, 1)
	case n == 1:
		if name := randomName(r); len(m.Uses) < 4 && !slices.Contains(m.Uses, name) {
			m.Uses = append(m.Uses, name)
		}
	case at == len(m.Funs):
		for i := range m.Main {
			m.Main[i] = slipped(r, k, m.Main[i])
		}
	case n == 2:
		m.Funs[at].Type = 1 + r.Intn(3)
	case n == 3 && len(m.Funs[at].Args) > 0:
		m.Funs[at].Args = slices.Clone(m.Funs[at].Args)
		m.Funs[at].Args[0].Type = 1 + r.Intn(3)
	default:
		k.vars = m.Funs[at].Args
		m.Funs[at].Body = slipped(r, k, m.Funs[at].Body)
	}
	return m
}

func TestTypeModRandom(t *testing.T) {
	r := rand.New(rand.NewSource(20))
	codes := map[int]int{}
	for range 4000 {
		m, faces := typedMod(r)
		if got := checkMod(t, "typed", m, faces); got != (impl.TypeFault{}) {
			t.Fatalf("%s: %v", impl.TreePrint(m), got)
		}
		for range 4 {
			m = slippedMod(r, m, faces)
			codes[checkMod(t, "slipped", m, faces).Code]++
		}
		codes[checkMod(t, "random", randomMod(r), faces).Code]++
		codes[checkMod(t, "turned", turnedMod(r, m), faces).Code]++
		if len(faces) > 0 {
			less := slices.Delete(slices.Clone(faces), 0, 1)
			codes[checkMod(t, "a face less", m, less).Code]++
		}
	}
	for code := range 6 {
		if codes[code] < 200 {
			t.Error(codes)
		}
	}
}

// P8: what is turned in the modules that are used does not show, as long as their faces are the same.
func TestTypeModHidden(t *testing.T) {
	r := rand.New(rand.NewSource(21))
	wrong, right := 0, 0
	for range 1500 {
		var used []impl.TreeMod
		var faces, others []impl.TypeFace
		for _, mod := range freshNames(r, 3, nil) {
			m := randomMod(r)
			used = append(used, m)
			faces = append(faces, impl.TypeFace{Mod: mod, Sigs: impl.FaceOf(m)})
		}
		m := impl.TreeMod{Uses: []string{faces[0].Mod, faces[1].Mod}}
		m.Main = []impl.TreeExpr{typedExpr(r, knownOf(m, faces), 1+r.Intn(3), 60, 10)}
		if r.Intn(2) == 0 {
			m.Main[0] = slipped(r, knownOf(m, faces), m.Main[0])
		}
		want := checkMod(t, "before", m, faces)
		for i := range used {
			others = append(others, impl.TypeFace{Mod: faces[i].Mod, Sigs: impl.FaceOf(hidden(r, used[i]))})
		}
		if got := checkMod(t, "hidden", m, others); got != want {
			t.Fatalf("%s: %v turns to %v", impl.TreePrint(m), want, got)
		}
		if want.Code == 0 {
			right++
		} else {
			wrong++
		}
	}
	if right < 500 || wrong < 100 {
		t.Error(right, wrong)
	}
}

// P8: nor does what is not asked for: faces that are not used, lines that are not called, the order of faces.
func TestTypeModOthers(t *testing.T) {
	r := rand.New(rand.NewSource(22))
	for range 3000 {
		m, faces := typedMod(r)
		for range r.Intn(3) {
			m = slippedMod(r, m, faces)
		}
		want := impl.TypeMod(m, faces)
		called := map[string]int{}
		var ask func(e impl.TreeExpr)
		ask = func(e impl.TreeExpr) {
			called[e.Mod+"."+e.Name]++
			for _, kid := range e.Kids {
				ask(kid)
			}
		}
		for _, f := range m.Funs {
			ask(f.Body)
		}
		for _, e := range m.Main {
			ask(e)
		}
		var less []impl.TypeFace
		for _, face := range faces {
			if !slices.Contains(m.Uses, face.Mod) {
				continue
			}
			kept := impl.TypeFace{Mod: face.Mod}
			for _, s := range face.Sigs {
				if called[face.Mod+"."+s.Name] > 0 {
					kept.Sigs = append(kept.Sigs, s)
				}
			}
			less = append(less, kept)
		}
		if got := impl.TypeMod(m, less); got != want {
			t.Fatalf("%s: with less to know %v turns to %v", impl.TreePrint(m), want, got)
		}
		r.Shuffle(len(faces), func(i, j int) { faces[i], faces[j] = faces[j], faces[i] })
		if got := impl.TypeMod(m, faces); got != want {
			t.Fatalf("%s: in another order %v turns to %v", impl.TreePrint(m), want, got)
		}
	}
}

// P9: a let has the type of what is in it, an if that of both of its halves.
func TestTypeLetIf(t *testing.T) {
	r := rand.New(rand.NewSource(23))
	lets, ifs := map[int]int{}, map[int]int{}
	for range 6000 {
		m, faces := typedMod(r)
		k := knownOf(m, faces)
		for _, arg := range randomNames(r, 5) {
			k = k.with(arg, 1+r.Intn(3))
		}
		name := randomName(r)
		if len(k.vars) > 0 && r.Intn(2) == 0 {
			name = k.vars[r.Intn(len(k.vars))].Name
		}
		some := func(k known) impl.TreeExpr {
			e := typedExpr(r, k, 1+r.Intn(3), 40, 1+r.Intn(10))
			if r.Intn(4) == 0 {
				e = slipped(r, k, e)
			}
			return e
		}
		a, c := some(k), some(k)
		bound := 1 + r.Intn(3)
		if kind, code := impl.TypeExpr(m, faces, k.vars, a); code == 0 {
			bound = kind
		}
		b := some(k.with(name, bound))
		aKind, aCode := impl.TypeExpr(m, faces, k.vars, a)
		want, code := impl.TypeExpr(m, faces, append(slices.Clone(k.vars), impl.TreeArg{Name: name, Type: aKind}), b)
		if aCode != 0 {
			want, code = 0, aCode
		}
		if gotKind, gotCode := impl.TypeExpr(m, faces, k.vars, let(name, a, b)); gotKind != want || gotCode != code {
			t.Fatalf("%s: %d, %d; want %d, %d", impl.TreePrint(mainOf(let(name, a, b))), gotKind, gotCode, want, code)
		}
		lets[code]++
		bKind, bCode := impl.TypeExpr(m, faces, k.vars, b)
		cKind, cCode := impl.TypeExpr(m, faces, k.vars, c)
		switch {
		case aCode != 0:
			want, code = 0, aCode
		case bCode != 0:
			want, code = 0, bCode
		case cCode != 0:
			want, code = 0, cCode
		case aKind != 2 || bKind != cKind:
			want, code = 0, impl.TypeKind
		default:
			want, code = bKind, 0
		}
		if gotKind, gotCode := impl.TypeExpr(m, faces, k.vars, choice(a, b, c)); gotKind != want || gotCode != code {
			t.Fatalf("%s: %d, %d; want %d, %d", impl.TreePrint(mainOf(choice(a, b, c))), gotKind, gotCode, want, code)
		}
		ifs[code]++
	}
	for _, code := range []int{0, impl.TypeName, impl.TypeArity, impl.TypeKind} {
		if lets[code] < 50 || ifs[code] < 50 {
			t.Error(lets, ifs)
		}
	}
}

// roomyFaces are faces whose lists all have spare room, with something in it.
func roomyFaces(faces []impl.TypeFace) []impl.TypeFace {
	out := append(slices.Clone(faces), impl.TypeFace{Mod: "room"}, impl.TypeFace{Mod: "room"})[:len(faces)]
	for i := range out {
		out[i].Sigs = roomyFace(out[i].Sigs)
	}
	return out
}

// sameRoom says whether faces are the same, as long as their room is.
func sameRoom(a, b []impl.TypeFace) bool {
	if len(a) != len(b) || cap(a) != cap(b) {
		return false
	}
	a, b = a[:cap(a)], b[:cap(b)]
	for i := range a {
		if a[i].Mod != b[i].Mod || !sameFace(wideFace(a[i].Sigs), wideFace(b[i].Sigs)) {
			return false
		}
	}
	return true
}

// keptFaces are faces with room of the same sizes, and the same in it.
func keptFaces(faces []impl.TypeFace) []impl.TypeFace {
	all := slices.Clone(faces[:cap(faces)])
	for i := range all {
		n := len(all[i].Sigs)
		all[i].Sigs = wideFace(all[i].Sigs)[:n]
	}
	out := make([]impl.TypeFace, cap(faces))
	copy(out, all)
	return out[:len(faces)]
}

// Nothing is written into an argument, nor behind its end, and what is there does not count.
func TestTypeArguments(t *testing.T) {
	r := rand.New(rand.NewSource(24))
	for range 1500 {
		m, faces := typedMod(r)
		for range r.Intn(3) {
			m = slippedMod(r, m, faces)
		}
		k := knownOf(m, faces).with("x", 1).with("y", 2).with("x", 3)
		e := slipped(r, k, typedExpr(r, k, 1+r.Intn(3), 60, 9))
		if r.Intn(4) == 0 {
			m = turnedMod(r, m)
		}
		plainFault, plainSig := impl.TypeMod(m, faces), impl.FaceSig{}
		plainKind, plainCode := impl.TypeExpr(m, faces, k.vars, e)
		var mod, name string
		if len(k.calls) > 0 {
			c := k.calls[r.Intn(len(k.calls))]
			mod, name = c.mod, c.sig.Name
			plainSig, _ = impl.TypeFind(m, faces, mod, name)
		}
		m, faces = roomy(m), roomyFaces(faces)
		e = roomy(mainOf(e)).Main[0]
		vars := append(slices.Clone(k.vars), impl.TreeArg{Name: "x", Type: 77}, impl.TreeArg{Name: "room", Type: 1})[:len(k.vars)]
		beforeMod, beforeFaces, beforeExpr, beforeVars := wide(m), keptFaces(faces), wide(mainOf(e)), slices.Clone(vars[:cap(vars)])
		fault := impl.TypeMod(m, faces)
		kind, code := impl.TypeExpr(m, faces, vars, e)
		got, _ := impl.TypeFind(m, faces, mod, name)
		if fault != plainFault || kind != plainKind || code != plainCode || !sameFace([]impl.FaceSig{got}, []impl.FaceSig{plainSig}) {
			t.Fatal("what is behind an end counts")
		}
		if !plainSame(wide(m), beforeMod) || !sameRoom(faces, beforeFaces) || !plainSame(wide(mainOf(e)), beforeExpr) || !sameVars(vars[:cap(vars)], beforeVars) {
			t.Fatal("an argument was written into")
		}
	}
}

// What is found is new memory, of an own function and of another module's.
func TestTypeFindNew(t *testing.T) {
	r := rand.New(rand.NewSource(25))
	asked := 0
	for range 1000 {
		m, faces := typedMod(r)
		m, faces = roomy(m), roomyFaces(faces)
		before, beforeFaces := wide(m), keptFaces(faces)
		for _, c := range knownOf(m, faces).calls {
			asked++
			got, ok := impl.TypeFind(m, faces, c.mod, c.sig.Name)
			other, _ := impl.TypeFind(m, faces, c.mod, c.sig.Name)
			if !ok {
				t.Fatal(c)
			}
			for _, f := range m.Funs {
				if overlap(got.Name, f.Name) {
					t.Fatal("a name shares the module's memory")
				}
			}
			for _, face := range faces {
				for _, s := range face.Sigs {
					if overlap(got.Name, s.Name) {
						t.Fatal("a name shares a face's memory")
					}
				}
			}
			if overlap(got.Name, other.Name) || overlap(got.Name, c.sig.Name) {
				t.Fatal("a name shares another answer's memory")
			}
			spoiledFace([]impl.FaceSig{got})
			if !sameFace([]impl.FaceSig{other}, []impl.FaceSig{c.sig}) {
				t.Fatal("answers share memory")
			}
		}
		if !plainSame(wide(m), before) || !sameRoom(faces, beforeFaces) {
			t.Fatal("an answer shares an argument's memory")
		}
	}
	if asked < 5000 {
		t.Error(asked)
	}
	// The name that is asked for is an argument, too.
	name := strings.Clone("sum")
	faces := []impl.TypeFace{{Mod: "lib", Sigs: []impl.FaceSig{sig(name, 1, 1)}}}
	got, _ := impl.TypeFind(impl.TreeMod{Uses: []string{"lib"}}, faces, "lib", name)
	if got.Name != "sum" || overlap(got.Name, name) {
		t.Error("a name shares the memory of what is asked for")
	}
}

// Whatever a call is given, it answers.
func TestTypeAnything(t *testing.T) {
	r := rand.New(rand.NewSource(26))
	some := func() int { return int(r.Uint64()>>r.Intn(64)) - r.Intn(3) }
	sigs := func() []impl.FaceSig {
		out := make([]impl.FaceSig, r.Intn(12))
		for i := range out {
			out[i] = impl.FaceSig{Name: randomWrongName(r), Type: some(), Args: make([]int, r.Intn(7))}
			for j := range out[i].Args {
				out[i].Args[j] = r.Intn(5)
			}
		}
		return out
	}
	for range 10000 {
		faces := make([]impl.TypeFace, r.Intn(6))
		for i := range faces {
			faces[i] = impl.TypeFace{Mod: randomWrongName(r), Sigs: sigs()}
		}
		vars := make([]impl.TreeArg, r.Intn(6))
		for i := range vars {
			vars[i] = impl.TreeArg{Name: randomWrongName(r), Type: some()}
		}
		m := randomMod(r)
		if len(m.Uses) > 0 {
			m.Uses[0] = "x"
		}
		for range r.Intn(3) {
			m = turnedMod(r, m)
		}
		e := randomExpr(r, 1+r.Intn(200), 1+r.Intn(20))
		for range r.Intn(3) {
			e = turnedExpr(r, e)
		}
		checkExpr(t, "anything", m, faces, vars, e)
		checkMod(t, "anything", m, faces)
		checkFind(t, "anything", m, faces, randomWrongName(r), randomWrongName(r))
		checkFind(t, "anything", m, faces, "", randomWrongName(r))
		checkFind(t, "anything", m, faces, "x", "x")
	}
	e := round("not")
	m := impl.TreeMod{Funs: []impl.TreeFun{{Name: "f", Type: 1, Body: e, Args: []impl.TreeArg{{Name: "x", Type: 2}}}}}
	if got := impl.TypeMod(m, nil); got != (impl.TypeFault{Code: impl.TypeForm}) {
		t.Error(got)
	}
	// Of what is endless the head can be told.
	if got, ok := impl.TypeFind(m, nil, "", "f"); !ok || got.Type != 1 || !slices.Equal(got.Args, []int{2}) {
		t.Error(got, ok)
	}
}
