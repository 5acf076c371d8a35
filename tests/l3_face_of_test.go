package tests

import (
	"math/rand"
	"slices"
	"strings"
	"testing"

	"loop.example/smithy/impl"
)

// plainFaceOf is the face by another way than the program: each line is put where it belongs.
func plainFaceOf(m impl.TreeMod) []impl.FaceSig {
	var list []impl.FaceSig
	if !plainOk(m) {
		return nil
	}
	for _, f := range m.Funs {
		if !f.Pub {
			continue
		}
		s := impl.FaceSig{Name: f.Name, Type: f.Type}
		for _, a := range f.Args {
			s.Args = append(s.Args, a.Type)
		}
		at := 0
		for at < len(list) && list[at].Name < s.Name {
			at++
		}
		list = slices.Insert(list, at, s)
	}
	return list
}

func checkFaceOf(t *testing.T, what string, m impl.TreeMod, want []impl.FaceSig) {
	t.Helper()
	got := impl.FaceOf(m)
	if !sameFace(got, want) {
		t.Fatalf("%s: FaceOf(%q) = %v; want %v", what, impl.TreePrint(m), got, want)
	}
	if !impl.FaceOk(got) {
		t.Fatalf("%s: FaceOf(%q) = %v, which is not ok", what, impl.TreePrint(m), got)
	}
	if back, ok := impl.FaceRead(impl.FaceText(got)); !ok || !sameFace(back, want) {
		t.Fatalf("%s: the face %v is read again as %v", what, want, back)
	}
}

func TestFaceOf(t *testing.T) {
	for _, c := range []struct{ mod, face string }{
		{"", ""},
		{"(use a b)(main 1)", ""},
		{"(fun f () int 1)", ""},
		{"(pub f () int 1)", "f()int\n"},
		{"(pub f ((x int)) bool (not x))", "f(int)bool\n"},
		{"(pub sum ((r row) (n int)) int 0)(fun own () int 1)(pub all () bool true)", "all()bool\nsum(row,int)int\n"},
		{"(fun a () int 1)(pub b () int 1)(fun c () int 1)(pub d () int 1)(fun e () int 1)", "b()int\nd()int\n"},
		{"(pub c () int 1)(pub b () bool 1)(pub a () row 1)", "a()row\nb()bool\nc()int\n"},
		{"(pub aa () int 1)(pub a () int 1)(pub ab () int 1)(pub aaa () int 1)(pub b () int 1)", "a()int\naa()int\naaa()int\nab()int\nb()int\n"},
		{"(pub f ((a int)(b bool)(c row)(d int)) row 1)", "f(int,bool,row,int)row\n"},
		{"(pub f ((d int)(c row)(b bool)(a int)) row 1)", "f(int,row,bool,int)row\n"},
		// What is in a body, and whether it is right, does not show.
		{"(use lib)(pub f ((x int)) int (lib.g true x nope))(main (f))", "f(int)int\n"},
	} {
		m, code := impl.TreeRead(c.mod)
		if code != 0 {
			t.Fatal(c.mod, code)
		}
		checkFaceOf(t, "listed", m, plainFaceOf(m))
		if got := impl.FaceText(impl.FaceOf(m)); got != c.face {
			t.Errorf("the face of %q is %q; want %q", c.mod, got, c.face)
		}
	}
}

func TestFaceOfBounds(t *testing.T) {
	for n := range 11 {
		var m impl.TreeMod
		for _, name := range names(n) {
			m.Funs = slices.Insert(m.Funs, 0, impl.TreeFun{Name: name, Pub: true, Type: 1, Body: num(1)})
		}
		if got := impl.FaceOf(m); len(got) != n && n <= 8 || len(got) != 0 && n > 8 {
			t.Error("functions", n, len(got))
		}
		checkFaceOf(t, "functions", m, plainFaceOf(m))
		f := impl.TreeFun{Name: "f", Pub: true, Type: 3, Body: num(1)}
		for i, name := range names(n) {
			f.Args = append(f.Args, impl.TreeArg{Name: name, Type: 1 + i%3})
		}
		m = impl.TreeMod{Funs: []impl.TreeFun{f}}
		if got := impl.FaceOf(m); len(got) == 1 != (n <= 4) || len(got) == 1 && len(got[0].Args) != n {
			t.Error("args", n, got)
		}
		checkFaceOf(t, "args", m, plainFaceOf(m))
	}
}

// Of a module that is not ok there is no face, whichever part of it is wrong.
func TestFaceOfWrong(t *testing.T) {
	base := func() impl.TreeMod {
		m, _ := impl.TreeRead("(use a b)(pub f ((x int)) int x)(fun g ((y row)) row y)(main (f 1))")
		return m
	}
	if got := impl.FaceText(impl.FaceOf(base())); got != "f(int)int\n" {
		t.Fatal(got)
	}
	for i, turn := range []func(*impl.TreeMod){
		func(m *impl.TreeMod) { m.Uses[1] = "a" }, func(m *impl.TreeMod) { m.Uses[0] = "row" }, func(m *impl.TreeMod) { m.Uses = names(5) },
		func(m *impl.TreeMod) { m.Main = append(m.Main, num(1)) }, func(m *impl.TreeMod) { m.Main[0].Kids = nil; m.Main[0].Kind = impl.TreeIf }, func(m *impl.TreeMod) { m.Main[0] = impl.TreeExpr{} },
		func(m *impl.TreeMod) { m.Main[0] = chain(17) }, func(m *impl.TreeMod) { m.Main[0] = spread(149) }, func(m *impl.TreeMod) { m.Main[0] = round("not") },
		func(m *impl.TreeMod) { m.Funs[1].Name = "f" }, func(m *impl.TreeMod) { m.Funs[1].Name = "" }, func(m *impl.TreeMod) { m.Funs[1].Type = 0 }, func(m *impl.TreeMod) { m.Funs[1].Args[0].Type = 4 },
		func(m *impl.TreeMod) { m.Funs[1].Args[0].Name = "let" }, func(m *impl.TreeMod) { m.Funs[1].Body = impl.TreeExpr{} }, func(m *impl.TreeMod) { m.Funs[1].Body.Num = 1 },
		func(m *impl.TreeMod) { m.Funs[0].Name = "main" }, func(m *impl.TreeMod) { m.Funs[0].Type = -1 }, func(m *impl.TreeMod) { m.Funs[0].Args[0].Type = 0 }, func(m *impl.TreeMod) { m.Funs[0].Body = round("not") },
		func(m *impl.TreeMod) { m.Funs[0].Args = append(m.Funs[0].Args, m.Funs[0].Args[0]) }, func(m *impl.TreeMod) { m.Funs = append(m.Funs, impl.TreeFun{}) },
		func(m *impl.TreeMod) { m.Funs = append(m.Funs, m.Funs[0]) },
	} {
		m := base()
		turn(&m)
		if got := impl.FaceOf(m); len(got) != 0 {
			t.Errorf("turn %d: %v", i, got)
		}
	}
}

func TestFaceOfRandom(t *testing.T) {
	r := rand.New(rand.NewSource(13))
	lines := map[int]int{}
	for range 5000 {
		m := randomMod(r)
		checkFaceOf(t, "random", m, plainFaceOf(m))
		lines[len(impl.FaceOf(m))]++
		m = turnedMod(r, m)
		checkFaceOf(t, "turned", m, plainFaceOf(m))
	}
	for n := range 5 {
		if lines[n] < 50 {
			t.Error(lines)
		}
	}
}

// freshNames are so many names, none of them among the others.
func freshNames(r *rand.Rand, n int, others []string) []string {
	var out []string
	for len(out) < n {
		if name := randomName(r); !slices.Contains(out, name) && !slices.Contains(others, name) {
			out = append(out, name)
		}
	}
	return out
}

// hidden is what may be turned in a module without its face turning, all at once.
func hidden(r *rand.Rand, m impl.TreeMod) impl.TreeMod {
	out := impl.TreeMod{Uses: randomNames(r, 4)}
	var pubs []string
	for _, f := range m.Funs {
		if f.Pub {
			pubs = append(pubs, f.Name)
		}
	}
	own := freshNames(r, r.Intn(8-len(pubs)+1), pubs)
	size := 150 / (len(pubs) + len(own) + 1)
	for _, f := range m.Funs {
		if !f.Pub {
			continue
		}
		f.Args = slices.Clone(f.Args)
		for i, name := range freshNames(r, len(f.Args), nil) {
			f.Args[i].Name = name
		}
		f.Body = randomExpr(r, size, 1+r.Intn(16))
		out.Funs = append(out.Funs, f)
	}
	for _, name := range own {
		f := impl.TreeFun{Name: name, Type: 1 + r.Intn(3), Body: randomExpr(r, size, 1+r.Intn(16))}
		for _, arg := range randomNames(r, 4) {
			f.Args = append(f.Args, impl.TreeArg{Name: arg, Type: 1 + r.Intn(3)})
		}
		out.Funs = append(out.Funs, f)
	}
	if r.Intn(2) == 0 {
		out.Main = []impl.TreeExpr{randomExpr(r, size, 1+r.Intn(16))}
	}
	r.Shuffle(len(out.Funs), func(i, j int) { out.Funs[i], out.Funs[j] = out.Funs[j], out.Funs[i] })
	return out
}

// P6: what is turned in what others may not know does not show.
func TestFaceOfHidden(t *testing.T) {
	r := rand.New(rand.NewSource(14))
	turned := 0
	for range 2000 {
		m := randomMod(r)
		want := impl.FaceOf(m)
		for range 5 {
			other := hidden(r, m)
			if !plainOk(other) {
				t.Fatal("the test's own module is not ok")
			}
			if !plainSame(m, other) {
				turned++
			}
			checkFaceOf(t, "hidden", other, want)
			if impl.FaceText(impl.FaceOf(other)) != impl.FaceText(want) {
				t.Fatal("the text shows it")
			}
		}
	}
	if turned < 8000 {
		t.Error(turned)
	}
}

// P6 one by one: what does not show, and what does.
func TestFaceOfParts(t *testing.T) {
	text := "(use a b)(pub f ((x int)(y row)) int x)(fun g ((y row)) row y)(pub ff () bool true)(pub e ((z bool)) row (row))(main (f 1))"
	base := func() impl.TreeMod {
		m, code := impl.TreeRead(text)
		if code != 0 {
			t.Fatal(code)
		}
		return m
	}
	want := "e(bool)row\nf(int,row)int\nff()bool\n"
	for i, turn := range []func(*impl.TreeMod){
		func(m *impl.TreeMod) {}, func(m *impl.TreeMod) { m.Uses = nil }, func(m *impl.TreeMod) { slices.Reverse(m.Uses) }, func(m *impl.TreeMod) { m.Uses[0] = "f" }, func(m *impl.TreeMod) { m.Uses = names(4) },
		func(m *impl.TreeMod) { m.Main = nil }, func(m *impl.TreeMod) { m.Main[0] = spread(100) },
		func(m *impl.TreeMod) { m.Funs[0].Body = num(1) }, func(m *impl.TreeMod) { m.Funs[0].Body = flag(1) }, func(m *impl.TreeMod) { m.Funs[0].Body = call("z", "z") }, func(m *impl.TreeMod) { m.Funs[2].Body = chain(16) },
		func(m *impl.TreeMod) { m.Funs[0].Args[0].Name = "z" }, func(m *impl.TreeMod) { m.Funs[0].Args[0].Name, m.Funs[0].Args[1].Name = "y", "x" }, func(m *impl.TreeMod) { m.Funs[3].Args[0].Name = "e" },
		func(m *impl.TreeMod) { m.Funs[1].Name = "d" }, func(m *impl.TreeMod) { m.Funs[1].Name = "fff" }, func(m *impl.TreeMod) { m.Funs[1].Type = 1 }, func(m *impl.TreeMod) { m.Funs[1].Args = nil }, func(m *impl.TreeMod) { m.Funs[1].Args[0].Type = 1 },
		func(m *impl.TreeMod) { m.Funs = slices.Delete(m.Funs, 1, 2) }, func(m *impl.TreeMod) { m.Funs = append(m.Funs, impl.TreeFun{Name: "zz", Type: 1, Body: num(1)}) },
		func(m *impl.TreeMod) {
			m.Funs = slices.Insert(m.Funs, 0, impl.TreeFun{Name: "a", Type: 1, Body: num(1)})
		},
	} {
		m := base()
		turn(&m)
		if got := impl.FaceText(impl.FaceOf(m)); got != want {
			t.Errorf("turn %d shows: %q", i, got)
		}
	}
	for i, turn := range []func(*impl.TreeMod){
		func(m *impl.TreeMod) { m.Funs[0].Name = "h" }, func(m *impl.TreeMod) { m.Funs[0].Pub = false }, func(m *impl.TreeMod) { m.Funs[1].Pub = true }, func(m *impl.TreeMod) { m.Funs[0].Type = 2 },
		func(m *impl.TreeMod) { m.Funs[0].Args[0].Type = 3 }, func(m *impl.TreeMod) { slices.Reverse(m.Funs[0].Args) }, func(m *impl.TreeMod) { m.Funs[0].Args = m.Funs[0].Args[:1] }, func(m *impl.TreeMod) { m.Funs[0].Args = nil },
		func(m *impl.TreeMod) { m.Funs[2].Args = []impl.TreeArg{{Name: "x", Type: 1}} }, func(m *impl.TreeMod) { m.Funs = m.Funs[1:] }, func(m *impl.TreeMod) { m.Funs = m.Funs[:3] },
		func(m *impl.TreeMod) {
			m.Funs = append(m.Funs, impl.TreeFun{Name: "zz", Pub: true, Type: 1, Body: num(1)})
		},
		func(m *impl.TreeMod) { m.Funs[0].Name, m.Funs[3].Name = m.Funs[3].Name, m.Funs[0].Name },
	} {
		m := base()
		turn(&m)
		if got := impl.FaceText(impl.FaceOf(m)); got == want || got == "" {
			t.Errorf("turn %d does not show: %q", i, got)
		}
	}
}

// P6 for the order: each order of the functions has one face.
func TestFaceOfOrder(t *testing.T) {
	m, _ := impl.TreeRead("(pub a ((x int)) int 1)(fun b () int 2)(pub ab () bool true)(pub aa ((x row)(y bool)) row x)(fun z () int 3)")
	want := "a(int)int\naa(row,bool)row\nab()bool\n"
	orders := 0
	var each func(funs []impl.TreeFun, n int)
	each = func(funs []impl.TreeFun, n int) {
		if n == len(funs) {
			orders++
			if got := impl.FaceText(impl.FaceOf(impl.TreeMod{Funs: funs})); got != want {
				t.Errorf("%q", got)
			}
			return
		}
		for i := n; i < len(funs); i++ {
			funs[n], funs[i] = funs[i], funs[n]
			each(funs, n+1)
			funs[n], funs[i] = funs[i], funs[n]
		}
	}
	each(m.Funs, 0)
	if orders != 120 {
		t.Error(orders)
	}
}

// spoiledFace writes over all lists of a face, spare room included.
func spoiledFace(list []impl.FaceSig) {
	for _, s := range list {
		for i := range s.Args[:cap(s.Args)] {
			s.Args[:cap(s.Args)][i] = -9
		}
	}
	for i := range list[:cap(list)] {
		list[:cap(list)][i] = impl.FaceSig{Name: "spoiled", Type: -9}
	}
}

// behindFace writes into the spare room of all lists of a face.
func behindFace(list []impl.FaceSig) {
	for _, s := range list {
		for i := len(s.Args); i < cap(s.Args); i++ {
			s.Args[:cap(s.Args)][i] = -9
		}
	}
	for i := len(list); i < cap(list); i++ {
		list[:cap(list)][i] = impl.FaceSig{Name: "spoiled"}
	}
}

func TestFaceNew(t *testing.T) {
	r := rand.New(rand.NewSource(15))
	for range 1000 {
		m := randomMod(r)
		before := settled(m)
		face, other := impl.FaceOf(m), impl.FaceOf(m)
		text := strings.Clone(impl.FaceText(face))
		read, ok := impl.FaceRead(text)
		again, _ := impl.FaceRead(text)
		if !ok {
			t.Fatal(text)
		}
		for i := range face {
			for _, f := range m.Funs {
				if overlap(face[i].Name, f.Name) {
					t.Fatal("a name of a face shares the module's memory")
				}
			}
			if overlap(read[i].Name, text) || overlap(read[i].Name, again[i].Name) || overlap(face[i].Name, other[i].Name) {
				t.Fatal("a name that is read shares the text's memory, or another answer's")
			}
		}
		for _, list := range [][]impl.FaceSig{face, read} {
			kept := settledFace(list)
			behindFace(list)
			if !sameFace(list, kept) {
				t.Fatal("what is behind one list is in another one")
			}
			spoiledFace(list)
		}
		if !sameFace(other, again) || !sameFace(other, impl.FaceOf(m)) || !plainSame(m, before) || impl.FaceText(other) != text {
			t.Fatal("answers share memory")
		}
	}
}

// Each of several lines has Args of its own, whatever their sizes are.
func TestFaceListsApart(t *testing.T) {
	for _, sizes := range [][]int{{1, 1, 1, 1}, {3, 3, 3, 3}, {4, 4, 4, 4}, {1, 2, 3, 4}, {4, 3, 2, 1}, {0, 1, 0, 3}, {2, 0, 2, 0}} {
		var want []impl.FaceSig
		for i, n := range sizes {
			want = append(want, sig(names(4)[i], append(slices.Repeat([]int{1 + i%3}, n), 1)...))
		}
		read, ok := impl.FaceRead(plainFaceText(want))
		if !ok {
			t.Fatal(sizes)
		}
		for i := range read {
			for j := range read {
				args := read[j].Args[:cap(read[j].Args)]
				if i == j {
					continue
				}
				for k := range args {
					args[k] = 1 + j%3
				}
			}
			if !sameFace(read[i:i+1], want[i:i+1]) {
				t.Errorf("%v: line %d is %v; want %v", sizes, i, read[i], want[i])
			}
		}
	}
}

// Nothing is written into an argument, nor behind its end.
func TestFaceArguments(t *testing.T) {
	r := rand.New(rand.NewSource(16))
	for range 1000 {
		m := randomMod(r)
		if r.Intn(2) == 0 {
			m = turnedMod(r, m)
		}
		m = roomy(m)
		before := wide(m)
		impl.FaceOf(m)
		if !plainSame(wide(m), before) {
			t.Fatal("a module was written into")
		}
		list := randomFace(r)
		if r.Intn(2) == 0 {
			list = turnedFace(r, list)
		}
		list = roomyFace(list)
		kept := wideFace(list)
		ok := impl.FaceOk(list)
		text := impl.FaceText(list)
		if !sameFace(wideFace(list), kept) {
			t.Fatal("a face was written into")
		}
		for _, s := range list {
			if overlap(text, s.Name) {
				t.Fatal("what is written shares the memory of a name")
			}
		}
		// What is behind the end of a list does not count.
		if ok != plainFaceOk(settledFace(list)) {
			t.Fatal("what is behind the end shows")
		}
	}
}

// roomyFace is a copy of a face whose lists all have spare room, with something in it.
func roomyFace(list []impl.FaceSig) []impl.FaceSig {
	out := append(slices.Clone(list), impl.FaceSig{Name: "room"}, impl.FaceSig{Name: "a", Type: 1})[:len(list)]
	for i := range out {
		n := len(out[i].Args)
		out[i].Args = append(slices.Clone(out[i].Args), 7, 1, 2)[:n]
	}
	return out
}

// wideFace is a face with all its lists as long as their room is.
func wideFace(list []impl.FaceSig) []impl.FaceSig {
	out := slices.Clone(list[:cap(list)])
	for i := range out {
		out[i].Args = slices.Clone(out[i].Args[:cap(out[i].Args)])
	}
	return out
}

// Whatever a call is given, it answers.
func TestFaceAnything(t *testing.T) {
	r := rand.New(rand.NewSource(17))
	for range 3000 {
		list := make([]impl.FaceSig, r.Intn(12))
		for i := range list {
			list[i] = impl.FaceSig{Name: randomWrongName(r), Type: int(r.Uint64() >> r.Intn(64)), Args: make([]int, r.Intn(7))}
			for j := range list[i].Args {
				list[i].Args[j] = int(r.Uint64() >> r.Intn(64))
			}
		}
		checkFace(t, "anything", list, plainFaceOk(list))
		text := make([]byte, r.Intn(40))
		for i := range text {
			text[i] = byte(r.Intn(256))
		}
		checkFaceRead(t, string(text))
	}
	e := round("not")
	if got := impl.FaceOf(impl.TreeMod{Funs: []impl.TreeFun{{Name: "f", Pub: true, Type: 1, Body: e}}}); len(got) != 0 {
		t.Error("what is endless has a face", got)
	}
}
