package tests

import (
	"math"
	"math/rand"
	"slices"
	"strings"
	"sync"
	"testing"

	"loop.example/smithy/impl"
)

// randomIns is an instruction that may stand.
func randomIns(r *rand.Rand) impl.CodeIns {
	ins := impl.CodeIns{Op: 1 + r.Intn(10)}
	least, most := plainSpan(ins.Op)
	switch r.Intn(4) {
	case 0:
		ins.A = least
	case 1:
		ins.A = most
	case 2:
		ins.A = least + r.Intn(most-least+1)
	case 3:
		ins.A = min(most, r.Intn(20))
	}
	return ins
}

// randomObj is an object that is ok, whether or not its parts fit together.
func randomObj(r *rand.Rand) impl.CodeObj {
	var o impl.CodeObj
	for range r.Intn(1 + r.Intn(41)) {
		ref := impl.CodeRef{Name: randomName(r)}
		if r.Intn(2) == 0 {
			ref.Mod = randomName(r)
		}
		o.Refs = append(o.Refs, ref)
	}
	for range r.Intn(10) {
		f := impl.CodeFun{Name: randomName(r), Pub: r.Intn(2) == 0, Type: 1 + r.Intn(3), Slots: r.Intn(1 + r.Intn(1001))}
		if r.Intn(4) == 0 {
			f.Name = "main"
		}
		for range r.Intn(5) {
			f.Args = append(f.Args, 1+r.Intn(3))
		}
		for range r.Intn(1 + r.Intn(52)) {
			f.Code = append(f.Code, randomIns(r))
		}
		o.Funs = append(o.Funs, f)
	}
	return o
}

// someInt is a whole number of any size, most of them small.
func someInt(r *rand.Rand) int { return int(r.Uint64()>>r.Intn(64)) - r.Intn(3) }

// turnedObj is an object with one part turned, in memory of its own; many are not ok.
func turnedObj(r *rand.Rand, o impl.CodeObj) impl.CodeObj {
	o = settledObj(o)
	if len(o.Refs) > 0 && r.Intn(3) == 0 {
		ref := &o.Refs[r.Intn(len(o.Refs))]
		if r.Intn(2) == 0 {
			ref.Mod = randomWrongName(r)
		} else {
			ref.Name = randomWrongName(r)
		}
		return o
	}
	if len(o.Funs) == 0 {
		o.Funs = append(o.Funs, impl.CodeFun{Name: randomWrongName(r), Type: r.Intn(5)})
		return o
	}
	i, j := r.Intn(len(o.Funs)), r.Intn(len(o.Funs))
	f := &o.Funs[i]
	switch r.Intn(9) {
	case 0:
		f.Name = randomWrongName(r)
	case 1:
		f.Pub = !f.Pub
	case 2:
		f.Args = append(f.Args, r.Intn(5))
	case 3:
		f.Type = r.Intn(6) - 1
	case 4:
		f.Slots = someInt(r)
	case 5:
		f.Code = append(f.Code, impl.CodeIns{Op: r.Intn(13) - 1, A: someInt(r)})
	case 6:
		if len(f.Code) > 0 {
			f.Code[r.Intn(len(f.Code))].A = someInt(r)
		}
	case 7:
		o.Funs[i], o.Funs[j] = o.Funs[j], o.Funs[i]
	case 8:
		o.Funs = slices.Insert(o.Funs, i, o.Funs[j])
	}
	return o
}

// P19: what is written of an object that is ok is read as it; of one that is not there is no text.
func TestObjReadBack(t *testing.T) {
	r := rand.New(rand.NewSource(51))
	right, wrong := 0, 0
	for range 4000 {
		o := randomObj(r)
		checkObj(t, "random", o, true)
		o = turnedObj(r, o)
		want := plainObjOk(o)
		checkObj(t, "turned", o, want)
		if want {
			right++
		} else {
			wrong++
		}
	}
	if right < 1000 || wrong < 1000 {
		t.Error(right, wrong)
	}
}

// P19: two objects have one text just if they are the same.
func TestObjTextTwo(t *testing.T) {
	r := rand.New(rand.NewSource(52))
	same, not := 0, 0
	for range 5000 {
		a := randomObj(r)
		b := turnedObj(r, a)
		if !plainObjOk(b) {
			continue
		}
		if want := sameObj(a, b); (impl.ObjText(a) == impl.ObjText(b)) != want {
			t.Fatalf("the texts of %v and %v", a, b)
		} else if want {
			same++
		} else {
			not++
		}
	}
	if same < 50 || not < 1000 {
		t.Error(same, not)
	}
}

// P19: the object of each module that is right is ok.
func TestObjMade(t *testing.T) {
	r := rand.New(rand.NewSource(53))
	look := func(what string, m impl.TreeMod, faces []impl.TypeFace) impl.CodeObj {
		t.Helper()
		o, ok := impl.CodeMake(m, faces)
		if !ok {
			t.Fatalf("%s: %s has no object", what, impl.TreePrint(m))
		}
		checkObj(t, what, o, true)
		return o
	}
	// How many there are of each part: functions that are Pub, that are not, with Args, without, Mains, Refs, none.
	var count [7]int
	add := func(o impl.CodeObj) {
		for _, f := range o.Funs {
			for place, holds := range []bool{f.Pub, !f.Pub, len(f.Args) > 0, len(f.Args) == 0, f.Name == "main"} {
				if holds {
					count[place]++
				}
			}
		}
		count[5] += len(o.Refs)
		if len(o.Funs) == 0 {
			count[6]++
		}
	}
	for range 2000 {
		m, faces := typedMod(r)
		add(look("typed", m, faces))
	}
	for range 500 {
		mods := rightMods(r, false)
		for _, m := range mods {
			add(look("right", m.Mod, facesOf(mods)))
		}
	}
	for place, n := range count {
		if n < 100 {
			t.Error(place, n)
		}
	}
	// The object of nothing, and of each Kind of expression and each primitive.
	if o := look("nothing", impl.TreeMod{}, nil); impl.ObjText(o) != "object\n" {
		t.Error(o)
	}
	const lib = "(use lib)(fun f ((x int)) int x)"
	for _, e := range strings.Split("7|-99999999999999999|99999999999999999|true|false|(let x 1 x)|(if true 1 2)|(f 1)|(lib.g)|(row)|(row 1 2 3 4 5 6 7 8)|(+ 1 2)|(- 1 2)|(* 1 2)|(/ 1 2)|(% 1 2)|(< 1 2)|(<= 1 2)|(= 1 2)|(not true)|(and true false)|(or true false)|(at (row 1) 0)|(len (row))|(put (row 1) 0 2)|(join (row) (row))|(print 1)", "|") {
		look(e, readMod(t, lib+"(main "+e+")"), codeFaces(t))
		for _, kind := range []string{"int", "bool", "row"} {
			m := readMod(t, lib+"(pub h ((a int)(b bool)(c row)) "+kind+" "+e+")")
			if impl.TypeMod(m, codeFaces(t)).Code == 0 {
				look(e, m, codeFaces(t))
			}
		}
	}
}

// P19: modules that have as much of all as they may have objects that are ok.
func TestObjMadeLarge(t *testing.T) {
	look := func(what string, m impl.TreeMod, faces []impl.TypeFace, refs int) {
		t.Helper()
		o, ok := impl.CodeMake(m, faces)
		if !ok || len(o.Refs) != refs {
			t.Fatal(what, ok, o)
		}
		checkObj(t, what, o, true)
	}
	// Each function of four modules is called, and each of its own.
	m := impl.TreeMod{Uses: names(4)}
	var faces []impl.TypeFace
	for i, mod := range append([]string{""}, m.Uses...) {
		face := impl.TypeFace{Mod: mod}
		row := list()
		for _, name := range names(8) {
			face.Sigs = append(face.Sigs, sig("abcdefg"+name, 1))
			row.Kids = append(row.Kids, call(mod, "abcdefg"+name))
		}
		faces = append(faces, face)
		m.Funs = append(m.Funs, impl.TreeFun{Name: "abcdefg" + names(8)[i], Pub: true, Type: 1, Body: prim("len", row)})
	}
	for _, name := range names(8)[5:] {
		m.Funs = append(m.Funs, impl.TreeFun{Name: "abcdefg" + name, Type: 1, Body: num(1)})
	}
	m.Main = []impl.TreeExpr{call("a", "abcdefga")}
	look("calls", m, faces, 40)
	// As many functions with as many parameters, each with its variables beside them.
	m = impl.TreeMod{Main: []impl.TreeExpr{flag(1)}}
	for _, name := range names(8) {
		f := impl.TreeFun{Name: name, Pub: true, Type: 2}
		for _, arg := range names(4) {
			f.Args = append(f.Args, impl.TreeArg{Name: arg, Type: 2})
		}
		f.Body = let("y", variable("a"), let("z", variable("b"), prim("and", variable("y"), prim("or", variable("z"), variable("c")))))
		m.Funs = append(m.Funs, f)
	}
	look("parameters", m, nil, 0)
	// As many expressions as there may be, with as much code as they may have.
	for n := 1; n <= 75; n++ {
		m = impl.TreeMod{}
		e := flag(1)
		var row []impl.TreeExpr
		for i := range n {
			if e = prim([]string{"and", "or"}[i%2], e, flag(0)); i%14 == 13 || i == n-1 {
				row = append(row, e)
				e = flag(1)
			}
		}
		for i, e := range row {
			m.Funs = append(m.Funs, impl.TreeFun{Name: names(8)[i], Type: 2, Body: e})
		}
		if nodes := 2*n + len(row); nodes <= 150 && len(row) <= 8 {
			look("shortcuts", m, nil, 0)
		}
	}
	m = impl.TreeMod{Funs: []impl.TreeFun{{Name: "f", Type: 1, Body: sums(75)}}, Main: []impl.TreeExpr{sums(75)}}
	look("sums", m, nil, 0)
	deep := variable("x")
	for range 15 {
		deep = let("x", num(1-numEnd), deep)
	}
	look("deep", mainOf(deep), nil, 0)
}

// The answers are the same at every call, and from several goroutines.
func TestObjAgain(t *testing.T) {
	r := rand.New(rand.NewSource(54))
	for range 200 {
		o := randomObj(r)
		if r.Intn(3) == 0 {
			o = turnedObj(r, o)
		}
		want := plainObjOk(o)
		text := plainObjText(o)
		oks, texts, read, objs := make([]bool, 8), make([]string, 8), make([]bool, 8), make([]impl.CodeObj, 8)
		var group sync.WaitGroup
		for i := range oks {
			group.Go(func() {
				oks[i], texts[i] = impl.ObjOk(o), impl.ObjText(o)
				objs[i], read[i] = impl.ObjRead(text)
			})
		}
		group.Wait()
		for i := range oks {
			if oks[i] != want || want && (texts[i] != text || !read[i] || !sameObj(objs[i], o)) || !want && texts[i] != "" || read[i] != read[0] || !sameObj(objs[i], objs[0]) {
				t.Fatalf("%v: %v, %q, %v, %v", o, oks[i], texts[i], read[i], objs[i])
			}
		}
		// Nor does what was asked in between show.
		if impl.ObjRead("object\nref .f\nfun"); !checkObjRead(t, exampleText) {
			t.Fatal("another answer")
		}
		checkObj(t, "again", fullObj(), true)
	}
}

// Nothing is written into an argument or behind its end, and every answer is new memory.
func TestObjNew(t *testing.T) {
	r := rand.New(rand.NewSource(55))
	lists := 0
	for range 1000 {
		o := randomObj(r)
		if r.Intn(4) == 0 {
			o = turnedObj(r, o)
		}
		given := roomyObj(o)
		before := wideObj(given)
		ok, text, again := impl.ObjOk(given), impl.ObjText(given), impl.ObjText(given)
		if ok != plainObjOk(o) || text != again || !sameObj(wideObj(given), before) {
			t.Fatal("an argument was written into, or what is behind an end counts")
		}
		if overlap(text, again) {
			t.Fatal("two texts share memory")
		}
		for _, name := range objTexts(given) {
			if overlap(text, name) {
				t.Fatal("a text shares memory with its object")
			}
		}
		if !ok {
			continue
		}
		a, _ := impl.ObjRead(text)
		b, _ := impl.ObjRead(text)
		all := append(spansOf(a), spansOf(b)...)
		for i, s := range all {
			for _, o := range all[:i] {
				if s.meets(o) {
					t.Fatal("two lists of answers share memory")
				}
			}
		}
		lists += len(all)
		names := objTexts(b)
		for i, name := range objTexts(a) {
			if overlap(name, text) || name != "main" && overlap(name, names[i]) {
				t.Fatalf("%q shares memory", name)
			}
		}
		if spoilObj(a); !sameObj(b, o) || impl.ObjText(b) != text {
			t.Fatal("another answer was written into")
		}
		if c, ok := impl.ObjRead(text); !ok || !sameObj(c, o) {
			t.Fatal("what was written into an answer shows")
		}
	}
	if lists < 10000 {
		t.Error(lists)
	}
}

// Whatever a call is given, it answers.
func TestObjAnything(t *testing.T) {
	r := rand.New(rand.NewSource(56))
	right, wrong := 0, 0
	for range 4000 {
		var o impl.CodeObj
		if r.Intn(2) == 0 {
			o = randomObj(r)
		}
		for range r.Intn(4) {
			o = turnedObj(r, o)
		}
		for range r.Intn(3) / 2 {
			o.Refs = append(o.Refs, impl.CodeRef{Mod: randomWrongName(r), Name: randomWrongName(r)})
			o.Funs = append(o.Funs, impl.CodeFun{Name: randomWrongName(r), Args: []int{someInt(r)}, Type: someInt(r), Slots: someInt(r), Code: []impl.CodeIns{{Op: someInt(r), A: someInt(r)}}})
		}
		want := plainObjOk(o)
		checkObj(t, "anything", o, want)
		if want {
			right++
		} else {
			wrong++
		}
	}
	if right < 500 || wrong < 1000 {
		t.Error(right, wrong)
	}
	const signs = "object\nref .fun own-,int 0123pushbackmain\x00\xff"
	for range 20000 {
		text := make([]byte, r.Intn(40))
		for i := range text {
			text[i] = signs[r.Intn(len(signs))]
		}
		if head := "object\n"; r.Intn(2) == 0 {
			checkObjRead(t, head+string(text))
		}
		checkObjRead(t, string(text))
	}
	for _, o := range []impl.CodeObj{{Funs: []impl.CodeFun{{}}}, {Refs: []impl.CodeRef{{}}}, {Funs: []impl.CodeFun{{Name: "f", Type: 1, Code: []impl.CodeIns{{Op: math.MaxInt}}}}}, {Funs: []impl.CodeFun{{Name: "f", Type: 1, Code: []impl.CodeIns{{Op: math.MinInt, A: math.MinInt}}}}}} {
		checkObj(t, "nothing", o, false)
	}
}
