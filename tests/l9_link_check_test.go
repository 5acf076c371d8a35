package tests

import (
	"slices"
	"strings"
	"testing"

	"loop.example/smithy/impl"
)

// wrongParts are parts in which something is wrong, or nothing.
type wrongParts struct {
	what  string
	parts []impl.LinkPart
	fault impl.LinkFault
}

func checkWrong(t *testing.T, list []wrongParts) {
	t.Helper()
	for _, c := range list {
		if m, got := checkLink(t, c.what, c.parts); got != c.fault || len(m.Funs)+len(m.Mains) > 0 && got.Code != 0 {
			t.Errorf("%s: LinkMake(%v) = %v, %v; want %v", c.what, c.parts, m, got, c.fault)
		}
	}
}

// wrongAt is a fault.
func wrongAt(code, part, at int) impl.LinkFault {
	return impl.LinkFault{Code: code, Part: part, At: at}
}

// more is parts and others behind them, in memory of its own.
func more(parts []impl.LinkPart, others ...impl.LinkPart) []impl.LinkPart {
	return slices.Concat(parts, others)
}

// Nothing is wrong with as many parts as there may be; with one more that is told, whatever else is wrong.
func TestLinkCheckMany(t *testing.T) {
	for n := range 12 {
		var parts []impl.LinkPart
		for _, name := range names(n) {
			parts = append(parts, part(t, name, "fun f pub - int 0\nback 0\n"))
		}
		var right, wrong impl.LinkFault
		if n > 0 {
			wrong = wrongAt(impl.LinkForm, 0, 0)
		}
		if n > 8 {
			right, wrong = wrongAt(impl.LinkMany, 0, 0), wrongAt(impl.LinkMany, 0, 0)
		}
		checkWrong(t, []wrongParts{
			{"right", parts, right},
			{"of nothing", make([]impl.LinkPart, n), wrong},
			{"of no name", slices.Repeat([]impl.LinkPart{part(t, "main", "")}, n), wrong},
		})
		// All that may be wrong is there too.
		if n > 8 {
			parts[0].Name, parts[3].Obj = "main", impl.CodeObj{Funs: []impl.CodeFun{{}}}
			parts[8] = part(t, "b", "ref .g\nfun f pub - int 0\ncall 7\n")
			checkWrong(t, []wrongParts{{"all", parts, wrong}, {"the others", parts[:8], wrongAt(impl.LinkForm, 0, 0)}})
		}
	}
	checkWrong(t, []wrongParts{{"nothing", nil, impl.LinkFault{}}, {"nothing", []impl.LinkPart{}, impl.LinkFault{}}})
}

// A part's name is a name, and its object is ok.
func TestLinkCheckForm(t *testing.T) {
	text := "fun f pub - int 0\nback 0\n"
	ahead := []impl.LinkPart{part(t, "a", text), part(t, "b", "ref a.f\n"+text)}
	for _, name := range append(strings.Fields(ownWords), "", "abcdefghi", strings.Repeat("a", 1000), "A", "a1", "1", "a.b", ".", "a.", " ", "a ", " a", "a\n", "\n", "é", "\xff", "\x00", "-", "`", "{", "a,b") {
		p := part(t, name, text)
		checkWrong(t, []wrongParts{
			{"alone " + name, []impl.LinkPart{p}, wrongAt(impl.LinkForm, 0, 0)},
			{"behind " + name, more(ahead, p), wrongAt(impl.LinkForm, 2, 0)},
			{"ahead " + name, more([]impl.LinkPart{p}, ahead...), wrongAt(impl.LinkForm, 0, 0)},
			{"empty " + name, more(ahead[:1], impl.LinkPart{Name: name}), wrongAt(impl.LinkForm, 1, 0)},
			{"of two " + name, []impl.LinkPart{p, p}, wrongAt(impl.LinkForm, 0, 0)},
		})
	}
	for _, name := range []string{"z", "f", "abcdefgh", "zzzzzzzz", "image", "object", "mains", "own", "call"} {
		checkWrong(t, []wrongParts{
			{"right " + name, []impl.LinkPart{part(t, name, text)}, impl.LinkFault{}},
			{"right behind " + name, more(ahead, part(t, name, text)), impl.LinkFault{}},
			{"right and empty " + name, more(ahead, impl.LinkPart{Name: name}), impl.LinkFault{}},
		})
	}
	// Each part of an object that is turned so that it is not ok.
	wrong := 0
	for _, turn := range objTurns() {
		o := objWith(turn)
		if plainObjOk(o) {
			continue
		}
		wrong++
		for i := range 3 {
			parts := slices.Insert(slices.Clone(ahead), i, impl.LinkPart{Name: "c", Obj: o})
			checkWrong(t, []wrongParts{{"an object that is not ok", parts, wrongAt(impl.LinkForm, i, 0)}})
			parts[i].Name = "main"
			checkWrong(t, []wrongParts{{"nor its name", parts, wrongAt(impl.LinkForm, i, 0)}})
		}
	}
	if wrong < 10 {
		t.Error(wrong)
	}
	// Each limit of an object is met and passed by one.
	code := slices.Repeat([]impl.CodeIns{{Op: impl.CodePush}}, 461)
	refs := slices.Repeat([]impl.CodeRef{{Mod: "a", Name: "f"}}, 41)
	funs := slices.Clone(part(t, "", strings.Repeat("fun x own - int 0\n", 9)).Obj.Funs)
	for i := range funs {
		funs[i].Name = names(9)[i]
	}
	for _, c := range []struct {
		obj   impl.CodeObj
		right bool
	}{
		{impl.CodeObj{Refs: refs[:40]}, true}, {impl.CodeObj{Refs: refs}, false}, {impl.CodeObj{Funs: funs}, true}, {impl.CodeObj{Funs: append(slices.Clone(funs), impl.CodeFun{Name: "x", Type: 1})}, false},
		{impl.CodeObj{Funs: []impl.CodeFun{{Name: "f", Type: 1, Code: code[:460]}}}, true}, {impl.CodeObj{Funs: []impl.CodeFun{{Name: "f", Type: 1, Code: code}}}, false},
		{impl.CodeObj{Funs: []impl.CodeFun{{Name: "f", Type: 1, Code: code[:200]}, {Name: "g", Type: 1, Code: code[:260]}}}, true}, {impl.CodeObj{Funs: []impl.CodeFun{{Name: "f", Type: 1, Code: code[:200]}, {Name: "g", Type: 1, Code: code[:261]}}}, false},
		{impl.CodeObj{Funs: []impl.CodeFun{{Name: "f", Type: 1, Code: []impl.CodeIns{{Op: impl.CodeCall, A: -1}}}}}, false},
	} {
		var want impl.LinkFault
		if !c.right {
			want = wrongAt(impl.LinkForm, 2, 0)
		}
		checkWrong(t, []wrongParts{{"a limit", more(ahead, impl.LinkPart{Name: "c", Obj: c.obj}), want}})
	}
}

// No two parts have one name, and no two functions of a part.
func TestLinkCheckTwice(t *testing.T) {
	const (
		f  = "fun f own - int 0\n"
		g  = "fun g pub - int 0\n"
		mn = "fun main own - int 0\n"
	)
	a, b, c := part(t, "a", f), part(t, "b", g), part(t, "c", mn)
	checkWrong(t, []wrongParts{
		{"none", []impl.LinkPart{a, b, c}, impl.LinkFault{}},
		{"two parts", []impl.LinkPart{a, a}, wrongAt(impl.LinkTwice, 1, 0)},
		{"two parts of which the second has nothing", []impl.LinkPart{a, {Name: "a"}}, wrongAt(impl.LinkTwice, 1, 0)},
		{"two parts of which the first has nothing", []impl.LinkPart{{Name: "a"}, a}, wrongAt(impl.LinkTwice, 1, 0)},
		{"two that have nothing", []impl.LinkPart{{Name: "a"}, {Name: "a"}}, wrongAt(impl.LinkTwice, 1, 0)},
		{"two with another object", []impl.LinkPart{a, part(t, "a", g)}, wrongAt(impl.LinkTwice, 1, 0)},
		{"with one between", []impl.LinkPart{a, b, a, c}, wrongAt(impl.LinkTwice, 2, 0)},
		{"the last of all", []impl.LinkPart{b, c, a, a}, wrongAt(impl.LinkTwice, 3, 0)},
		{"three times", []impl.LinkPart{b, a, a, a}, wrongAt(impl.LinkTwice, 2, 0)},
		{"two that are twice", []impl.LinkPart{a, b, b, a}, wrongAt(impl.LinkTwice, 2, 0)},
		{"one that is nearly it", []impl.LinkPart{a, part(t, "aa", f), part(t, "ab", f), part(t, "f", f)}, impl.LinkFault{}},
		{"two functions", []impl.LinkPart{part(t, "a", f+f)}, wrongAt(impl.LinkTwice, 0, 1)},
		{"with one between", []impl.LinkPart{part(t, "a", f+g+f)}, wrongAt(impl.LinkTwice, 0, 2)},
		{"three times", []impl.LinkPart{part(t, "a", g+f+f+f)}, wrongAt(impl.LinkTwice, 0, 2)},
		{"three times, apart", []impl.LinkPart{part(t, "a", f+g+f+mn+f)}, wrongAt(impl.LinkTwice, 0, 2)},
		{"two names twice", []impl.LinkPart{part(t, "a", f+g+g+f)}, wrongAt(impl.LinkTwice, 0, 2)},
		{"two mains", []impl.LinkPart{part(t, "a", mn+f+mn)}, wrongAt(impl.LinkTwice, 0, 2)},
		{"two mains of two parts", []impl.LinkPart{part(t, "a", mn), part(t, "b", mn)}, impl.LinkFault{}},
		{"one that is Pub, one that is not", []impl.LinkPart{part(t, "a", "fun f pub - int 0\n"+f)}, wrongAt(impl.LinkTwice, 0, 1)},
		{"of other types", []impl.LinkPart{part(t, "a", "fun f own int,row bool 2\nfun f own - int 0\n")}, wrongAt(impl.LinkTwice, 0, 1)},
		{"one name in two parts", []impl.LinkPart{part(t, "a", f+g), part(t, "b", g+f)}, impl.LinkFault{}},
		{"a function's name that is the part's", []impl.LinkPart{part(t, "f", f+g), part(t, "g", f+g)}, impl.LinkFault{}},
		{"in the second part", []impl.LinkPart{b, part(t, "a", f+f)}, wrongAt(impl.LinkTwice, 1, 1)},
		{"in two parts", []impl.LinkPart{part(t, "a", f+g+f), part(t, "b", f+f)}, wrongAt(impl.LinkTwice, 0, 2)},
		{"the last of nine", []impl.LinkPart{part(t, "a", "fun a own - int 0\nfun b own - int 0\nfun c own - int 0\nfun d own - int 0\nfun e own - int 0\nfun f own - int 0\nfun g own - int 0\nfun main own - int 0\nfun a own - int 0\n")}, wrongAt(impl.LinkTwice, 0, 8)},
		// Part by part: what is wrong in a part counts ahead of what is wrong behind it.
		{"a function, then a part", []impl.LinkPart{part(t, "a", f+f), part(t, "a", f)}, wrongAt(impl.LinkTwice, 0, 1)},
		{"a part, and its functions", []impl.LinkPart{a, part(t, "a", f+f)}, wrongAt(impl.LinkTwice, 1, 0)},
		{"a part, then functions", []impl.LinkPart{a, a, part(t, "b", f+f)}, wrongAt(impl.LinkTwice, 1, 0)},
		{"a function, then a form", []impl.LinkPart{part(t, "a", f+f), {Name: "main"}}, wrongAt(impl.LinkTwice, 0, 1)},
		{"a form, then a function", []impl.LinkPart{{Name: "main"}, part(t, "a", f+f)}, wrongAt(impl.LinkForm, 0, 0)},
		{"a part, then a form", []impl.LinkPart{a, a, {}}, wrongAt(impl.LinkTwice, 1, 0)},
		{"a part that is of no form", []impl.LinkPart{a, {Name: "a", Obj: impl.CodeObj{Funs: []impl.CodeFun{{}}}}}, wrongAt(impl.LinkForm, 1, 0)},
		{"functions of a part of no form", []impl.LinkPart{a, {Name: "b", Obj: impl.CodeObj{Funs: []impl.CodeFun{{Name: "f", Type: 1}, {Name: "f", Type: 4}}}}}, wrongAt(impl.LinkForm, 1, 0)},
	})
}

// Each Ref names a function that is there, and that is Pub, if its module is named.
func TestLinkCheckRefs(t *testing.T) {
	// own has a function of each sort, and lib too.
	const text = "fun f pub - int 0\nfun g own - int 0\nfun main own - int 0\n"
	lib := part(t, "lib", text)
	none, own := impl.LinkNone, impl.LinkOwn
	for _, c := range []struct {
		refs     string
		code, at int
	}{
		{"ref lib.f\n", 0, 0}, {"ref .f\n", 0, 0}, {"ref .g\n", 0, 0}, {"ref own.f\n", 0, 0}, {"ref lib.f\nref own.f\nref .f\nref .g\nref lib.f\n", 0, 0},
		// A Mod that is no part; a name that no function has, of another part, of its own, by either way.
		{"ref x.f\n", none, 0}, {"ref x.g\n", none, 0}, {"ref lib.x\n", none, 0}, {"ref .x\n", none, 0}, {"ref own.x\n", none, 0}, {"ref f.lib\n", none, 0}, {"ref li.f\n", none, 0}, {"ref libs.f\n", none, 0}, {"ref lib.ff\n", none, 0}, {"ref .lib\n", none, 0}, {"ref .own\n", none, 0},
		{"ref nil.f\n", none, 0}, {"ref nil.x\n", none, 0},
		// One that is not Pub.
		{"ref lib.g\n", own, 0}, {"ref own.g\n", own, 0},
		// The first of several.
		{"ref lib.f\nref x.f\n", none, 1}, {"ref .f\nref .g\nref .x\n", none, 2}, {"ref .g\nref own.g\n", own, 1}, {"ref own.f\nref lib.f\nref lib.g\n", own, 2},
		{"ref x.f\nref lib.g\n", none, 0}, {"ref lib.g\nref x.f\n", own, 0}, {"ref own.g\nref .x\n", own, 0}, {"ref .x\nref own.g\n", none, 0}, {"ref x.f\nref y.f\n", none, 0}, {"ref own.g\nref lib.g\n", own, 0}, {"ref .f\nref lib.g\nref .x\n", own, 1}, {"ref .f\nref .x\nref lib.g\n", none, 1},
		{strings.Repeat("ref .g\n", 39) + "ref own.g\n", own, 39}, {strings.Repeat("ref lib.f\n", 39) + "ref lib.x\n", none, 39}, {strings.Repeat("ref .f\n", 40), 0, 0},
	} {
		p := part(t, "own", c.refs+text)
		// Whether the Refs are called or not, and in whatever order the parts stand.
		called := part(t, "own", c.refs+text+"call 0\n")
		parts := []impl.LinkPart{lib, {Name: "nil"}, p}
		everyPart(parts, func(parts []impl.LinkPart) {
			i := slices.IndexFunc(parts, func(p impl.LinkPart) bool { return p.Name == "own" })
			want := impl.LinkFault{Code: c.code}
			if c.code != 0 {
				want = wrongAt(c.code, i, c.at)
			}
			checkWrong(t, []wrongParts{{c.refs, parts, want}})
			parts[i] = called
			checkWrong(t, []wrongParts{{"called " + c.refs, parts, want}})
		})
	}
	// A part without functions may have Refs to others, and to none of its own.
	checkWrong(t, []wrongParts{
		{"alone", []impl.LinkPart{part(t, "a", "ref .f\n")}, wrongAt(none, 0, 0)},
		{"alone, named", []impl.LinkPart{part(t, "a", "ref a.f\n")}, wrongAt(none, 0, 0)},
		{"another's", []impl.LinkPart{part(t, "a", "ref lib.f\n"), lib}, impl.LinkFault{}},
		{"another's that is not Pub", []impl.LinkPart{part(t, "a", "ref lib.f\nref lib.g\n"), lib}, wrongAt(own, 0, 1)},
		{"in the part behind", []impl.LinkPart{part(t, "b", "ref a.f\n"+text), part(t, "a", "ref b.x\n"+text)}, wrongAt(none, 1, 0)},
		{"in both parts", []impl.LinkPart{part(t, "a", "ref b.f\nref b.g\n"+text), part(t, "b", "ref a.x\n"+text)}, wrongAt(own, 0, 1)},
		// A function that another part has, not the one that is named.
		{"elsewhere", []impl.LinkPart{part(t, "a", "ref b.f\n"), part(t, "b", "fun g pub - int 0\n"), part(t, "c", "fun f pub - int 0\n")}, wrongAt(none, 0, 0)},
		{"its own, but not the other's", []impl.LinkPart{part(t, "a", "ref b.f\nfun f pub - int 0\n"), part(t, "b", "fun g pub - int 0\n")}, wrongAt(none, 0, 0)},
		{"the other's, but not its own", []impl.LinkPart{part(t, "a", "ref .f\nfun g pub - int 0\n"), part(t, "b", "fun f pub - int 0\n")}, wrongAt(none, 0, 0)},
		{"Pub elsewhere", []impl.LinkPart{part(t, "a", "ref b.f\nfun f pub - int 0\n"), part(t, "b", "fun f own - int 0\n"), part(t, "c", "fun f pub - int 0\n")}, wrongAt(own, 0, 0)},
		{"not Pub elsewhere", []impl.LinkPart{part(t, "a", "ref b.f\nfun f own - int 0\n"), part(t, "b", "fun f pub - int 0\n"), part(t, "c", "fun f own - int 0\n")}, impl.LinkFault{}},
	})
	// main is no name, so that none calls it.
	obj := part(t, "a", "fun main pub - int 0\n").Obj
	for _, mod := range []string{"", "a", "b"} {
		obj.Refs = []impl.CodeRef{{Mod: mod, Name: "main"}}
		checkWrong(t, []wrongParts{{"main of " + mod, []impl.LinkPart{{Name: "a", Obj: obj}}, wrongAt(impl.LinkForm, 0, 0)}})
	}
}

// Each `call` is of one of its part's Refs.
func TestLinkCheckCalls(t *testing.T) {
	const f = "fun f pub - int 0\n"
	lib := part(t, "lib", f)
	ref := func(part, at int) impl.LinkFault { return wrongAt(impl.LinkRef, part, at) }
	checkWrong(t, []wrongParts{
		{"without Refs", []impl.LinkPart{part(t, "a", f+"call 0\n")}, ref(0, 0)},
		{"without Refs, far", []impl.LinkPart{part(t, "a", f+"call 1000\n")}, ref(0, 0)},
		{"the last", []impl.LinkPart{part(t, "a", "ref .f\n"+f+"call 0\n")}, impl.LinkFault{}},
		{"past the end", []impl.LinkPart{part(t, "a", "ref .f\n"+f+"call 1\n")}, ref(0, 0)},
		{"past the end, behind one that is not", []impl.LinkPart{part(t, "a", "ref .f\nref .f\n"+f+"call 0\npush 5\ncall 1\ncall 2\ncall 0\n")}, ref(0, 0)},
		{"behind what goes back", []impl.LinkPart{part(t, "a", f+"back 0\ncall 0\n")}, ref(0, 0)},
		{"in the second of two", []impl.LinkPart{part(t, "a", "ref .f\n"+f+"call 0\nfun g own - int 0\ncall 1\n")}, ref(0, 1)},
		{"in both of two", []impl.LinkPart{part(t, "a", "ref .f\n"+f+"call 1\nfun g own - int 0\ncall 1\n")}, ref(0, 0)},
		{"in the last of three", []impl.LinkPart{part(t, "a", f+"fun g own - int 0\nback 0\nfun main own - int 0\ncall 0\n")}, ref(0, 2)},
		{"in the second part", []impl.LinkPart{lib, part(t, "a", "ref lib.f\n"+f+"call 0\nfun g own - int 0\ncall 1\n")}, ref(1, 1)},
		{"where another part has so many", []impl.LinkPart{part(t, "b", "ref .f\nref lib.f\n"+f+"call 1\n"), lib, part(t, "a", "ref lib.f\n"+f+"call 1\n")}, ref(2, 0)},
		{"in two parts", []impl.LinkPart{lib, part(t, "a", f+"fun g own - int 0\ncall 0\n"), part(t, "b", f+"call 0\n")}, ref(1, 1)},
		// Only the operands of `call` are asked.
		{"of others", []impl.LinkPart{part(t, "a", f+"push 7\nload 7\nkeep 7\nprim 7\njump 7\nunless 7\nrow 7\nflag 1\nback 0\n")}, impl.LinkFault{}},
		{"as many as may be", []impl.LinkPart{part(t, "a", strings.Repeat("ref .f\n", 40)+f+"call 39\n")}, impl.LinkFault{}},
		{"one more", []impl.LinkPart{part(t, "a", strings.Repeat("ref .f\n", 40)+f+"call 40\n")}, ref(0, 0)},
		// A part's Refs come first, then its calls, then the next part.
		{"a Ref behind", []impl.LinkPart{part(t, "a", "ref .x\n"+f+"call 1\n")}, wrongAt(impl.LinkNone, 0, 0)},
		{"an own behind", []impl.LinkPart{part(t, "a", "ref .f\nref a.g\n"+f+"call 2\nfun g own - int 0\n")}, wrongAt(impl.LinkOwn, 0, 1)},
		{"a Ref of the next part", []impl.LinkPart{part(t, "a", f+"call 0\n"), part(t, "b", "ref .x\n")}, ref(0, 0)},
		{"an own of the next part", []impl.LinkPart{part(t, "a", f+"fun g own - int 0\ncall 0\n"), part(t, "b", "ref a.g\n")}, ref(0, 1)},
		{"a Ref of the part ahead", []impl.LinkPart{part(t, "b", "ref a.f\nref a.x\n"), part(t, "a", f+"call 0\n")}, wrongAt(impl.LinkNone, 0, 1)},
		{"an own of the part ahead", []impl.LinkPart{part(t, "b", "ref a.g\n"), part(t, "a", f+"fun g own - int 0\ncall 0\n")}, wrongAt(impl.LinkOwn, 0, 0)},
		{"a name that is twice there in the last part", []impl.LinkPart{part(t, "a", f+"call 0\n"), lib, part(t, "b", f+f)}, wrongAt(impl.LinkTwice, 2, 1)},
		{"a part that is twice there", []impl.LinkPart{part(t, "a", "ref .x\n"+f+"call 1\n"), lib, lib}, wrongAt(impl.LinkTwice, 2, 0)},
		{"a part of no form", []impl.LinkPart{part(t, "a", "ref .x\n"+f+"call 1\n"), lib, {}}, wrongAt(impl.LinkForm, 2, 0)},
	})
}

// flaw makes one thing wrong in a part, and tells which fault that is, and when it is looked for ahead of
// its part and behind it.
type flaw struct {
	name        string
	pass, order int
	make        func(parts []impl.LinkPart, i int) impl.LinkFault
}

// flaws are one of each fault at least; each keeps all that the others need.
func flaws() []flaw {
	refFlaw := func(code int, ref func(p impl.LinkPart) impl.CodeRef) func([]impl.LinkPart, int) impl.LinkFault {
		return func(parts []impl.LinkPart, i int) impl.LinkFault {
			o := &parts[i].Obj
			o.Refs = append(o.Refs, ref(parts[i]))
			return wrongAt(code, i, len(o.Refs)-1)
		}
	}
	return []flaw{
		{"form", 1, 0, func(parts []impl.LinkPart, i int) impl.LinkFault {
			parts[i].Obj.Funs[1].Slots = 1001
			return wrongAt(impl.LinkForm, i, 0)
		}},
		{"name", 1, 0, func(parts []impl.LinkPart, i int) impl.LinkFault {
			parts[i].Name = "main"
			return wrongAt(impl.LinkForm, i, 0)
		}},
		{"part twice", 1, 1, func(parts []impl.LinkPart, i int) impl.LinkFault {
			parts[i].Name = parts[0].Name
			return wrongAt(impl.LinkTwice, i, 0)
		}},
		{"function twice", 1, 2, func(parts []impl.LinkPart, i int) impl.LinkFault {
			o := &parts[i].Obj
			o.Funs = append(o.Funs, impl.CodeFun{Name: o.Funs[0].Name, Type: 1})
			return wrongAt(impl.LinkTwice, i, len(o.Funs)-1)
		}},
		{"no part", 2, 0, refFlaw(impl.LinkNone, func(p impl.LinkPart) impl.CodeRef { return impl.CodeRef{Mod: "nopart", Name: "f"} })},
		{"no function", 2, 0, refFlaw(impl.LinkNone, func(p impl.LinkPart) impl.CodeRef { return impl.CodeRef{Mod: "lib", Name: "nofun"} })},
		{"no function of its own", 2, 0, refFlaw(impl.LinkNone, func(p impl.LinkPart) impl.CodeRef { return impl.CodeRef{Name: "nofun"} })},
		{"not Pub", 2, 0, refFlaw(impl.LinkOwn, func(p impl.LinkPart) impl.CodeRef { return impl.CodeRef{Mod: "lib", Name: "g"} })},
		{"its own, and not Pub", 2, 0, refFlaw(impl.LinkOwn, func(p impl.LinkPart) impl.CodeRef { return impl.CodeRef{Mod: p.Name, Name: "g"} })},
		{"call", 2, 1, func(parts []impl.LinkPart, i int) impl.LinkFault {
			code := &parts[i].Obj.Funs[2].Code
			*code = append(*code, impl.CodeIns{Op: impl.CodeCall, A: 900})
			return wrongAt(impl.LinkRef, i, 2)
		}},
		{"many", 0, 0, nil},
	}
}

// flawed is parts that are right, with flaws, each in its part, and the first of its faults.
func flawed(t *testing.T, made map[*flaw][]int, order []*flaw) ([]impl.LinkPart, impl.LinkFault) {
	var parts []impl.LinkPart
	for _, name := range []string{"lib", "a", "b", "c"} {
		parts = append(parts, part(t, name, "ref lib.f\nref .g\nref "+name+".f\nfun f pub - int 1\ncall 1\nfun g own - int 2\ncall 0\nfun main own - int 0\ncall 2\ncall 1\n"))
	}
	var all []whenWrong
	for _, f := range order {
		for _, i := range made[f] {
			if f.make == nil {
				parts = append(parts, parts[:1]...)
				for len(parts) < 9 {
					parts = append(parts, impl.LinkPart{Name: "x"})
				}
				all = append(all, whenWrong{nil, wrongAt(impl.LinkMany, 0, 0)})
				continue
			}
			fault := f.make(parts, i)
			all = append(all, whenWrong{[]int{f.pass, i, f.order, fault.At}, fault})
		}
	}
	return parts, firstWrong(all)
}

// Each fault alone, and each two of them in one part and in two, whichever was made first: the first counts.
func TestLinkCheckTwoFaults(t *testing.T) {
	list := flaws()
	count := map[int]int{}
	look := func(made map[*flaw][]int, order ...*flaw) {
		t.Helper()
		parts, want := flawed(t, made, order)
		what := ""
		for _, f := range order {
			what += f.name + ", "
		}
		checkWrong(t, []wrongParts{{what, parts, want}})
		count[want.Code]++
	}
	for i := range list {
		f := &list[i]
		for p := 1; p < 4; p++ {
			look(map[*flaw][]int{f: {p}}, f)
			for q := 1; q < 4; q++ {
				look(map[*flaw][]int{f: {p, q}}, f)
			}
		}
		for j := range list {
			g := &list[j]
			for p := 1; p < 4 && f != g; p++ {
				for q := 1; q < 4; q++ {
					// One part has one name, right or wrong.
					if p == q && min(i, j) == 1 && max(i, j) == 2 {
						continue
					}
					look(map[*flaw][]int{f: {p}, g: {q}}, f, g)
				}
			}
		}
	}
	for code := impl.LinkMany; code <= impl.LinkRef; code++ {
		if count[code] < 10 {
			t.Error(code, count[code])
		}
	}
}
