package tests

import (
	"math/rand"
	"slices"
	"testing"

	"loop.example/smithy/impl"
)

// The document's way, whole: the functions in their order, and each call with the number of what it names.
func TestLinkMakeListed(t *testing.T) {
	const (
		libText = "ref .g\nfun f pub int int 1\nload 0\ncall 0\nback 0\nfun g own int int 1\nload 0\nback 0\n"
		appText = "ref lib.f\nref .h\nfun h own - int 0\npush 1\nback 0\nfun main own - int 0\ncall 1\ncall 0\nback 0\n"
	)
	lib, app := part(t, "lib", libText), part(t, "app", appText)
	for _, c := range []struct {
		what  string
		parts []impl.LinkPart
		want  string
	}{
		{"nothing", nil, "image\n"},
		{"a part without functions", []impl.LinkPart{part(t, "a", "")}, "image\n"},
		{"parts without functions", []impl.LinkPart{part(t, "b", ""), part(t, "a", ""), {Name: "c", Obj: impl.CodeObj{Refs: []impl.CodeRef{}, Funs: []impl.CodeFun{}}}}, "image\n"},
		{"one alone", []impl.LinkPart{lib}, "image\nfun lib.f int int 1\nload 0\ncall 1\nback 0\nfun lib.g int int 1\nload 0\nback 0\n"},
		{"two", []impl.LinkPart{lib, app}, "image\nfun lib.f int int 1\nload 0\ncall 1\nback 0\nfun lib.g int int 1\nload 0\nback 0\nfun app.h - int 0\npush 1\nback 0\nfun app.main - int 0\ncall 2\ncall 0\nback 0\nmain 3\n"},
		{"two in another order", []impl.LinkPart{app, lib}, "image\nfun app.h - int 0\npush 1\nback 0\nfun app.main - int 0\ncall 0\ncall 2\nback 0\nfun lib.f int int 1\nload 0\ncall 3\nback 0\nfun lib.g int int 1\nload 0\nback 0\nmain 1\n"},
		{"one without functions between", []impl.LinkPart{lib, part(t, "a", "ref lib.f\n"), app}, "image\nfun lib.f int int 1\nload 0\ncall 1\nback 0\nfun lib.g int int 1\nload 0\nback 0\nfun app.h - int 0\npush 1\nback 0\nfun app.main - int 0\ncall 2\ncall 0\nback 0\nmain 3\n"},
		// One that calls itself, by no Mod and by its own; two that call each other; Refs that no one calls.
		{"itself", []impl.LinkPart{part(t, "b", "fun f pub - int 0\n"), part(t, "a", "ref .f\nref a.f\nfun g own - int 0\nfun f pub - int 0\ncall 0\ncall 1\n")}, "image\nfun b.f - int 0\nfun a.g - int 0\nfun a.f - int 0\ncall 2\ncall 2\n"},
		{"each other", []impl.LinkPart{part(t, "a", "ref b.f\nfun f pub - int 0\ncall 0\n"), part(t, "b", "ref a.f\nfun f pub - int 0\ncall 0\n")}, "image\nfun a.f - int 0\ncall 1\nfun b.f - int 0\ncall 0\n"},
		{"Refs alone", []impl.LinkPart{part(t, "a", "ref .f\nref b.f\nfun f pub - int 0\n"), part(t, "b", "fun f pub - int 0\n")}, "image\nfun a.f - int 0\nfun b.f - int 0\n"},
		{"a Ref that is twice there", []impl.LinkPart{part(t, "a", "ref .g\nref .f\nref .g\nfun f pub - int 0\ncall 2\ncall 1\ncall 0\nfun g own - int 0\n")}, "image\nfun a.f - int 0\ncall 1\ncall 0\ncall 1\nfun a.g - int 0\n"},
		// One name in several modules: each calls its own, or the one that it names.
		{"one name", []impl.LinkPart{part(t, "a", "ref .f\nref b.f\nref c.f\nfun f pub - int 0\ncall 0\ncall 1\ncall 2\n"), part(t, "b", "ref c.f\nref a.f\nref .f\nfun f pub - int 0\ncall 0\ncall 1\ncall 2\n"), part(t, "c", "fun g own - int 0\nfun f pub - int 0\nback 0\n")},
			"image\nfun a.f - int 0\ncall 0\ncall 1\ncall 3\nfun b.f - int 0\ncall 3\ncall 0\ncall 1\nfun c.g - int 0\nfun c.f - int 0\nback 0\n"},
		{"names that are those of modules", []impl.LinkPart{part(t, "f", "ref g.f\nref .g\nfun f pub - int 0\ncall 0\nfun g pub - int 0\ncall 1\n"), part(t, "g", "ref f.g\nfun g pub - int 0\ncall 0\nfun f pub - int 0\n")}, "image\nfun f.f - int 0\ncall 3\nfun f.g - int 0\ncall 1\nfun g.g - int 0\ncall 1\nfun g.f - int 0\n"},
		// One that is not Pub is called by its own, and another with its name by others.
		{"not Pub", []impl.LinkPart{part(t, "a", "ref .f\nref b.f\nfun f own - int 0\ncall 0\ncall 1\n"), part(t, "b", "ref .g\nfun g own - bool 0\nfun f pub - int 0\ncall 0\n")}, "image\nfun a.f - int 0\ncall 0\ncall 2\nfun b.g - bool 0\nfun b.f - int 0\ncall 1\n"},
		// Mains: none, one, several, one that stands ahead, one with Args and Pub.
		{"mains", []impl.LinkPart{part(t, "a", "fun main own - int 0\nback 0\nfun f own - int 0\n"), part(t, "b", "fun f own - row 0\n"), part(t, "c", "fun g own - int 0\nfun main pub int,row bool 7\n"), part(t, "d", "fun main own - int 0\n")},
			"image\nfun a.main - int 0\nback 0\nfun a.f - int 0\nfun b.f - row 0\nfun c.g - int 0\nfun c.main int,row bool 7\nfun d.main - int 0\nmain 0\nmain 4\nmain 5\n"},
	} {
		m, fault := checkLink(t, c.what, c.parts)
		if fault != (impl.LinkFault{}) || impl.LinkText(m) != c.want {
			t.Errorf("%s: %v, %q; want %q", c.what, fault, impl.LinkText(m), c.want)
		}
	}
	m, fault := impl.LinkMake([]impl.LinkPart{app})
	if fault != wrongAt(impl.LinkNone, 0, 0) || len(m.Funs) != 0 || len(m.Mains) != 0 {
		t.Error(m, fault)
	}
}

// Only operands of `call` are turned, of whatever place, and of the image alone.
func TestLinkMakeOnlyCalls(t *testing.T) {
	lib := part(t, "lib", "fun a own - int 0\nfun b own - int 0\nfun c own - int 0\nfun d own - int 0\nfun e own - int 0\nfun f pub - int 0\n")
	var code []impl.CodeIns
	for op := 1; op <= 10; op++ {
		least, most := plainSpan(op)
		for a := max(least, 0); a <= min(most, 8); a++ {
			if op != impl.CodeCall {
				code = append(code, impl.CodeIns{Op: op, A: a}, impl.CodeIns{Op: impl.CodeCall, A: a % 3})
			}
		}
	}
	app := impl.LinkPart{Name: "app", Obj: impl.CodeObj{
		Refs: []impl.CodeRef{{Name: "g"}, {Mod: "lib", Name: "f"}, {Name: "f"}},
		Funs: []impl.CodeFun{{Name: "f", Pub: true, Args: []int{1, 2, 3}, Type: 2, Slots: 5, Code: code}, {Name: "g", Type: 3, Code: slices.Clone(code)}},
	}}
	before := settledObj(app.Obj)
	for _, c := range []struct {
		parts []impl.LinkPart
		first int
		calls []int
	}{
		{[]impl.LinkPart{lib, app}, 6, []int{7, 5, 6}},
		{[]impl.LinkPart{app, lib}, 0, []int{1, 7, 0}},
	} {
		m, fault := checkLink(t, "all instructions", c.parts)
		if fault.Code != 0 || len(m.Funs) != 8 || len(code) < 100 {
			t.Fatal(m, fault)
		}
		for _, f := range m.Funs[c.first : c.first+2] {
			for i, ins := range f.Code {
				want := code[i]
				if want.Op == impl.CodeCall {
					want.A = c.calls[want.A]
				}
				if ins != want {
					t.Errorf("%v turns to %v; want %v", code[i], ins, want)
				}
			}
		}
		if !sameObj(app.Obj, before) {
			t.Error("a part's own object is turned")
		}
	}
}

// As many parts with as many functions as there may be, each of which is called from each part.
func TestLinkMakeLarge(t *testing.T) {
	var parts []impl.LinkPart
	for i, name := range names(8) {
		p := impl.LinkPart{Name: "abcdefg" + name}
		for j, fun := range names(8) {
			// Each part has 8 of its own, and 32 of others, among its Refs.
			p.Obj.Refs = append(p.Obj.Refs, impl.CodeRef{Name: "abcdefg" + fun})
			for k := 1; k <= 4; k++ {
				p.Obj.Refs = append(p.Obj.Refs, impl.CodeRef{Mod: "abcdefg" + names(8)[(i+k)%8], Name: "abcdefg" + names(8)[(j+k)%8]})
			}
			p.Obj.Funs = append(p.Obj.Funs, impl.CodeFun{Name: "abcdefg" + fun, Pub: true, Args: []int{2, 2, 2, 2}, Type: 2, Slots: 1000})
		}
		// Every other one has a ninth that is called in the place of a main.
		if p.Obj.Funs = append(p.Obj.Funs, impl.CodeFun{Name: "main", Type: 1}); i%2 == 1 {
			p.Obj.Funs[8].Name, p.Obj.Refs[39] = "last", impl.CodeRef{Name: "last"}
		}
		for n := range 460 {
			f := &p.Obj.Funs[n%9]
			f.Code = append(f.Code, impl.CodeIns{Op: impl.CodeCall, A: n % 40})
		}
		parts = append(parts, p)
	}
	if m, _ := checkLink(t, "large", parts); !slices.Equal(m.Mains, []int{8, 26, 44, 62}) || !slices.Contains(m.Funs[71].Code, impl.CodeIns{Op: impl.CodeCall, A: 71}) {
		t.Error(m)
	}
	r := rand.New(rand.NewSource(57))
	for range 20 {
		m, fault := checkLink(t, "large", parts)
		if fault.Code != 0 || len(m.Funs) != 72 || len(m.Mains) != 4 {
			t.Fatal(fault, m.Mains)
		}
		r.Shuffle(8, func(i, j int) { parts[i], parts[j] = parts[j], parts[i] })
	}
	// The text of such an image is read, however long its numbers are.
	for i := range parts {
		for j := range parts[i].Obj.Funs {
			for k := range parts[i].Obj.Funs[j].Code {
				parts[i].Obj.Funs[j].Code[k] = impl.CodeIns{Op: impl.CodePush, A: 1 - numEnd}
			}
		}
	}
	m, _ := checkLink(t, "longest", parts)
	if n := len(impl.LinkText(m)); n < 80000 || n > 200000 {
		t.Error(n)
	}
}
