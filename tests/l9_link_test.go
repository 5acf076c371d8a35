package tests

import (
	"reflect"
	"slices"
	"strings"
	"testing"

	"loop.example/smithy/impl"
)

func TestLinkLimits(t *testing.T) {
	if impl.LinkMaxParts != 8 || impl.LinkMaxText != 200000 {
		t.Error(impl.LinkMaxParts, impl.LinkMaxText)
	}
	codes := []int{impl.LinkMany, impl.LinkForm, impl.LinkTwice, impl.LinkNone, impl.LinkOwn, impl.LinkRef}
	if !slices.Equal(codes, []int{1, 2, 3, 4, 5, 6}) {
		t.Error(codes)
	}
}

// part is an object, told by its text behind the first line, with the name of its module.
func part(t *testing.T, name, text string) impl.LinkPart {
	t.Helper()
	o, ok := impl.ObjRead("object\n" + text)
	if !ok {
		t.Fatalf("the test's own object: %q", text)
	}
	return impl.LinkPart{Name: name, Obj: o}
}

// plainFound is a function as LinkFind finds it, by another way than the program.
func plainFound(parts []impl.LinkPart, mod, name string) (int, bool) {
	number := 0
	for _, p := range parts {
		for i, f := range p.Obj.Funs {
			if p.Name == mod && f.Name == name && len(parts) < 9 {
				return number + i, true
			}
		}
		if p.Name == mod {
			break
		}
		number += len(p.Obj.Funs)
	}
	return 0, false
}

// whenWrong is a fault, and when it is looked for: the one with the least numbers is the first.
type whenWrong struct {
	when  []int
	fault impl.LinkFault
}

// firstWrong is the first of what is wrong.
func firstWrong(all []whenWrong) impl.LinkFault {
	if len(all) == 0 {
		return impl.LinkFault{}
	}
	return slices.MinFunc(all, func(a, b whenWrong) int { return slices.Compare(a.when, b.when) }).fault
}

// plainCheckOf is what is wrong with parts by another way than the program: all that is wrong is
// gathered, and the first of it is told.
func plainCheckOf(parts []impl.LinkPart) impl.LinkFault {
	var all []whenWrong
	add := func(holds bool, code, part, at int, when ...int) {
		if holds {
			all = append(all, whenWrong{append(when, at), impl.LinkFault{Code: code, Part: part, At: at}})
		}
	}
	add(len(parts) > 8, impl.LinkMany, 0, 0, 0)
	for i, p := range parts {
		add(!plainObjOk(p.Obj) || !plainName(p.Name), impl.LinkForm, i, 0, 1, i, 0)
		for _, q := range parts[:i] {
			add(q.Name == p.Name, impl.LinkTwice, i, 0, 1, i, 1)
		}
		for j, f := range p.Obj.Funs {
			for _, g := range p.Obj.Funs[:j] {
				add(g.Name == f.Name, impl.LinkTwice, i, j, 1, i, 2)
			}
			for _, ins := range f.Code {
				add(ins.Op == impl.CodeCall && ins.A >= len(p.Obj.Refs), impl.LinkRef, i, j, 2, i, 1)
			}
		}
		for j, ref := range p.Obj.Refs {
			there, pub := plainNamed(parts, p, ref)
			add(!there, impl.LinkNone, i, j, 2, i, 0)
			add(there && ref.Mod != "" && !pub, impl.LinkOwn, i, j, 2, i, 0)
		}
	}
	return firstWrong(all)
}

// meant is the module and the name that a part means by one of its Refs.
func meant(p impl.LinkPart, ref impl.CodeRef) string {
	if ref.Mod == "" {
		return p.Name + "." + ref.Name
	}
	return ref.Mod + "." + ref.Name
}

// plainNamed says whether the function that a part names is there, and Pub.
func plainNamed(parts []impl.LinkPart, p impl.LinkPart, ref impl.CodeRef) (bool, bool) {
	for _, q := range parts {
		for _, f := range q.Obj.Funs {
			if q.Name+"."+f.Name == meant(p, ref) {
				return true, f.Pub
			}
		}
	}
	return false, false
}

// plainImage is the image of parts in which nothing is wrong, by another way than the program.
func plainImage(parts []impl.LinkPart) impl.LinkImage {
	var m impl.LinkImage
	var known []string
	for _, p := range parts {
		for _, f := range p.Obj.Funs {
			known = append(known, p.Name+"."+f.Name)
		}
	}
	for _, p := range parts {
		for _, f := range p.Obj.Funs {
			fun := impl.LinkFun{Mod: p.Name, Name: f.Name, Args: f.Args, Type: f.Type, Slots: f.Slots}
			for _, ins := range f.Code {
				if ins.Op == impl.CodeCall {
					ins.A = slices.Index(known, meant(p, p.Obj.Refs[ins.A]))
				}
				fun.Code = append(fun.Code, ins)
			}
			m.Funs = append(m.Funs, fun)
		}
	}
	for i, name := range known {
		if strings.HasSuffix(name, ".main") {
			m.Mains = append(m.Mains, i)
		}
	}
	return m
}

// settledImage is an image with nil in the place of each empty list.
func settledImage(m impl.LinkImage) impl.LinkImage {
	out := impl.LinkImage{Mains: append([]int(nil), m.Mains...)}
	for _, f := range m.Funs {
		f.Args = append([]int(nil), f.Args...)
		f.Code = append([]impl.CodeIns(nil), f.Code...)
		out.Funs = append(out.Funs, f)
	}
	return out
}

func sameImage(a, b impl.LinkImage) bool {
	return reflect.DeepEqual(settledImage(a), settledImage(b))
}

// checkLink holds LinkCheck and LinkMake against the other ways, reads what is written of the image,
// and tells what LinkMake answers.
func checkLink(t *testing.T, what string, parts []impl.LinkPart) (impl.LinkImage, impl.LinkFault) {
	t.Helper()
	want := plainCheckOf(parts)
	if got := impl.LinkCheck(parts); got != want {
		t.Fatalf("%s: LinkCheck(%v) = %v; want %v", what, parts, got, want)
	}
	var image impl.LinkImage
	if want.Code == 0 {
		image = plainImage(parts)
	}
	m, fault := impl.LinkMake(parts)
	if fault != want || !sameImage(m, image) {
		t.Fatalf("%s: LinkMake(%v) = %v, %v; want %v, %v", what, parts, m, fault, image, want)
	}
	if want.Code == 0 {
		checkImage(t, what, m, true)
		checkWhole(t, what, parts, m)
	}
	return m, fault
}

// checkWhole is P20 and P21 by their words: an image has all functions of its parts, one behind the
// other, and nothing of them is turned but operands of calls, each of which is the one function that has
// the module and the name that are called.
func checkWhole(t *testing.T, what string, parts []impl.LinkPart, m impl.LinkImage) {
	t.Helper()
	number := 0
	for _, p := range parts {
		for _, f := range p.Obj.Funs {
			g := m.Funs[number]
			if number++; g.Mod != p.Name || g.Name != f.Name || !slices.Equal(g.Args, f.Args) || g.Type != f.Type || g.Slots != f.Slots || len(g.Code) != len(f.Code) {
				t.Fatalf("%s: %v of %q turns to %v", what, f, p.Name, g)
			}
			if got, ok := impl.LinkFind(parts, p.Name, f.Name); !ok || got != number-1 {
				t.Fatalf("%s: LinkFind of %s.%s is %d, %v", what, p.Name, f.Name, got, ok)
			}
			for i, ins := range g.Code {
				if was := f.Code[i]; was.Op != impl.CodeCall && ins != was || ins.Op != was.Op {
					t.Fatalf("%s: %v turns to %v", what, was, ins)
				}
				if ins.Op == impl.CodeCall {
					checkCalled(t, what, m, ins.A, meant(p, p.Obj.Refs[f.Code[i].A]))
				}
			}
		}
	}
	if number != len(m.Funs) || !slices.IsSorted(m.Mains) {
		t.Fatalf("%s: %v", what, m)
	}
	for i, f := range m.Funs {
		if slices.Contains(m.Mains, i) != (f.Name == "main") {
			t.Fatalf("%s: the mains of %v", what, m)
		}
	}
}

// checkCalled says that a function, and no other, has this module and name.
func checkCalled(t *testing.T, what string, m impl.LinkImage, number int, called string) {
	t.Helper()
	for i, f := range m.Funs {
		if (f.Mod+"."+f.Name == called) != (i == number) {
			t.Fatalf("%s: %s is called, and that is %d of %v", what, called, number, m.Funs)
		}
	}
}

// everyPart hands on parts in each order.
func everyPart(parts []impl.LinkPart, call func([]impl.LinkPart)) {
	places := names(len(parts))
	everyOrder(places, func(order []string) {
		var out []impl.LinkPart
		for _, place := range order {
			out = append(out, parts[slices.Index(places, place)])
		}
		call(out)
	})
}

// checkFound holds what LinkFind finds against the other way.
func checkFound(t *testing.T, what string, parts []impl.LinkPart, mod, name string) (int, bool) {
	t.Helper()
	number, ok := impl.LinkFind(parts, mod, name)
	if want, wantOk := plainFound(parts, mod, name); number != want || ok != wantOk {
		t.Errorf("%s: LinkFind(%v, %q, %q) = %d, %v; want %d, %v", what, parts, mod, name, number, ok, want, wantOk)
	}
	return number, ok
}

// linkExample is parts that call each other, with functions that are Pub and that are not.
func linkExample(t *testing.T) []impl.LinkPart {
	return []impl.LinkPart{
		part(t, "a", "ref .g\nfun f pub int int 1\nload 0\ncall 0\nback 0\nfun g own int int 1\nload 0\nback 0\n"),
		part(t, "b", "ref a.f\nref .h\nfun h pub - int 0\npush 1\nback 0\nfun main own - int 0\ncall 1\ncall 0\nback 0\n"),
		part(t, "none", ""),
		part(t, "c", "ref b.h\nref c.f\nref .f\nfun f pub - row 7\ncall 2\ncall 1\nback 0\nfun main pub - bool 0\ncall 0\nback 0\nfun g own - int 0\n"),
	}
}

func TestLinkFind(t *testing.T) {
	parts := linkExample(t)
	for _, c := range []struct {
		mod, name string
		want      int
		ok        bool
	}{
		{"a", "f", 0, true}, {"a", "g", 1, true}, {"b", "h", 2, true}, {"b", "main", 3, true}, {"c", "f", 4, true}, {"c", "main", 5, true}, {"c", "g", 6, true},
		// A function there is, but not of that part; a part that has none; a name, a part, there is not.
		{"a", "h", 0, false}, {"a", "main", 0, false}, {"b", "f", 0, false}, {"b", "g", 0, false}, {"c", "h", 0, false}, {"none", "f", 0, false}, {"none", "main", 0, false}, {"d", "f", 0, false}, {"a", "x", 0, false},
		// What is empty, what is no name, what is nearly one.
		{"", "f", 0, false}, {"a", "", 0, false}, {"", "", 0, false}, {"a", "F", 0, false}, {"A", "f", 0, false}, {"a ", "f", 0, false}, {"a", "f ", 0, false}, {"a.f", "", 0, false}, {"", "a.f", 0, false}, {"main", "main", 0, false}, {"b", "mai", 0, false}, {"b", "mains", 0, false}, {"f", "a", 0, false}, {"a", "a", 0, false}, {"ab", "h", 0, false}, {"\xff", "\x00", 0, false},
	} {
		if got, ok := checkFound(t, "listed", parts, c.mod, c.name); got != c.want || ok != c.ok {
			t.Errorf("LinkFind of %q, %q is %d, %v; want %d, %v", c.mod, c.name, got, ok, c.want, c.ok)
		}
		everyPart(parts, func(parts []impl.LinkPart) {
			if _, ok := checkFound(t, "in another order", parts, c.mod, c.name); ok != c.ok {
				t.Errorf("LinkFind of %q, %q is %v", c.mod, c.name, ok)
			}
		})
		if got, ok := impl.LinkFind(nil, c.mod, c.name); got != 0 || ok {
			t.Error("there is something in nothing")
		}
	}
}

// Which of several is found: the first of a name, of the first part of a name.
func TestLinkFindFirst(t *testing.T) {
	const (
		f  = "fun f own - int 0\n"
		g  = "fun g pub - int 0\n"
		mn = "fun main own - int 0\n"
	)
	for _, c := range []struct {
		parts     []impl.LinkPart
		mod, name string
		want      int
		ok        bool
	}{
		// A name that two functions of a part have, or three.
		{[]impl.LinkPart{part(t, "a", f+f)}, "a", "f", 0, true},
		{[]impl.LinkPart{part(t, "a", g+f+f)}, "a", "f", 1, true},
		{[]impl.LinkPart{part(t, "a", g+f+g+f+f)}, "a", "f", 1, true},
		{[]impl.LinkPart{part(t, "a", g+g), part(t, "b", f+mn+mn)}, "b", "main", 3, true},
		// A Mod that two parts have: only the first of them is looked at, even if it has no such function.
		{[]impl.LinkPart{part(t, "a", f), part(t, "a", f)}, "a", "f", 0, true},
		{[]impl.LinkPart{part(t, "a", f), part(t, "a", g)}, "a", "g", 0, false},
		{[]impl.LinkPart{part(t, "a", g), part(t, "a", f+g)}, "a", "f", 0, false},
		{[]impl.LinkPart{part(t, "a", ""), part(t, "a", f)}, "a", "f", 0, false},
		{[]impl.LinkPart{part(t, "a", ""), part(t, "b", f), part(t, "a", f)}, "a", "f", 0, false},
		{[]impl.LinkPart{part(t, "b", g+g), part(t, "a", g+f), part(t, "a", f)}, "a", "f", 3, true},
		{[]impl.LinkPart{part(t, "b", g), part(t, "b", f+g), part(t, "a", f)}, "a", "f", 3, true},
		{[]impl.LinkPart{part(t, "b", g), part(t, "b", f+g), part(t, "a", f)}, "b", "g", 0, true},
		// Functions are counted over all parts ahead, those of one name too.
		{[]impl.LinkPart{part(t, "a", f+g+mn), part(t, "b", f+g+mn), part(t, "c", f+g+mn)}, "c", "main", 8, true},
		{[]impl.LinkPart{part(t, "a", f+f+f), part(t, "b", ""), part(t, "a", f+f), part(t, "c", g)}, "c", "g", 5, true},
		// A function that is not Pub is found as one that is.
		{[]impl.LinkPart{part(t, "a", g+f)}, "a", "f", 1, true},
		{[]impl.LinkPart{part(t, "a", g+f)}, "a", "g", 0, true},
		// What is not ok is looked at just so.
		{[]impl.LinkPart{{Obj: impl.CodeObj{Funs: []impl.CodeFun{{Name: "x"}, {}}}}}, "", "", 1, true},
		{[]impl.LinkPart{{Obj: impl.CodeObj{Funs: []impl.CodeFun{{Name: "x"}, {}}}}}, "", "x", 0, true},
		{[]impl.LinkPart{{Name: "No name", Obj: impl.CodeObj{Funs: []impl.CodeFun{{Name: "Nor this"}}}}}, "No name", "Nor this", 0, true},
		{[]impl.LinkPart{{Name: "a", Obj: impl.CodeObj{Funs: make([]impl.CodeFun, 5000)}}, part(t, "b", g+f)}, "b", "f", 5001, true},
		{[]impl.LinkPart{{}, {}, part(t, "b", f)}, "b", "f", 0, true},
		{[]impl.LinkPart{{}, {}}, "", "", 0, false},
		{[]impl.LinkPart{{Name: "\xff"}, {Name: "\xff", Obj: part(t, "", f).Obj}}, "\xff", "f", 0, false},
		// A point in a name tells nothing apart.
		{[]impl.LinkPart{{Name: "a.b", Obj: impl.CodeObj{Funs: []impl.CodeFun{{Name: "c"}}}}, {Name: "a", Obj: impl.CodeObj{Funs: []impl.CodeFun{{Name: "b.c"}}}}}, "a", "b.c", 1, true},
	} {
		if got, ok := checkFound(t, "listed", c.parts, c.mod, c.name); got != c.want || ok != c.ok {
			t.Errorf("LinkFind(%v, %q, %q) = %d, %v; want %d, %v", c.parts, c.mod, c.name, got, ok, c.want, c.ok)
		}
	}
}

// As many parts as there may be, and one more.
func TestLinkFindMany(t *testing.T) {
	for n := range 12 {
		var parts []impl.LinkPart
		for _, name := range names(n) {
			parts = append(parts, part(t, name, "fun f own - int 0\nfun g own - int 0\n"))
		}
		for i, name := range names(n) {
			if got, ok := checkFound(t, "many", parts, name, "g"); ok != (n <= 8) || ok && got != 2*i+1 || !ok && got != 0 {
				t.Errorf("%d parts: %s.g is %d, %v", n, name, got, ok)
			}
		}
		if got, ok := impl.LinkFind(make([]impl.LinkPart, n), "", ""); got != 0 || ok {
			t.Error(n, got, ok)
		}
	}
	if got, ok := impl.LinkFind(slices.Repeat([]impl.LinkPart{part(t, "a", "fun f pub - int 0\n")}, 9), "a", "f"); got != 0 || ok {
		t.Error(got, ok)
	}
}
