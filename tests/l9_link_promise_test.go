package tests

import (
	"math/rand"
	"reflect"
	"slices"
	"strings"
	"testing"

	"loop.example/smithy/impl"
)

// freeName is a name that a function may be called by; few, so that several modules have one.
func freeName(r *rand.Rand) string { return names(9)[r.Intn(9)] }

// randomParts are parts of which each names only what is there, at most so many, none with one of some names.
func randomParts(r *rand.Rand, most int, others []impl.LinkPart) []impl.LinkPart {
	var taken []string
	for _, p := range others {
		taken = append(taken, p.Name)
	}
	var parts []impl.LinkPart
	for _, name := range freshNames(r, r.Intn(most+1), taken) {
		p := impl.LinkPart{Name: name}
		for _, place := range r.Perm(9)[:r.Intn(9)] {
			p.Obj.Funs = append(p.Obj.Funs, randomFun(r, names(9)[place]))
		}
		if r.Intn(2) == 0 {
			p.Obj.Funs = slices.Insert(p.Obj.Funs, r.Intn(len(p.Obj.Funs)+1), randomFun(r, "main"))
		}
		parts = append(parts, p)
	}
	for i := range parts {
		giveCalls(r, parts, &parts[i])
	}
	return parts
}

func randomFun(r *rand.Rand, name string) impl.CodeFun {
	f := impl.CodeFun{Name: name, Pub: r.Intn(2) == 0, Type: 1 + r.Intn(3), Slots: r.Intn(1 + r.Intn(1001))}
	for range r.Intn(5) {
		f.Args = append(f.Args, 1+r.Intn(3))
	}
	for range r.Intn(12) {
		f.Code = append(f.Code, randomIns(r))
	}
	return f
}

// giveCalls gives a part Refs to what it may call, and its calls.
func giveCalls(r *rand.Rand, parts []impl.LinkPart, p *impl.LinkPart) {
	var all []impl.CodeRef
	for _, q := range parts {
		for _, f := range q.Obj.Funs {
			if f.Name != "main" && f.Pub {
				all = append(all, impl.CodeRef{Mod: q.Name, Name: f.Name})
			}
			if f.Name != "main" && q.Name == p.Name {
				all = append(all, impl.CodeRef{Name: f.Name}, impl.CodeRef{Name: f.Name})
			}
		}
	}
	for range r.Intn(13) {
		if len(all) > 0 {
			p.Obj.Refs = append(p.Obj.Refs, all[r.Intn(len(all))])
		}
	}
	for _, f := range p.Obj.Funs {
		for i := range f.Code {
			if ins := &f.Code[i]; r.Intn(3) == 0 && len(p.Obj.Refs) > 0 {
				*ins = impl.CodeIns{Op: impl.CodeCall, A: r.Intn(len(p.Obj.Refs))}
			} else if ins.Op == impl.CodeCall {
				ins.Op = impl.CodeLoad
			}
		}
	}
}

// copiedParts is parts in memory of their own.
func copiedParts(parts []impl.LinkPart) []impl.LinkPart {
	out := slices.Clone(parts)
	for i := range out {
		out[i].Obj = settledObj(out[i].Obj)
	}
	return out
}

// turnedParts is parts with one thing turned, in memory of their own; in many of them something is wrong.
func turnedParts(r *rand.Rand, parts []impl.LinkPart) []impl.LinkPart {
	parts = copiedParts(parts)
	if len(parts) == 0 {
		return append(parts, impl.LinkPart{Name: randomWrongName(r), Obj: turnedObj(r, impl.CodeObj{})})
	}
	i, j := r.Intn(len(parts)), r.Intn(len(parts))
	p := &parts[i]
	switch n := len(p.Obj.Funs); r.Intn(10) {
	case 0:
		return slices.Delete(parts, i, i+1)
	case 1:
		return slices.Insert(parts, i, copiedParts(parts[j:j+1])...)
	case 2:
		p.Name = []string{randomWrongName(r), parts[j].Name, freeName(r)}[r.Intn(3)]
	case 3:
		if n > 0 {
			f := &p.Obj.Funs[r.Intn(n)]
			f.Pub = !f.Pub
		}
	case 4:
		if n > 0 {
			p.Obj.Funs[r.Intn(n)].Name = freeName(r)
		}
	case 5:
		ref := impl.CodeRef{Mod: []string{"", p.Name, parts[j].Name, freeName(r)}[r.Intn(4)], Name: freeName(r)}
		p.Obj.Refs = slices.Insert(p.Obj.Refs, r.Intn(len(p.Obj.Refs)+1), ref)
	case 6:
		if n > 0 {
			f := &p.Obj.Funs[r.Intn(n)]
			f.Code = append(f.Code, impl.CodeIns{Op: impl.CodeCall, A: r.Intn(len(p.Obj.Refs) + 3)})
		}
	case 7:
		p.Obj = turnedObj(r, p.Obj)
	case 8:
		parts[i], parts[j] = parts[j], parts[i]
	case 9:
		p.Obj.Funs = append(p.Obj.Funs, randomFun(r, freeName(r)))
	}
	return parts
}

// P20: each name is resolved, or the first that is wrong is told.
func TestLinkRandom(t *testing.T) {
	r := rand.New(rand.NewSource(58))
	var count [7]int
	calls := 0
	for range 2500 {
		parts := randomParts(r, 8, nil)
		m, fault := checkLink(t, "random", parts)
		if fault.Code != 0 {
			t.Fatalf("the test's own parts: %v, %v", parts, fault)
		}
		for _, f := range m.Funs {
			for _, ins := range f.Code {
				if ins.Op == impl.CodeCall {
					calls++
				}
			}
		}
		for range 3 {
			parts = turnedParts(r, parts)
			_, fault := checkLink(t, "turned", parts)
			count[fault.Code]++
			checkFound(t, "turned", parts, freeName(r), freeName(r))
			if len(parts) > 0 {
				checkFound(t, "turned", parts, parts[r.Intn(len(parts))].Name, freeName(r))
			}
		}
	}
	for code, n := range count {
		if n < 50 {
			t.Error(code, n)
		}
	}
	if calls < 10000 {
		t.Error(calls)
	}
}

// P21: parts one behind the other have their functions one behind the other.
func TestLinkBehind(t *testing.T) {
	r := rand.New(rand.NewSource(59))
	funs, mains := 0, 0
	for range 1500 {
		first := randomParts(r, 4, nil)
		second := randomParts(r, 4, first)
		a, _ := checkLink(t, "first", first)
		b, _ := checkLink(t, "second", second)
		want := settledImage(a)
		for _, f := range b.Funs {
			f.Code = slices.Clone(f.Code)
			for i, ins := range f.Code {
				if ins.Op == impl.CodeCall {
					f.Code[i].A += len(a.Funs)
				}
			}
			want.Funs = append(want.Funs, f)
		}
		for _, number := range b.Mains {
			want.Mains = append(want.Mains, number+len(a.Funs))
		}
		m, fault := checkLink(t, "both", more(first, second...))
		if fault.Code != 0 || !sameImage(m, want) {
			t.Fatalf("%v and %v: %v, %v; want %v", first, second, m, fault, want)
		}
		// Where those behind call those ahead, too, nothing turns in those ahead.
		for i := range second {
			p := &second[i]
			p.Obj = settledObj(p.Obj)
			p.Obj.Refs = nil
			giveCalls(r, more(first, second...), p)
		}
		m, fault = checkLink(t, "calling", more(first, second...))
		if fault.Code != 0 || !sameImage(impl.LinkImage{Funs: m.Funs[:len(a.Funs)], Mains: a.Mains}, a) {
			t.Fatalf("%v turns to %v, %v", a, m, fault)
		}
		funs += len(b.Funs)
		mains += len(b.Mains)
	}
	if funs < 5000 || mains < 500 {
		t.Error(funs, mains)
	}
}

// byName is the functions of an image, each with the names of what it calls, and the names of its mains.
func byName(m impl.LinkImage) (map[string][]string, []string) {
	name := func(number int) string { return m.Funs[number].Mod + "." + m.Funs[number].Name }
	funs := map[string][]string{}
	for i, f := range m.Funs {
		one := impl.LinkImage{Funs: []impl.LinkFun{f}}
		lines := strings.Split(impl.LinkText(one), "\n")
		for place, ins := range f.Code {
			if ins.Op == impl.CodeCall {
				lines[2+place] = "call " + name(ins.A)
			}
		}
		funs[name(i)] = lines
	}
	var mains []string
	for _, number := range m.Mains {
		mains = append(mains, name(number))
	}
	slices.Sort(mains)
	return funs, mains
}

// P23: in whatever order parts are linked, the functions are the same, with calls of the same ones, and the mains.
func TestLinkOrder(t *testing.T) {
	r := rand.New(rand.NewSource(60))
	turned := 0
	look := func(parts []impl.LinkPart, orders func(call func([]impl.LinkPart))) {
		t.Helper()
		m, fault := checkLink(t, "an order", parts)
		if fault.Code != 0 {
			t.Fatal(fault)
		}
		funs, mains := byName(m)
		if len(funs) != len(m.Funs) {
			t.Fatalf("two functions of %v have one name", m)
		}
		orders(func(parts []impl.LinkPart) {
			other, fault := checkLink(t, "another order", parts)
			otherFuns, otherMains := byName(other)
			if fault.Code != 0 || !reflect.DeepEqual(otherFuns, funs) || !slices.Equal(otherMains, mains) {
				t.Fatalf("%v: %v, %v; want %v, %v", parts, otherFuns, otherMains, funs, mains)
			}
			if !sameImage(m, other) {
				turned++
			}
		})
	}
	for range 300 {
		parts := randomParts(r, 8, nil)
		look(parts, func(call func([]impl.LinkPart)) {
			for range 5 {
				parts := slices.Clone(parts)
				r.Shuffle(len(parts), func(i, j int) { parts[i], parts[j] = parts[j], parts[i] })
				call(parts)
			}
		})
	}
	for _, parts := range [][]impl.LinkPart{nil, linkExample(t), linkExample(t)[:2], linkExample(t)[2:3], randomParts(r, 5, nil)} {
		look(parts, func(call func([]impl.LinkPart)) { everyPart(parts, call) })
	}
	if turned < 500 {
		t.Error(turned)
	}
}

// imageObjs are objects that call as an image does: each may call all functions, by their numbers.
func imageObjs(m impl.LinkImage) map[string]impl.CodeObj {
	var refs []impl.CodeRef
	for _, f := range m.Funs {
		refs = append(refs, impl.CodeRef{Mod: f.Mod, Name: f.Name})
	}
	objs := map[string]impl.CodeObj{}
	for _, f := range m.Funs {
		o := objs[f.Mod]
		o.Refs = refs
		o.Funs = append(o.Funs, impl.CodeFun{Name: f.Name, Pub: true, Args: f.Args, Type: f.Type, Slots: f.Slots, Code: f.Code})
		objs[f.Mod] = o
	}
	return objs
}

// linkedOf are the parts of modules that are right together.
func linkedOf(t *testing.T, mods []impl.MeanMod) []impl.LinkPart {
	t.Helper()
	objs := objsOf(t, mods)
	var parts []impl.LinkPart
	for _, m := range mods {
		parts = append(parts, impl.LinkPart{Name: m.Name, Obj: objs[m.Name]})
	}
	return parts
}

// P20 to P23: modules that are right together are linked, in whatever order, and their mains do what they mean.
func TestLinkMeans(t *testing.T) {
	r := rand.New(rand.NewSource(61))
	var count tally
	crossed := 0
	for n := range 800 {
		mods := rightMods(r, n%3 > 0)
		parts := linkedOf(t, mods)
		want := impl.MeanRun(mods, randomFuel(r))
		count.add(want)
		for range 3 {
			m, fault := checkLink(t, "right", parts)
			if fault.Code != 0 {
				t.Fatalf("%v%s", fault, written(mods))
			}
			for _, f := range m.Funs {
				for _, ins := range f.Code {
					if ins.Op == impl.CodeCall && m.Funs[ins.A].Mod != f.Mod {
						crossed++
					}
				}
			}
			got := codeRun(mods, imageObjs(m), 4*want.Steps)
			if want.End != impl.MeanFuel && (got.End != want.End || got.Trap != want.Trap || !slices.Equal(got.Out, want.Out)) {
				t.Fatalf("it does %v; it means %v%s", got, want, written(mods))
			}
			r.Shuffle(len(parts), func(i, j int) { parts[i], parts[j] = parts[j], parts[i] })
		}
	}
	if !count.least(40, impl.MeanFuel, impl.MeanHalt) || crossed < 500 {
		t.Error(count, crossed)
	}
}

// Modules that use one another, each in every order.
func TestLinkMeansListed(t *testing.T) {
	for _, c := range []struct {
		texts []string
		out   []int
	}{
		{[]string{"(pub two () int 2)", "(use a)(pub f ((n int)) int (if (< n 1) (a.two) (f (- n 1))))(main (print (f 3)))", "(use a b)(fun two () int 7)(main (print (+ (b.f 1) (+ (two) (a.two)))))"}, []int{2, 11}},
		{[]string{"(use b)(pub f ((n int)) int (if (< n 1) 0 (+ 1 (b.f (- n 1)))))(main (print (f 9)))", "(use a)(pub f ((n int)) int (if (< n 1) 100 (+ 1 (a.f (- n 1)))))(main (print (f 9)))"}, []int{109, 9}},
		{[]string{"(fun f () int 1)(fun g () int (print (f)))(main (g))", "(fun g () int (print 2))(fun f () int (g))(main (f))", "", "(main (print 3))", "(pub f () int 4)"}, []int{1, 2, 3}},
		{[]string{"", ""}, nil},
	} {
		mods := modsOf(t, c.texts...)
		everyPart(linkedOf(t, mods), func(parts []impl.LinkPart) {
			m, fault := checkLink(t, "listed", parts)
			if got := codeRun(mods, imageObjs(m), 1000); fault.Code != 0 || got.End != impl.MeanHalt || !slices.Equal(got.Out, c.out) {
				t.Errorf("%v: %v, %v", c.texts, fault, got)
			}
		})
	}
}
