package tests

import (
	"math"
	"math/rand"
	"slices"
	"strings"
	"testing"
	"unsafe"

	"loop.example/smithy/impl"
)

// fullObj is an object that has more than one of all that it may have.
func fullObj() impl.CodeObj {
	return impl.CodeObj{
		Refs: []impl.CodeRef{{Mod: "lib", Name: "f"}, {Name: "g"}, {Mod: "other", Name: "f"}},
		Funs: []impl.CodeFun{
			{Name: "f", Pub: true, Args: []int{1, 2}, Type: 3, Slots: 4, Code: []impl.CodeIns{{Op: 1, A: 5}, {Op: 3, A: 1}, {Op: 9}}},
			{Name: "g", Args: []int{3}, Type: 1, Slots: 1, Code: []impl.CodeIns{{Op: 8, A: 2}, {Op: 9}}},
			{Name: "main", Type: 2},
		},
	}
}

// objTurns turn just one part of a full object each.
func objTurns() []func(*impl.CodeObj) {
	return []func(*impl.CodeObj){
		func(o *impl.CodeObj) { o.Refs[0].Mod = "" }, func(o *impl.CodeObj) { o.Refs[1].Mod = "lib" }, func(o *impl.CodeObj) { o.Refs[2].Mod = "Other" }, func(o *impl.CodeObj) { o.Refs[2].Mod = "othe" },
		func(o *impl.CodeObj) { o.Refs[0].Name = "g" }, func(o *impl.CodeObj) { o.Refs[1].Name = "" }, func(o *impl.CodeObj) { o.Refs[2].Name = "ff" },
		func(o *impl.CodeObj) { o.Refs[0], o.Refs[2] = o.Refs[2], o.Refs[0] }, func(o *impl.CodeObj) { o.Refs[0].Mod, o.Refs[0].Name = "f", "lib" }, func(o *impl.CodeObj) { o.Refs[0].Mod, o.Refs[0].Name = "li", "bf" },
		func(o *impl.CodeObj) { o.Refs = o.Refs[:2] }, func(o *impl.CodeObj) { o.Refs = nil }, func(o *impl.CodeObj) { o.Refs = o.Refs[1:] }, func(o *impl.CodeObj) { o.Refs = append(o.Refs, impl.CodeRef{}) }, func(o *impl.CodeObj) { o.Refs = append(o.Refs, o.Refs[2]) },
		func(o *impl.CodeObj) { o.Funs = o.Funs[:2] }, func(o *impl.CodeObj) { o.Funs = nil }, func(o *impl.CodeObj) { o.Funs = o.Funs[1:] }, func(o *impl.CodeObj) { o.Funs = append(o.Funs, impl.CodeFun{}) }, func(o *impl.CodeObj) { o.Funs[0], o.Funs[1] = o.Funs[1], o.Funs[0] },
		func(o *impl.CodeObj) { o.Funs[0].Name = "g" }, func(o *impl.CodeObj) { o.Funs[2].Name = "" }, func(o *impl.CodeObj) { o.Funs[1].Name = "G" }, func(o *impl.CodeObj) { o.Funs[0].Pub = false }, func(o *impl.CodeObj) { o.Funs[2].Pub = true },
		func(o *impl.CodeObj) { o.Funs[0].Args[0] = 2 }, func(o *impl.CodeObj) { o.Funs[0].Args[1] = 1 }, func(o *impl.CodeObj) { slices.Reverse(o.Funs[0].Args) }, func(o *impl.CodeObj) { o.Funs[1].Args[0] = -3 },
		func(o *impl.CodeObj) { o.Funs[0].Args = o.Funs[0].Args[:1] }, func(o *impl.CodeObj) { o.Funs[0].Args = nil }, func(o *impl.CodeObj) { o.Funs[1].Args = nil }, func(o *impl.CodeObj) { o.Funs[0].Args = append(o.Funs[0].Args, 0) }, func(o *impl.CodeObj) { o.Funs[2].Args = []int{0} },
		func(o *impl.CodeObj) { o.Funs[0].Type = 1 }, func(o *impl.CodeObj) { o.Funs[1].Type = 0 }, func(o *impl.CodeObj) { o.Funs[2].Type = math.MinInt }, func(o *impl.CodeObj) { o.Funs[0].Slots = 5 }, func(o *impl.CodeObj) { o.Funs[1].Slots = 0 }, func(o *impl.CodeObj) { o.Funs[2].Slots = -1 }, func(o *impl.CodeObj) { o.Funs[2].Slots = 1 << 32 },
		func(o *impl.CodeObj) { o.Funs[0].Code[0].Op = 2 }, func(o *impl.CodeObj) { o.Funs[0].Code[1].Op = 4 }, func(o *impl.CodeObj) { o.Funs[1].Code[1].Op = 0 }, func(o *impl.CodeObj) { o.Funs[0].Code[0].A = 6 }, func(o *impl.CodeObj) { o.Funs[0].Code[1].A = 0 }, func(o *impl.CodeObj) { o.Funs[1].Code[1].A = 1 }, func(o *impl.CodeObj) { o.Funs[1].Code[0].A += 1 << 32 },
		func(o *impl.CodeObj) { o.Funs[0].Code[0], o.Funs[0].Code[1] = o.Funs[0].Code[1], o.Funs[0].Code[0] }, func(o *impl.CodeObj) { o.Funs[0].Code[0] = impl.CodeIns{Op: 5, A: 1} },
		func(o *impl.CodeObj) { o.Funs[0].Code = o.Funs[0].Code[:2] }, func(o *impl.CodeObj) { o.Funs[0].Code = o.Funs[0].Code[1:] }, func(o *impl.CodeObj) { o.Funs[1].Code = nil }, func(o *impl.CodeObj) { o.Funs[1].Code = append(o.Funs[1].Code, impl.CodeIns{}) }, func(o *impl.CodeObj) { o.Funs[2].Code = []impl.CodeIns{{}} },
		func(o *impl.CodeObj) { o.Funs[0].Code, o.Funs[1].Code = o.Funs[1].Code, o.Funs[0].Code },
	}
}

func TestCodeSame(t *testing.T) {
	same := func(a, b impl.CodeObj, want bool) {
		t.Helper()
		if impl.CodeSame(a, b) != want || impl.CodeSame(b, a) != want {
			t.Errorf("CodeSame of %v and %v is not %v", a, b, want)
		}
	}
	full := fullObj()
	same(full, full, true)
	same(full, fullObj(), true)
	for i, turn := range objTurns() {
		o, other := fullObj(), fullObj()
		turn(&o)
		turn(&other)
		if sameObj(o, full) {
			t.Error("the test turns nothing", i)
		}
		same(o, full, false)
		same(o, o, true)
		same(o, other, true)
	}
	// The empty list is the nil list, each of them.
	same(impl.CodeObj{}, impl.CodeObj{Refs: []impl.CodeRef{}, Funs: []impl.CodeFun{}}, true)
	same(impl.CodeObj{Funs: []impl.CodeFun{{}}}, impl.CodeObj{Funs: []impl.CodeFun{{Args: []int{}, Code: []impl.CodeIns{}}}}, true)
	same(impl.CodeObj{Funs: []impl.CodeFun{{}}}, impl.CodeObj{Funs: []impl.CodeFun{{Args: []int{}}}}, true)
	same(impl.CodeObj{Funs: []impl.CodeFun{{}}}, impl.CodeObj{}, false)
	same(impl.CodeObj{Refs: []impl.CodeRef{{}}}, impl.CodeObj{}, false)
	same(full, impl.CodeObj{}, false)
	// What is behind an end is not a part.
	same(roomyObj(full), full, true)
	same(roomyObj(full), roomyObj(fullObj()), true)
	large := impl.CodeObj{Refs: slices.Repeat(full.Refs, 10000), Funs: slices.Repeat(full.Funs, 10000)}
	other := impl.CodeObj{Refs: slices.Clone(large.Refs), Funs: slices.Clone(large.Funs)}
	same(large, other, true)
	other.Funs[29999].Slots = 7
	same(large, other, false)
}

// Objects that are made are the same just if all their parts are.
func TestCodeSameMade(t *testing.T) {
	r := rand.New(rand.NewSource(47))
	yes, no := 0, 0
	for range 2000 {
		m, faces := typedMod(r)
		other := slippedMod(r, m, faces)
		a, _ := impl.CodeMake(m, faces)
		b, _ := impl.CodeMake(other, faces)
		want := sameObj(a, b)
		if impl.CodeSame(a, b) != want || impl.CodeSame(b, a) != want || !impl.CodeSame(a, settledObj(a)) || !impl.CodeSame(roomyObj(b), b) {
			t.Fatalf("CodeSame of %v and %v is not %v", a, b, want)
		}
		if want {
			yes++
		} else {
			no++
		}
	}
	if yes < 100 || no < 500 {
		t.Error(yes, no)
	}
}

// roomyObj is an object whose lists all have spare room, with something in it.
func roomyObj(o impl.CodeObj) impl.CodeObj {
	out := impl.CodeObj{
		Refs: append(slices.Clone(o.Refs), impl.CodeRef{Name: "room"}, impl.CodeRef{Mod: "room"})[:len(o.Refs)],
		Funs: append(slices.Clone(o.Funs), impl.CodeFun{Name: "room"}, impl.CodeFun{Slots: 7})[:len(o.Funs)],
	}
	for i := range out.Funs {
		f := &out.Funs[i]
		f.Args = roomyInts(f.Args)
		f.Code = append(slices.Clone(f.Code), impl.CodeIns{Op: 77}, impl.CodeIns{A: 78})[:len(f.Code)]
	}
	return out
}

// wideObj is an object with all its lists as long as their room is, in memory of its own.
func wideObj(o impl.CodeObj) impl.CodeObj {
	out := impl.CodeObj{Refs: slices.Clone(o.Refs[:cap(o.Refs)]), Funs: slices.Clone(o.Funs[:cap(o.Funs)])}
	for i := range out.Funs {
		f := &out.Funs[i]
		f.Args = slices.Clone(f.Args[:cap(f.Args)])
		f.Code = slices.Clone(f.Code[:cap(f.Code)])
	}
	return out
}

// span is where a list, or a text, lies in memory.
type span struct{ from, to uintptr }

func spanOf[T any](list []T) span {
	var one T
	from := uintptr(unsafe.Pointer(unsafe.SliceData(list)))
	return span{from, from + uintptr(cap(list))*unsafe.Sizeof(one)}
}

func (s span) meets(o span) bool { return s.from < o.to && o.from < s.to }

// spansOf is where the lists of an object lie, spare room included.
func spansOf(o impl.CodeObj) []span {
	all := []span{spanOf(o.Refs), spanOf(o.Funs)}
	for _, f := range o.Funs {
		all = append(all, spanOf(f.Args), spanOf(f.Code))
	}
	return all
}

// objTexts are the texts of an object.
func objTexts(o impl.CodeObj) []string {
	var all []string
	for _, ref := range o.Refs {
		all = append(all, ref.Mod, ref.Name)
	}
	for _, f := range o.Funs {
		all = append(all, f.Name)
	}
	return all
}

// spoilObj writes over all lists of an object, spare room included.
func spoilObj(o impl.CodeObj) {
	for _, f := range o.Funs {
		spoilInts(f.Args)
		for i := range f.Code[:cap(f.Code)] {
			f.Code[:cap(f.Code)][i] = impl.CodeIns{Op: -9, A: -9}
		}
	}
	for i := range o.Refs[:cap(o.Refs)] {
		o.Refs[:cap(o.Refs)][i] = impl.CodeRef{Mod: "spoiled", Name: "spoiled"}
	}
	for i := range o.Funs[:cap(o.Funs)] {
		o.Funs[:cap(o.Funs)][i] = impl.CodeFun{Name: "spoiled", Slots: -9}
	}
}

// Nothing is written into an argument or behind its end, and every answer is new memory.
func TestCodeNew(t *testing.T) {
	r := rand.New(rand.NewSource(48))
	lists := 0
	for range 800 {
		m, faces := typedMod(r)
		if r.Intn(8) == 0 {
			m = slippedMod(r, m, faces)
		}
		want, wantOk := checkCode(t, "plain", m, faces)
		m, faces = roomy(m), roomyFaces(faces)
		before, beforeFaces := wide(m), keptFaces(faces)
		got, ok := impl.CodeMake(m, faces)
		other, _ := impl.CodeMake(m, faces)
		if ok != wantOk || !sameObj(got, want) || !sameObj(other, want) {
			t.Fatal("what is behind an end counts")
		}
		all := append(spansOf(got), spansOf(other)...)
		for i, s := range all {
			for _, o := range all[:i] {
				if s.meets(o) {
					t.Fatal("two lists of answers share memory")
				}
			}
		}
		lists += len(all)
		given := texts(m)
		for _, face := range faces {
			given = append(given, face.Mod)
			for _, s := range face.Sigs {
				given = append(given, s.Name)
			}
		}
		for _, text := range objTexts(got) {
			for _, o := range append(objTexts(other), given...) {
				if text != "main" && overlap(text, o) {
					t.Fatalf("%q shares memory", text)
				}
			}
		}
		if spoilObj(got); !sameObj(other, want) || !plainSame(wide(m), before) || !sameRoom(faces, beforeFaces) {
			t.Fatal("an argument or another answer was written into")
		}
		if again, _ := impl.CodeMake(m, faces); !sameObj(again, want) {
			t.Fatal("what was written into an answer shows")
		}
	}
	if lists < 10000 {
		t.Error(lists)
	}
}

// CodeSame writes nothing into what it holds against each other.
func TestCodeSameArguments(t *testing.T) {
	r := rand.New(rand.NewSource(49))
	for range 500 {
		m, faces := typedMod(r)
		made, _ := impl.CodeMake(m, faces)
		a, b := roomyObj(made), roomyObj(made)
		if turns := objTurns(); r.Intn(2) == 0 {
			a, b = fullObj(), roomyObj(fullObj())
			turns[r.Intn(len(turns))](&a)
			a = roomyObj(a)
		}
		beforeA, beforeB := wideObj(a), wideObj(b)
		impl.CodeSame(a, b)
		if impl.CodeSame(b, a); !sameObj(wideObj(a), beforeA) || !sameObj(wideObj(b), beforeB) {
			t.Fatal("an argument was written into")
		}
	}
	// Names are held against each other byte by byte, whatever memory they lie in.
	a, b := fullObj(), fullObj()
	for i := range b.Refs {
		b.Refs[i].Mod, b.Refs[i].Name = strings.Clone(b.Refs[i].Mod), strings.Clone(b.Refs[i].Name)
	}
	if !impl.CodeSame(a, b) {
		t.Error("names that are copies are others")
	}
}
