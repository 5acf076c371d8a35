package tests

import (
	"fmt"
	"math"
	"regexp"
	"slices"
	"strconv"
	"strings"
	"testing"

	"loop.example/smithy/impl"
)

func TestObjLimits(t *testing.T) {
	if impl.ObjMaxRefs != 40 || impl.ObjMaxCode != 460 || impl.ObjMaxText != 30000 {
		t.Error(impl.ObjMaxRefs, impl.ObjMaxCode, impl.ObjMaxText)
	}
}

// numEnd is the least number that no instruction pushes.
const numEnd = 100_000_000_000_000_000

var plainLetters = regexp.MustCompile(`^[a-z]{1,8}$`)

// plainName says what is a name by another way than the program.
func plainName(word string) bool {
	return plainLetters.MatchString(word) && !strings.Contains(word, "\n") && !slices.Contains(strings.Fields(ownWords), word)
}

// plainSpan is the least and the greatest A of an Op; none, if there is no such Op.
func plainSpan(op int) (int, int) {
	switch {
	case op == 1:
		return 1 - numEnd, numEnd - 1
	case op == 2:
		return 0, 1
	case op == 9:
		return 0, 0
	case op > 2 && op < 11:
		return 0, 1000
	}
	return 1, 0
}

// plainObjOk says what is ok by another way than the program.
func plainObjOk(o impl.CodeObj) bool {
	ok := len(o.Refs) < 41 && len(o.Funs) < 10
	for _, ref := range o.Refs {
		ok = ok && plainName(ref.Name) && (ref.Mod == "" || plainName(ref.Mod))
	}
	var code []impl.CodeIns
	for _, f := range o.Funs {
		ok = ok && (f.Name == "main" || plainName(f.Name)) && len(f.Args) < 5 && f.Slots >= 0 && f.Slots < 1001
		for _, kind := range append(slices.Clone(f.Args), f.Type) {
			ok = ok && kind > 0 && kind < 4
		}
		code = append(code, f.Code...)
	}
	for _, ins := range code {
		least, most := plainSpan(ins.Op)
		ok = ok && ins.A >= least && ins.A <= most
	}
	return ok && len(code) < 461
}

// plainObjText writes an object, ok or not.
func plainObjText(o impl.CodeObj) string {
	word := func(words string, n int) string {
		if n < 1 || n > len(strings.Fields(words)) {
			return "nope"
		}
		return strings.Fields(words)[n-1]
	}
	text := "object\n"
	for _, ref := range o.Refs {
		text += fmt.Sprintf("ref %s.%s\n", ref.Mod, ref.Name)
	}
	for _, f := range o.Funs {
		args := "-"
		for i, n := range f.Args {
			if i == 0 {
				args = word("int bool row", n)
			} else {
				args += "," + word("int bool row", n)
			}
		}
		text += fmt.Sprintf("fun %s %s %s %s %d\n", f.Name, map[bool]string{true: "pub", false: "own"}[f.Pub], args, word("int bool row", f.Type), f.Slots)
		var code strings.Builder
		for _, ins := range f.Code {
			fmt.Fprintf(&code, "%s %d\n", word(codeWords, ins.Op), ins.A)
		}
		text += code.String()
	}
	return text
}

const (
	placeForm = `(0|[1-9][0-9]{0,2}|1000)`
	typeForm  = `(?:int|bool|row)`
)

// What each line of an object is, as a whole; the first is that of nothing.
var plainForms = map[string]*regexp.Regexp{
	"ref": regexp.MustCompile(`\Aref ([a-z]{1,8})?\.([a-z]{1,8})\z`),
	"fun": regexp.MustCompile(`\Afun ([a-z]{1,8}) (pub|own) (-|` + typeForm + `(?:,` + typeForm + `){0,3}) (` + typeForm + `) ` + placeForm + `\z`),
	"ins": regexp.MustCompile(`\A(?:(push) (0|-?[1-9][0-9]{0,16})|(flag) ([01])|(back) (0)|(load|keep|prim|jump|unless|call|row) ` + placeForm + `)\z`),
}

// plainObjRead reads by another way than the program: each line as a whole, one after the other.
func plainObjRead(text string) (impl.CodeObj, bool) {
	var o impl.CodeObj
	lines := strings.Split(text, "\n")
	if len(lines) < 2 || lines[0] != "object" || lines[len(lines)-1] != "" {
		return o, false
	}
	for _, line := range lines[1 : len(lines)-1] {
		last := len(o.Funs) - 1
		if got := plainForms["ref"].FindStringSubmatch(line); got != nil && last < 0 {
			o.Refs = append(o.Refs, impl.CodeRef{Mod: got[1], Name: got[2]})
		} else if got := plainForms["fun"].FindStringSubmatch(line); got != nil {
			f := impl.CodeFun{Name: got[1], Pub: got[2] == "pub", Type: plainTypeOf(got[4])}
			for _, word := range strings.FieldsFunc(strings.Trim(got[3], "-"), func(r rune) bool { return r == ',' }) {
				f.Args = append(f.Args, plainTypeOf(word))
			}
			f.Slots, _ = strconv.Atoi(got[5])
			o.Funs = append(o.Funs, f)
		} else if got := plainForms["ins"].FindString(line); got != "" && last >= 0 {
			word, number, _ := strings.Cut(line, " ")
			a, _ := strconv.Atoi(number)
			o.Funs[last].Code = append(o.Funs[last].Code, impl.CodeIns{Op: 1 + slices.Index(strings.Fields(codeWords), word), A: a})
		} else {
			return impl.CodeObj{}, false
		}
	}
	if !plainObjOk(o) {
		return impl.CodeObj{}, false
	}
	return o, true
}

// checkObj holds ObjOk and ObjText against the other way, and reads what is written.
func checkObj(t *testing.T, what string, o impl.CodeObj, want bool) {
	t.Helper()
	if plainObjOk(o) != want {
		t.Fatalf("%s: the test's own way says %v of %v", what, !want, o)
	}
	if got := impl.ObjOk(o); got != want {
		t.Errorf("%s: ObjOk(%v) = %v", what, o, got)
	}
	text, plain := impl.ObjText(o), plainObjText(o)
	if !want {
		if text != "" {
			t.Errorf("%s: ObjText(%v) = %q", what, o, text)
		}
		// What would be written of it may be the text of an object only if it is the same one.
		checkObjRead(t, plain)
		return
	}
	if text != plain {
		t.Errorf("%s: ObjText = %q; want %q", what, text, plain)
	}
	if got, ok := impl.ObjRead(text); !ok || !sameObj(got, o) || !impl.CodeSame(got, o) {
		t.Errorf("%s: ObjRead(%q) = %v, %v; want %v", what, text, got, ok, o)
	}
}

// checkObjRead holds what is read of a text against the other way to read, and tells whether it is an object.
func checkObjRead(t *testing.T, text string) bool {
	t.Helper()
	want, wantOk := plainObjRead(text)
	got, ok := impl.ObjRead(text)
	if ok != wantOk || !sameObj(got, want) {
		t.Fatalf("ObjRead(%.300q) = %v, %v; want %v, %v", text, got, ok, want, wantOk)
	}
	// P19: nothing is read but what ObjText writes.
	if ok && (impl.ObjText(got) != text || !impl.ObjOk(got)) {
		t.Fatalf("%q is read and written as %q", text, impl.ObjText(got))
	}
	return ok
}

func TestObjTextListed(t *testing.T) {
	for _, c := range []struct {
		o    impl.CodeObj
		want string
	}{
		{impl.CodeObj{}, "object\n"},
		{impl.CodeObj{Refs: []impl.CodeRef{}, Funs: []impl.CodeFun{}}, "object\n"},
		{impl.CodeObj{Refs: []impl.CodeRef{{Name: "f"}}}, "object\nref .f\n"},
		{impl.CodeObj{Refs: []impl.CodeRef{{Mod: "lib", Name: "f"}}}, "object\nref lib.f\n"},
		// Refs that are twice there, and in no order.
		{impl.CodeObj{Refs: []impl.CodeRef{{Mod: "lib", Name: "f"}, {Name: "f"}, {Mod: "a", Name: "g"}, {Mod: "lib", Name: "f"}}}, "object\nref lib.f\nref .f\nref a.g\nref lib.f\n"},
		// A function without parameters, without instructions, without either.
		{impl.CodeObj{Funs: []impl.CodeFun{{Name: "f", Type: 1}}}, "object\nfun f own - int 0\n"},
		{impl.CodeObj{Funs: []impl.CodeFun{{Name: "f", Args: []int{}, Type: 2, Code: []impl.CodeIns{}}}}, "object\nfun f own - bool 0\n"},
		{impl.CodeObj{Funs: []impl.CodeFun{{Name: "f", Pub: true, Type: 3, Slots: 7}}}, "object\nfun f pub - row 7\n"},
		{impl.CodeObj{Funs: []impl.CodeFun{{Name: "f", Args: []int{3}, Type: 2, Slots: 1}}}, "object\nfun f own row bool 1\n"},
		{impl.CodeObj{Funs: []impl.CodeFun{{Name: "f", Pub: true, Args: []int{1, 2, 3, 1}, Type: 3, Slots: 4, Code: []impl.CodeIns{{Op: 3, A: 2}, {Op: 9}}}}}, "object\nfun f pub int,bool,row,int row 4\nload 2\nback 0\n"},
		{impl.CodeObj{Funs: []impl.CodeFun{{Name: "f", Type: 1, Code: []impl.CodeIns{{Op: 1, A: 5}, {Op: 9}}}}}, "object\nfun f own - int 0\npush 5\nback 0\n"},
		// Functions with one Name, several named main, one that is Pub and has Args, one ahead of others.
		{impl.CodeObj{Funs: []impl.CodeFun{{Name: "main", Pub: true, Args: []int{1}, Type: 1, Slots: 1000}, {Name: "f", Type: 1}, {Name: "f", Type: 1}, {Name: "main", Type: 3}}}, "object\nfun main pub int int 1000\nfun f own - int 0\nfun f own - int 0\nfun main own - row 0\n"},
		// No function need have slots for its parameters, or places that are there.
		{impl.CodeObj{Funs: []impl.CodeFun{{Name: "f", Args: []int{1, 1}, Type: 1, Code: []impl.CodeIns{{Op: 6, A: 1000}, {Op: 8, A: 999}, {Op: 5, A: 0}}}}}, "object\nfun f own int,int int 0\njump 1000\ncall 999\nprim 0\n"},
		// Each instruction.
		{impl.CodeObj{Funs: []impl.CodeFun{{Name: "abcdefgh", Type: 1, Code: []impl.CodeIns{{Op: 1, A: -12}, {Op: 2, A: 1}, {Op: 3, A: 3}, {Op: 4, A: 4}, {Op: 5, A: 5}, {Op: 6, A: 6}, {Op: 7, A: 7}, {Op: 8, A: 8}, {Op: 9}, {Op: 10, A: 10}}}}},
			"object\nfun abcdefgh own - int 0\npush -12\nflag 1\nload 3\nkeep 4\nprim 5\njump 6\nunless 7\ncall 8\nback 0\nrow 10\n"},
		// Names that are words of the text, too.
		{impl.CodeObj{Refs: []impl.CodeRef{{Mod: "object", Name: "ref"}, {Mod: "own", Name: "back"}}, Funs: []impl.CodeFun{{Name: "ref", Type: 1}, {Name: "own", Pub: true, Type: 1}, {Name: "object", Type: 2}, {Name: "push", Type: 3, Code: []impl.CodeIns{{Op: 1}}}}},
			"object\nref object.ref\nref own.back\nfun ref own - int 0\nfun own pub - int 0\nfun object own - bool 0\nfun push own - row 0\npush 0\n"},
	} {
		checkObj(t, "listed", c.o, true)
		if got := impl.ObjText(c.o); got != c.want {
			t.Errorf("ObjText = %q; want %q", got, c.want)
		}
		if got, ok := impl.ObjRead(c.want); !ok || !sameObj(got, c.o) {
			t.Errorf("ObjRead(%q) = %v, %v", c.want, got, ok)
		}
		checkObjRead(t, c.want)
	}
}

// objWith is a full object that is turned.
func objWith(turn func(o *impl.CodeObj)) impl.CodeObj {
	o := fullObj()
	turn(&o)
	return o
}

// Every way to have types, with either Pub.
func TestObjEveryTypes(t *testing.T) {
	lines := 0
	var grow func(types []int)
	grow = func(types []int) {
		for n := 1; n <= 3 && len(types) > 0; n++ {
			lines++
			f := impl.CodeFun{Name: "f", Pub: lines%2 == 0, Args: types[1:], Type: types[0], Slots: lines % 1001}
			checkObj(t, "alone", impl.CodeObj{Funs: []impl.CodeFun{f}}, true)
			f.Code = []impl.CodeIns{{Op: n, A: lines % 2}, {Op: 9}}
			f.Pub = !f.Pub
			checkObj(t, "among others", objWith(func(o *impl.CodeObj) { o.Funs = slices.Insert(o.Funs, n, f) }), true)
		}
		if len(types) == 5 {
			return
		}
		for n := 1; n <= 3; n++ {
			grow(append(slices.Clone(types), n))
		}
	}
	grow(nil)
	if lines != 3*(3+9+27+81+243) {
		t.Error(lines)
	}
}

// Each Op with each A that is an edge of its own, or of another one.
func TestObjEveryIns(t *testing.T) {
	edges := []int{0, 1, 2, 3, 9, 10, 14, 15, 99, 999, 1000, 1001, 9999, 99999999999, numEnd - 1, numEnd, numEnd + 1, math.MaxInt, 1 << 32, 1<<32 + 1, 1<<62 + 1}
	for _, a := range slices.Clone(edges) {
		edges = append(edges, -a)
	}
	edges = append(edges, math.MinInt, -1<<63+1000)
	right := 0
	for op := -2; op <= 13; op++ {
		least, most := plainSpan(op)
		for _, a := range edges {
			want := a >= least && a <= most
			if want {
				right++
			}
			ins := impl.CodeIns{Op: op, A: a}
			checkObj(t, "alone", impl.CodeObj{Funs: []impl.CodeFun{{Name: "f", Type: 1, Code: []impl.CodeIns{ins}}}}, want)
			checkObj(t, "first", objWith(func(o *impl.CodeObj) { o.Funs[0].Code[0] = ins }), want)
			checkObj(t, "within", objWith(func(o *impl.CodeObj) { o.Funs[0].Code[1] = ins }), want)
			checkObj(t, "last", objWith(func(o *impl.CodeObj) { o.Funs[2].Code = append(o.Funs[2].Code, ins) }), want)
		}
	}
	for _, op := range []int{0, 11, -1, 256 + 1, 1<<32 + 1, math.MaxInt, math.MinInt} {
		checkObj(t, "no Op", objWith(func(o *impl.CodeObj) { o.Funs[1].Code[0] = impl.CodeIns{Op: op} }), false)
	}
	// push has the most of them: all but those of 18 digits.
	if right < 100 {
		t.Error(right)
	}
	for _, c := range []struct {
		op, a int
		want  bool
	}{
		{impl.CodePush, numEnd - 1, true}, {impl.CodePush, numEnd, false}, {impl.CodePush, 1 - numEnd, true}, {impl.CodePush, -numEnd, false}, {impl.CodePush, 1001, true}, {impl.CodePush, -1, true},
		{impl.CodeFlag, 0, true}, {impl.CodeFlag, 1, true}, {impl.CodeFlag, 2, false}, {impl.CodeFlag, -1, false}, {impl.CodeBack, 0, true}, {impl.CodeBack, 1, false}, {impl.CodeBack, -1, false},
		{impl.CodeLoad, 1000, true}, {impl.CodeLoad, 1001, false}, {impl.CodeKeep, 1000, true}, {impl.CodeKeep, -1, false}, {impl.CodePrim, 0, true}, {impl.CodePrim, 15, true}, {impl.CodePrim, 1001, false},
		{impl.CodeJump, 1000, true}, {impl.CodeJump, -1, false}, {impl.CodeUnless, 1000, true}, {impl.CodeUnless, 1001, false}, {impl.CodeCall, 1000, true}, {impl.CodeCall, 1001, false}, {impl.CodeRow, 1000, true}, {impl.CodeRow, 1001, false}, {impl.CodeRow, -1, false},
		{0, 0, false}, {11, 0, false}, {-1, 0, false},
	} {
		checkObj(t, "listed", impl.CodeObj{Funs: []impl.CodeFun{{Name: "f", Type: 1, Code: []impl.CodeIns{{Op: c.op, A: c.a}}}}}, c.want)
	}
}

// Each limit on how many there are is met, and passed by one.
func TestObjBounds(t *testing.T) {
	for n := range 60 {
		refs := slices.Repeat([]impl.CodeRef{{Mod: "abcdefgh", Name: "abcdefgh"}}, n)
		checkObj(t, "refs", impl.CodeObj{Refs: refs}, n <= 40)
		checkObj(t, "refs and functions", objWith(func(o *impl.CodeObj) { o.Refs = refs }), n <= 40)
	}
	for n := range 15 {
		funs := slices.Repeat([]impl.CodeFun{{Name: "f", Type: 1}}, n)
		checkObj(t, "functions", impl.CodeObj{Funs: funs}, n <= 9)
		if n > 0 {
			funs[n-1].Name = "main"
		}
		checkObj(t, "functions and main", impl.CodeObj{Funs: funs}, n <= 9)
		args := slices.Repeat([]int{2}, n)
		checkObj(t, "args", impl.CodeObj{Funs: []impl.CodeFun{{Name: "f", Args: args, Type: 2}}}, n <= 4)
		checkObj(t, "args of the last", objWith(func(o *impl.CodeObj) { o.Funs[2].Args = args }), n <= 4)
	}
	for n := 455; n <= 465; n++ {
		code := slices.Repeat([]impl.CodeIns{{Op: 1, A: 1 - numEnd}}, n)
		checkObj(t, "instructions of one", impl.CodeObj{Funs: []impl.CodeFun{{Name: "f", Type: 1, Code: code}}}, n <= 460)
		for _, at := range []int{0, 1, 200, n - 1, n} {
			checkObj(t, "instructions of two", impl.CodeObj{Funs: []impl.CodeFun{{Name: "f", Type: 1, Code: code[:at]}, {Name: "main", Type: 1, Code: code[at:]}}}, n <= 460)
		}
		o := impl.CodeObj{}
		for i := range 9 {
			o.Funs = append(o.Funs, impl.CodeFun{Name: "f", Type: 1, Code: code[i*n/9 : (i+1)*n/9]})
		}
		checkObj(t, "instructions of many", o, n <= 460)
	}
	for _, slots := range []int{0, 1, 9, 10, 999, 1000} {
		for at := range 3 {
			checkObj(t, "slots", objWith(func(o *impl.CodeObj) { o.Funs[at].Slots = slots }), true)
		}
	}
	for _, slots := range []int{-1, 1001, 1 << 32, math.MinInt, math.MaxInt, 1<<32 + 1, 65536, -1000} {
		for at := range 3 {
			checkObj(t, "slots", objWith(func(o *impl.CodeObj) { o.Funs[at].Slots = slots }), false)
		}
	}
	// Far too much of all.
	f := impl.CodeFun{Name: "f", Type: 1}
	for i, o := range []impl.CodeObj{{Refs: slices.Repeat([]impl.CodeRef{{Name: "f"}}, 5000)}, {Funs: slices.Repeat([]impl.CodeFun{f}, 2000)},
		{Funs: []impl.CodeFun{{Name: "f", Type: 1, Args: slices.Repeat([]int{1}, 20000)}}}, {Funs: []impl.CodeFun{{Name: "f", Type: 1, Code: slices.Repeat([]impl.CodeIns{{Op: 9}}, 100000)}}}, {Refs: []impl.CodeRef{{Name: strings.Repeat("f", 100000)}}}} {
		checkObj(t, strconv.Itoa(i), o, false)
	}
	// The object with the longest text: it is far from what a text may have.
	large := impl.CodeObj{Refs: slices.Repeat([]impl.CodeRef{{Mod: "abcdefgh", Name: "abcdefgh"}}, 40)}
	for range 9 {
		large.Funs = append(large.Funs, impl.CodeFun{Name: "abcdefgh", Pub: true, Args: []int{2, 2, 2, 2}, Type: 2, Slots: 1000, Code: slices.Repeat([]impl.CodeIns{{Op: 1, A: 1 - numEnd}}, 51)})
	}
	large.Funs[0].Code = append(large.Funs[0].Code, impl.CodeIns{Op: 1, A: 1 - numEnd})
	checkObj(t, "large", large, true)
	if n := len(impl.ObjText(large)); n != 7+40*22+9*47+460*24 {
		t.Error(n)
	}
}

// Each name at each place: what is a name of a module, of a function, of one that is called.
func TestObjNames(t *testing.T) {
	wrong := append(strings.Fields(ownWords), "", "A", "aB", "abcdefghi", strings.Repeat("a", 1000), "a1", "1", "-", "+", "a.b", ".", "a.", ".a", ",", "a b", " ", " a", "a ", "a\n", "\n", "a\nb", "a\r", "é", "ａ", "\xff", "a\x00", "`", "{", "f own - int 0\nfun g")
	right := []string{"a", "z", "f", "lib", "abcdefgh", "zzzzzzzz", "own", "object", "ref", "push", "flag", "load", "keep", "prim", "jump", "unless", "call", "back", "mains", "mai", "pubs"}
	look := func(word string, own, mod, ref bool) {
		t.Helper()
		for at := range 3 {
			checkObj(t, "function "+word, objWith(func(o *impl.CodeObj) { o.Funs[at].Name = word }), own)
			checkObj(t, "mod "+word, objWith(func(o *impl.CodeObj) { o.Refs[at].Mod = word }), mod)
			checkObj(t, "ref "+word, objWith(func(o *impl.CodeObj) { o.Refs[at].Name = word }), ref)
		}
		checkObj(t, "function alone "+word, impl.CodeObj{Funs: []impl.CodeFun{{Name: word, Type: 1}}}, own)
		checkObj(t, "mod alone "+word, impl.CodeObj{Refs: []impl.CodeRef{{Mod: word, Name: "f"}}}, mod)
		checkObj(t, "ref alone "+word, impl.CodeObj{Refs: []impl.CodeRef{{Mod: "lib", Name: word}}}, ref)
		checkObj(t, "ref of its own "+word, impl.CodeObj{Refs: []impl.CodeRef{{Name: word}}}, ref)
		checkObj(t, "both "+word, impl.CodeObj{Refs: []impl.CodeRef{{Mod: word, Name: word}}}, mod && ref)
	}
	for _, word := range right {
		look(word, true, true, true)
	}
	// Only a function may be named main, and only a Mod be empty.
	for _, word := range wrong {
		look(word, word == "main", word == "", false)
	}
}

// A type is one of three, of an argument and of what comes.
func TestObjTypes(t *testing.T) {
	for _, kind := range []int{-1, 0, 1, 2, 3, 4, 5, 256 + 1, 1 << 32, 1<<32 + 1, 1<<62 + 2, math.MinInt, math.MaxInt} {
		want := kind >= 1 && kind <= 3
		for at := range 3 {
			checkObj(t, "type", objWith(func(o *impl.CodeObj) { o.Funs[at].Type = kind }), want)
			for place := range 4 {
				checkObj(t, "type of an arg", objWith(func(o *impl.CodeObj) {
					o.Funs[at].Args = []int{1, 2, 3, 1}
					o.Funs[at].Args[place] = kind
				}), want)
				checkObj(t, "type of the last arg", objWith(func(o *impl.CodeObj) {
					o.Funs[at].Args = append(slices.Repeat([]int{3}, place), kind)
				}), want)
			}
		}
	}
	checkObj(t, "a function that is nothing", impl.CodeObj{Funs: []impl.CodeFun{{}}}, false)
	checkObj(t, "a function that is nothing behind others", objWith(func(o *impl.CodeObj) { o.Funs = append(o.Funs, impl.CodeFun{}) }), false)
	checkObj(t, "a ref that is nothing", impl.CodeObj{Refs: []impl.CodeRef{{}}}, false)
	checkObj(t, "a ref without a name", impl.CodeObj{Refs: []impl.CodeRef{{Mod: "lib"}}}, false)
	checkObj(t, "an instruction that is nothing", objWith(func(o *impl.CodeObj) { o.Funs[2].Code = []impl.CodeIns{{}} }), false)
}

// With each part turned there is another text, or none.
func TestObjTurned(t *testing.T) {
	full := impl.ObjText(fullObj())
	right, wrong := 0, 0
	for i, turn := range objTurns() {
		o := objWith(turn)
		want := plainObjOk(o)
		checkObj(t, strconv.Itoa(i), o, want)
		if impl.ObjText(o) == full {
			t.Error("the same text", i)
		}
		if want {
			right++
		} else {
			wrong++
		}
	}
	if right < 20 || wrong < 10 {
		t.Error(right, wrong)
	}
}
