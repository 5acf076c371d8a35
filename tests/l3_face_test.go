package tests

import (
	"math"
	"math/rand"
	"reflect"
	"regexp"
	"slices"
	"strings"
	"testing"

	"loop.example/smithy/impl"
)

// sig is a short way to write a line: its types, the last one its own.
func sig(name string, types ...int) impl.FaceSig {
	last := len(types) - 1
	return impl.FaceSig{Name: name, Args: slices.Clone(types[:last]), Type: types[last]}
}

// settledFace is a face with nil in the place of each empty list.
func settledFace(list []impl.FaceSig) []impl.FaceSig {
	var out []impl.FaceSig
	for _, s := range list {
		s.Args = append([]int(nil), s.Args...)
		out = append(out, s)
	}
	return out
}

func sameFace(a, b []impl.FaceSig) bool {
	return reflect.DeepEqual(settledFace(a), settledFace(b))
}

// plainFaceOk says what is ok by another way than the program.
func plainFaceOk(list []impl.FaceSig) bool {
	ok := len(list) <= 8
	for i, s := range list {
		ok = ok && impl.LexName(s.Name) && len(s.Args) <= 4
		for _, n := range append(slices.Clone(s.Args), s.Type) {
			ok = ok && n >= 1 && n <= 3
		}
		ok = ok && (i == 0 || strings.Compare(list[i-1].Name, s.Name) < 0)
	}
	return ok
}

// plainFaceText writes a face, ok or not.
func plainFaceText(list []impl.FaceSig) string {
	word := func(n int) string {
		if n < 1 || n > 3 {
			return "num"
		}
		return []string{"int", "bool", "row"}[n-1]
	}
	var text strings.Builder
	for _, s := range list {
		text.WriteString(s.Name + "(")
		for i, n := range s.Args {
			if i > 0 {
				text.WriteString(",")
			}
			text.WriteString(word(n))
		}
		text.WriteString(")" + word(s.Type) + "\n")
	}
	return text.String()
}

var plainLine = regexp.MustCompile(`^([a-z]{1,8})\(((?:int|bool|row)(?:,(?:int|bool|row)){0,3})?\)(int|bool|row)\n`)

// plainFaceRead reads by another way than the program: what a line is, as a whole.
func plainFaceRead(text string) ([]impl.FaceSig, bool) {
	var list []impl.FaceSig
	for text != "" {
		got := plainLine.FindStringSubmatch(text)
		if got == nil {
			return nil, false
		}
		s := impl.FaceSig{Name: got[1], Type: plainTypeOf(got[3])}
		for _, word := range strings.FieldsFunc(got[2], func(r rune) bool { return r == ',' }) {
			s.Args = append(s.Args, plainTypeOf(word))
		}
		list = append(list, s)
		text = text[len(got[0]):]
	}
	if !plainFaceOk(list) {
		return nil, false
	}
	return list, true
}

// checkFace holds FaceOk and FaceText against the other way, and reads what is written.
func checkFace(t *testing.T, what string, list []impl.FaceSig, want bool) {
	t.Helper()
	if plainFaceOk(list) != want {
		t.Fatalf("%s: the test's own way says %v", what, !want)
	}
	if got := impl.FaceOk(list); got != want {
		t.Errorf("%s: FaceOk(%v) = %v", what, list, got)
	}
	text, plain := impl.FaceText(list), plainFaceText(list)
	if !want {
		if text != "" {
			t.Errorf("%s: FaceText(%v) = %q", what, list, text)
		}
		// What would be written of it may be the text of a face only if it is the same one.
		checkFaceRead(t, plain)
		return
	}
	if text != plain {
		t.Errorf("%s: FaceText = %q; want %q", what, text, plain)
	}
	if got, ok := impl.FaceRead(text); !ok || !sameFace(got, list) {
		t.Errorf("%s: FaceRead(%q) = %v, %v; want %v", what, text, got, ok, list)
	}
}

// checkFaceRead holds what is read of a text against the other way to read, and tells whether it is a face.
func checkFaceRead(t *testing.T, text string) bool {
	t.Helper()
	want, wantOk := plainFaceRead(text)
	got, ok := impl.FaceRead(text)
	if ok != wantOk || !sameFace(got, want) {
		t.Fatalf("FaceRead(%.200q) = %v, %v; want %v, %v", text, got, ok, want, wantOk)
	}
	// P5: nothing is read but what FaceText writes.
	if ok && impl.FaceText(got) != text {
		t.Fatalf("%q is read and written as %q", text, impl.FaceText(got))
	}
	return ok
}

func TestFaceOkText(t *testing.T) {
	for _, c := range []struct {
		list []impl.FaceSig
		want string
	}{
		{nil, ""},
		{[]impl.FaceSig{}, ""},
		{[]impl.FaceSig{sig("f", 1)}, "f()int\n"},
		{[]impl.FaceSig{{Name: "f", Args: []int{}, Type: 2}}, "f()bool\n"},
		{[]impl.FaceSig{sig("f", 3)}, "f()row\n"},
		{[]impl.FaceSig{sig("f", 1, 3, 2)}, "f(int,row)bool\n"},
		{[]impl.FaceSig{sig("abcdefgh", 2, 2, 2, 2, 2)}, "abcdefgh(bool,bool,bool,bool)bool\n"},
		{[]impl.FaceSig{sig("all", 2), sig("sum", 3, 1, 1)}, "all()bool\nsum(row,int)int\n"},
		{[]impl.FaceSig{sig("a", 1), sig("aa", 1), sig("ab", 1), sig("b", 1)}, "a()int\naa()int\nab()int\nb()int\n"},
	} {
		checkFace(t, "listed", c.list, true)
		if got := impl.FaceText(c.list); got != c.want {
			t.Errorf("FaceText = %q; want %q", got, c.want)
		}
		if got, ok := impl.FaceRead(c.want); !ok || !sameFace(got, c.list) {
			t.Errorf("FaceRead(%q) = %v, %v", c.want, got, ok)
		}
	}
}

// P5 for each line that there is: all types and numbers of Args.
func TestFaceEveryLine(t *testing.T) {
	var grow func(types []int)
	lines := 0
	grow = func(types []int) {
		if len(types) > 0 {
			lines++
			checkFace(t, "every line", []impl.FaceSig{sig("f", types...)}, true)
			checkFace(t, "every line behind", []impl.FaceSig{sig("e", 1, 2), sig("f", types...), sig("g", 3)}, true)
		}
		if len(types) == 5 {
			return
		}
		for n := 1; n <= 3; n++ {
			grow(append(slices.Clone(types), n))
		}
	}
	grow(nil)
	if lines != 3+9+27+81+243 {
		t.Error(lines)
	}
}

func TestFaceBounds(t *testing.T) {
	for n := range 12 {
		var short, long []impl.FaceSig
		for _, name := range names(n) {
			short = append(short, sig(name, 1))
			long = append(long, sig("abcdefg"+name, 2, 2, 2, 2, 2))
		}
		checkFace(t, "lines", short, n <= impl.TreeMaxFuns)
		checkFace(t, "long lines", long, n <= impl.TreeMaxFuns)
		if ok := checkFaceRead(t, plainFaceText(long)); ok != (n <= 8) {
			t.Error("lines are read", n, ok)
		}
		for _, types := range [][]int{slices.Repeat([]int{3}, n+1), slices.Repeat([]int{2}, n+1)} {
			for _, list := range [][]impl.FaceSig{{sig("f", types...)}, {sig("a", 1), sig("f", types...)}, {sig("f", types...), sig("g", 1)}} {
				checkFace(t, "args", list, n <= impl.TreeMaxArgs)
				if ok := checkFaceRead(t, plainFaceText(list)); ok != (n <= 4) {
					t.Error("args are read", n, ok)
				}
			}
		}
	}
	// Far too much of all.
	checkFace(t, "very many lines", slices.Repeat([]impl.FaceSig{sig("f", 1)}, 100000), false)
	checkFace(t, "very many args", []impl.FaceSig{sig("f", slices.Repeat([]int{1}, 100000)...)}, false)
	checkFace(t, "a very long name", []impl.FaceSig{sig(strings.Repeat("f", 100000), 1)}, false)
}

// With each list as it is one of its lines is turned.
func TestFaceOkWrong(t *testing.T) {
	wrongNames := append(strings.Fields(ownWords), "", "A", "abcdefghi", "a1", "a.b", "+", "(", ")", ",", "a b", " a", "a ", "a\n", "\n", "é", "\xff", "a\x00", "f()int\ng")
	wrongTypes := []int{0, -1, 4, 5, math.MinInt, math.MaxInt, 1 << 32, 1<<32 + 1, 1<<62 + 2, 256 + 1}
	for place := range 3 {
		turned := func(turn func(s *impl.FaceSig)) []impl.FaceSig {
			list := []impl.FaceSig{sig("b", 1, 2, 3), sig("f", 2, 1, 3, 3, 1), sig("z", 3)}
			turn(&list[place])
			return list
		}
		checkFace(t, "not turned", turned(func(*impl.FaceSig) {}), true)
		checkFace(t, "nothing", turned(func(s *impl.FaceSig) { *s = impl.FaceSig{} }), false)
		for _, name := range wrongNames {
			checkFace(t, "name", turned(func(s *impl.FaceSig) { s.Name = name }), false)
			checkFace(t, "name alone", []impl.FaceSig{sig(name, 1)}, false)
		}
		for _, n := range wrongTypes {
			checkFace(t, "type", turned(func(s *impl.FaceSig) { s.Type = n }), false)
			for at := range 4 {
				checkFace(t, "type of an arg", turned(func(s *impl.FaceSig) {
					s.Args = []int{1, 2, 3, 1}
					s.Args[at] = n
				}), false)
				checkFace(t, "type of the last arg", turned(func(s *impl.FaceSig) { s.Args = append(slices.Repeat([]int{1}, at), n) }), false)
			}
		}
	}
}

func TestFaceOkOrder(t *testing.T) {
	for _, c := range []struct {
		names string
		want  bool
	}{
		{"a b", true}, {"b a", false}, {"a a", false}, {"a b a", false}, {"a b b", false}, {"a a b", false}, {"b a c", false}, {"a c b", false}, {"c b a", false},
		// A name stands behind its beginnings.
		{"a aa", true}, {"aa a", false}, {"a aa ab", true}, {"aa ab a", false}, {"ab aaa", false}, {"aaa ab", true}, {"sum suma", true}, {"suma sum", false}, {"abcdefg abcdefgh", true}, {"abcdefgh abcdefg", false},
		{"b aa", false}, {"aa b", true}, {"zzzzzzzz zzzzzzzz", false}, {"a b c d e f g h", true}, {"a b c d e f g g", false}, {"a b c d e f h g", false}, {"b a c d e f g h", false}, {"h b c d e f g i", false},
	} {
		var list []impl.FaceSig
		for i, name := range strings.Fields(c.names) {
			list = append(list, sig(name, 1+i%3))
		}
		checkFace(t, c.names, list, c.want)
		// The same lines twice, or one name with different types: neither may stand.
		for i := range list {
			list[i] = sig(list[i].Name, 1)
		}
		checkFace(t, c.names, list, c.want)
		if ok := checkFaceRead(t, plainFaceText(list)); ok != c.want {
			t.Error(c.names, "is read", ok)
		}
	}
}

// randomFace is a face that is ok.
func randomFace(r *rand.Rand) []impl.FaceSig {
	all := randomNames(r, 8)
	if r.Intn(3) == 0 {
		// Names of which one is the beginning of another.
		all = nil
		for n := range 1 + r.Intn(8) {
			all = append(all, "abababab"[:n+1])
		}
	}
	slices.Sort(all)
	var list []impl.FaceSig
	for _, name := range all {
		s := impl.FaceSig{Name: name, Type: 1 + r.Intn(3)}
		for range r.Intn(5) {
			s.Args = append(s.Args, 1+r.Intn(3))
		}
		list = append(list, s)
	}
	return list
}

// turnedFace is a face with one part turned; most are not ok.
func turnedFace(r *rand.Rand, list []impl.FaceSig) []impl.FaceSig {
	list = slices.Clone(list)
	if len(list) == 0 {
		return append(list, impl.FaceSig{Name: randomWrongName(r), Type: r.Intn(5)})
	}
	i, j := r.Intn(len(list)), r.Intn(len(list))
	s := &list[i]
	s.Args = slices.Clone(s.Args)
	switch r.Intn(8) {
	case 0:
		s.Name = randomWrongName(r)
	case 1:
		s.Name = randomName(r)
	case 2:
		s.Type = r.Intn(6) - 1
	case 3:
		s.Args = append(s.Args, r.Intn(6)-1)
	case 4:
		s.Args = s.Args[:max(0, len(s.Args)-1)]
	case 5:
		list[i], list[j] = list[j], list[i]
	case 6:
		return slices.Insert(list, i, list[j])
	case 7:
		return slices.Delete(list, i, i+1)
	}
	return list
}

// P5 for faces of all sorts.
func TestFaceReadBack(t *testing.T) {
	r := rand.New(rand.NewSource(11))
	right, wrong := 0, 0
	for range 20000 {
		list := randomFace(r)
		checkFace(t, "random", list, true)
		list = turnedFace(r, list)
		want := plainFaceOk(list)
		checkFace(t, "turned", list, want)
		if want {
			right++
		} else {
			wrong++
		}
	}
	if right < 4000 || wrong < 4000 {
		t.Error(right, wrong)
	}
}

func TestFaceReadWrong(t *testing.T) {
	for _, text := range []string{
		"a", "a()int", "\n", "\n\n", " ", "a()int\n\n", "\na()int\n", "a()int\n\nb()int\n", "a()int\nb()int", "a()intb()int\n", "a()int\nb\n", "a()int\n ", "a()int\n\x00", "a()int\na", "a()int\r\n", "a()int\n\r",
		"a(num)int\n", "a()num\n", "a(,)int\n", "a(int,)int\n", "a(,int)int\n", "a(int,,int)int\n", "a(int;int)int\n", "a(int int)int\n", "a(int, int)int\n", "a(int ,int)int\n", "a( )int\n", "a( int)int\n", "a(int )int\n", "a ()int\n", " a()int\n", "a() int\n", "a()int \n",
		"A()int\n", "()int\n", "a)int\n", "a(int\n", "aint\n", "a(int)\n", "a()\n", "a(\n", "a)(int\n", "a(()int\n", "a())int\n", "a(()int)int\n", "a()int()int\n", "a()int)\n", "a()int(\n", "a(int,)\n", "a()()int\n", "a(),int\n", "a,()int\n", ",a()int\n", "a(int)(int)int\n", "a(a)int\n",
		"a()INT\n", "a()Int\n", "a()ints\n", "a()in\n", "a()intint\n", "a()int,int\n", "a(1)int\n", "a()1\n", "a(int.row)int\n", "a.b()int\n", "int()int\n", "row()row\n", "use()int\n", "print()int\n", "abcdefghi()int\n", "a(int,int,int,int,int)int\n",
		"b()int\na()int\n", "a()int\na()int\n", "a()int\na()row\n", "aa()int\na()int\n", "a()int\nb()int\na()int\n", "(pub a () int 1)", "é()int\n", "a\xff()int\n",
	} {
		if got, ok := impl.FaceRead(text); ok || len(got) != 0 {
			t.Errorf("FaceRead(%q) = %v, %v", text, got, ok)
		}
		checkFaceRead(t, text)
	}
	for _, long := range []string{strings.Repeat("a()int\n", 50000), strings.Repeat("\n", 50000), strings.Repeat("a", 200000) + "()int\n", "a(" + strings.Repeat("int,", 50000) + "int)int\n", strings.Repeat("(", 100000), strings.Repeat("a(", 50000) + strings.Repeat(")", 50000)} {
		if checkFaceRead(t, long) {
			t.Errorf("%.40q is read", long)
		}
	}
}

// With one byte anywhere missing, twice there, turned into another, or put in, nothing else is read.
func TestFaceReadEveryByte(t *testing.T) {
	read, unread := 0, 0
	look := func(text string) {
		if checkFaceRead(t, text) {
			read++
		} else {
			unread++
		}
	}
	for _, text := range []string{"", "f()int\n", "f(int,row)bool\n", "a()bool\nsum(row,int)int\n", "ab(int,int,int,int)row\nabc()bool\nb(row)int\n"} {
		look(text)
		for i := range len(text) {
			look(text[:i])
			look(text[i:])
			look(text[:i] + text[i+1:])
			look(text[:i] + text[i:i+1] + text[i:])
		}
		for b := range 256 {
			sign := string([]byte{byte(b)})
			for i := range len(text) {
				look(text[:i] + sign + text[i+1:])
			}
			for i := range len(text) + 1 {
				look(text[:i] + sign + text[i:])
			}
		}
	}
	if read < 100 || unread < 10000 {
		t.Error(read, unread)
	}
}

// Every short run of what a text may be made of.
func TestFaceReadEvery(t *testing.T) {
	read := 0
	var grow func(text string, left int)
	grow = func(text string, left int) {
		if checkFaceRead(t, text) {
			read++
		}
		if left == 0 {
			return
		}
		for _, part := range []string{"a", "b", "(", ")", ",", "int", "row", "\n"} {
			grow(text+part, left-1)
		}
	}
	grow("", 6)
	for _, ahead := range []string{"a(", "a()int\n", "a()int\nb(int", "a(int,int,int,"} {
		grow(ahead, 5)
	}
	if read < 50 {
		t.Error(read)
	}
}

// Texts of faces in which something is turned.
func TestFaceReadRandom(t *testing.T) {
	r := rand.New(rand.NewSource(12))
	parts := []string{"(", ")", ",", "\n", " ", "int", "bool", "row", "a", "f()int\n", "", "\x00", "\xff"}
	read, unread := 0, 0
	for range 20000 {
		text := impl.FaceText(randomFace(r))
		for range r.Intn(3) {
			i := r.Intn(len(text) + 1)
			j := i + r.Intn(min(4, len(text)-i)+1)
			text = text[:i] + parts[r.Intn(len(parts))] + text[j:]
		}
		if checkFaceRead(t, text) {
			read++
		} else {
			unread++
		}
	}
	if read < 2000 || unread < 2000 {
		t.Error(read, unread)
	}
}
