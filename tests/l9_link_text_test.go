package tests

import (
	"fmt"
	"math"
	"regexp"
	"slices"
	"strconv"
	"strings"
	"testing"

	"loop.example/smithy/impl"
)

// placesOf is the places of a list of so many.
func placesOf(n int) []int {
	var all []int
	for place := range n {
		all = append(all, place)
	}
	return all
}

// plainImageOk says what has a text by another way than the program.
func plainImageOk(m impl.LinkImage) bool {
	ok := len(m.Funs) < 73 && len(m.Mains) < 9
	for _, number := range m.Mains {
		ok = ok && slices.Contains(placesOf(len(m.Funs)), number)
	}
	count := 0
	for _, f := range m.Funs {
		own := impl.CodeFun{Name: f.Name, Args: f.Args, Type: f.Type, Slots: f.Slots, Code: f.Code}
		ok = ok && plainName(f.Mod) && plainObjOk(impl.CodeObj{Funs: []impl.CodeFun{own}})
		count += len(f.Code)
	}
	return ok && count < 3681
}

// plainImageText writes an image, ok or not.
func plainImageText(m impl.LinkImage) string {
	var text strings.Builder
	text.WriteString("image\n")
	for _, f := range m.Funs {
		// The lines of an object that has this function alone, without Pub.
		own := impl.CodeFun{Name: f.Mod + "." + f.Name, Args: f.Args, Type: f.Type, Slots: f.Slots, Code: f.Code}
		lines := plainObjText(impl.CodeObj{Funs: []impl.CodeFun{own}})
		text.WriteString(strings.Replace(strings.TrimPrefix(lines, "object\n"), " own ", " ", 1))
	}
	for _, number := range m.Mains {
		fmt.Fprintf(&text, "main %d\n", number)
	}
	return text.String()
}

// What lines of an image are, beside those of instructions, as a whole.
var (
	imageFun  = regexp.MustCompile(`\Afun ([a-z]{1,8})\.([a-z]{1,8}) (-|` + typeForm + `(?:,` + typeForm + `){0,3}) (` + typeForm + `) ` + placeForm + `\z`)
	imageMain = regexp.MustCompile(`\Amain (0|[1-9][0-9]?)\z`)
)

// plainImageRead reads by another way than the program: each line as a whole, one after the other.
func plainImageRead(text string) (impl.LinkImage, bool) {
	var m impl.LinkImage
	lines := strings.Split(text, "\n")
	if len(text) > 200000 || len(lines) < 2 || lines[0] != "image" || lines[len(lines)-1] != "" {
		return m, false
	}
	for _, line := range lines[1 : len(lines)-1] {
		last := len(m.Funs) - 1
		if got := imageMain.FindStringSubmatch(line); got != nil {
			number, _ := strconv.Atoi(got[1])
			m.Mains = append(m.Mains, number)
		} else if len(m.Mains) > 0 {
			return impl.LinkImage{}, false
		} else if got := imageFun.FindStringSubmatch(line); got != nil {
			f := impl.LinkFun{Mod: got[1], Name: got[2], Type: plainTypeOf(got[4])}
			for _, word := range strings.FieldsFunc(strings.Trim(got[3], "-"), func(r rune) bool { return r == ',' }) {
				f.Args = append(f.Args, plainTypeOf(word))
			}
			f.Slots, _ = strconv.Atoi(got[5])
			m.Funs = append(m.Funs, f)
		} else if plainForms["ins"].MatchString(line) && last >= 0 {
			word, number, _ := strings.Cut(line, " ")
			a, _ := strconv.Atoi(number)
			m.Funs[last].Code = append(m.Funs[last].Code, impl.CodeIns{Op: 1 + slices.Index(strings.Fields(codeWords), word), A: a})
		} else {
			return impl.LinkImage{}, false
		}
	}
	if !plainImageOk(m) {
		return impl.LinkImage{}, false
	}
	return m, true
}

// checkImage holds LinkText against the other way, and reads what is written.
func checkImage(t *testing.T, what string, m impl.LinkImage, want bool) {
	t.Helper()
	if plainImageOk(m) != want {
		t.Fatalf("%s: the test's own way says %v of %v", what, !want, m)
	}
	text, plain := impl.LinkText(m), plainImageText(m)
	if !want {
		if text != "" {
			t.Errorf("%s: LinkText(%v) = %q", what, m, text)
		}
		// What would be written of it may be the text of an image only if it is the same one.
		checkImageRead(t, plain)
		return
	}
	if text != plain {
		t.Errorf("%s: LinkText = %q; want %q", what, text, plain)
	}
	if got, ok := impl.LinkRead(text); !ok || !sameImage(got, m) {
		t.Errorf("%s: LinkRead(%q) = %v, %v; want %v", what, text, got, ok, m)
	}
}

// checkImageRead holds what is read of a text against the other way to read, and tells whether it is an image.
func checkImageRead(t *testing.T, text string) bool {
	t.Helper()
	want, wantOk := plainImageRead(text)
	got, ok := impl.LinkRead(text)
	if ok != wantOk || !sameImage(got, want) {
		t.Fatalf("LinkRead(%.300q) = %v, %v; want %v, %v", text, got, ok, want, wantOk)
	}
	// P22: nothing is read but what LinkText writes.
	if ok && impl.LinkText(got) != text {
		t.Fatalf("%q is read and written as %q", text, impl.LinkText(got))
	}
	return ok
}

// fullImage is an image that has more than one of all that it may have.
func fullImage() impl.LinkImage {
	return impl.LinkImage{
		Funs: []impl.LinkFun{
			{Mod: "a", Name: "f", Args: []int{1, 2}, Type: 3, Slots: 4, Code: []impl.CodeIns{{Op: 1, A: 5}, {Op: 3, A: 1}, {Op: 9}}},
			{Mod: "a", Name: "main", Args: []int{3}, Type: 1, Slots: 1, Code: []impl.CodeIns{{Op: 8, A: 2}, {Op: 9}}},
			{Mod: "lib", Name: "main", Type: 2},
		},
		Mains: []int{1, 2},
	}
}

// imageWith is a full image that is turned.
func imageWith(turn func(m *impl.LinkImage)) impl.LinkImage {
	m := fullImage()
	turn(&m)
	return m
}

func TestLinkTextListed(t *testing.T) {
	for _, c := range []struct {
		m    impl.LinkImage
		want string
	}{
		{impl.LinkImage{}, "image\n"},
		{impl.LinkImage{Funs: []impl.LinkFun{}, Mains: []int{}}, "image\n"},
		{impl.LinkImage{Funs: []impl.LinkFun{{Mod: "a", Name: "f", Type: 1}}}, "image\nfun a.f - int 0\n"},
		{impl.LinkImage{Funs: []impl.LinkFun{{Mod: "lib", Name: "f", Args: []int{}, Type: 2, Code: []impl.CodeIns{}}}, Mains: []int{}}, "image\nfun lib.f - bool 0\n"},
		{impl.LinkImage{Funs: []impl.LinkFun{{Mod: "a", Name: "f", Args: []int{3}, Type: 2, Slots: 1}}}, "image\nfun a.f row bool 1\n"},
		{impl.LinkImage{Funs: []impl.LinkFun{{Mod: "a", Name: "f", Args: []int{1, 2, 3, 1}, Type: 3, Slots: 1000, Code: []impl.CodeIns{{Op: 3, A: 2}, {Op: 9}}}}}, "image\nfun a.f int,bool,row,int row 1000\nload 2\nback 0\n"},
		// Each instruction, whether or not there is what it asks for.
		{impl.LinkImage{Funs: []impl.LinkFun{{Mod: "abcdefgh", Name: "abcdefgh", Type: 1, Code: []impl.CodeIns{{Op: 1, A: -12}, {Op: 2, A: 1}, {Op: 3, A: 3}, {Op: 4, A: 4}, {Op: 5, A: 5}, {Op: 6, A: 6}, {Op: 7, A: 7}, {Op: 8, A: 999}, {Op: 9}, {Op: 10, A: 10}}}}},
			"image\nfun abcdefgh.abcdefgh - int 0\npush -12\nflag 1\nload 3\nkeep 4\nprim 5\njump 6\nunless 7\ncall 999\nback 0\nrow 10\n"},
		// Mains that are named main, that are not, that do not ascend, that are twice there; a main that is none of them.
		{impl.LinkImage{Funs: []impl.LinkFun{{Mod: "a", Name: "main", Type: 1}}, Mains: []int{0}}, "image\nfun a.main - int 0\nmain 0\n"},
		{impl.LinkImage{Funs: []impl.LinkFun{{Mod: "a", Name: "f", Args: []int{1}, Type: 1}}, Mains: []int{0}}, "image\nfun a.f int int 0\nmain 0\n"},
		{impl.LinkImage{Funs: []impl.LinkFun{{Mod: "a", Name: "main", Type: 1}, {Mod: "b", Name: "main", Type: 1}}, Mains: []int{1, 0}}, "image\nfun a.main - int 0\nfun b.main - int 0\nmain 1\nmain 0\n"},
		{impl.LinkImage{Funs: []impl.LinkFun{{Mod: "a", Name: "main", Type: 1}, {Mod: "b", Name: "main", Type: 1}}, Mains: []int{1, 1, 1}}, "image\nfun a.main - int 0\nfun b.main - int 0\nmain 1\nmain 1\nmain 1\n"},
		{impl.LinkImage{Funs: []impl.LinkFun{{Mod: "a", Name: "main", Type: 1}}}, "image\nfun a.main - int 0\n"},
		// Functions of one Mod and Name, Mods in no order.
		{impl.LinkImage{Funs: []impl.LinkFun{{Mod: "b", Name: "f", Type: 1}, {Mod: "a", Name: "f", Type: 1}, {Mod: "b", Name: "f", Type: 1}}}, "image\nfun b.f - int 0\nfun a.f - int 0\nfun b.f - int 0\n"},
		// Names that are words of the text, too.
		{impl.LinkImage{Funs: []impl.LinkFun{{Mod: "image", Name: "push", Type: 1}, {Mod: "back", Name: "image", Type: 2, Code: []impl.CodeIns{{Op: 1}}}}, Mains: []int{0}}, "image\nfun image.push - int 0\nfun back.image - bool 0\npush 0\nmain 0\n"},
	} {
		checkImage(t, "listed", c.m, true)
		if got := impl.LinkText(c.m); got != c.want {
			t.Errorf("LinkText = %q; want %q", got, c.want)
		}
		if got, ok := impl.LinkRead(c.want); !ok || !sameImage(got, c.m) {
			t.Errorf("LinkRead(%q) = %v, %v", c.want, got, ok)
		}
		checkImageRead(t, c.want)
	}
}

// Each limit on how many there are is met, and passed by one.
func TestLinkTextBounds(t *testing.T) {
	for n := range 80 {
		funs := slices.Repeat([]impl.LinkFun{{Mod: "a", Name: "f", Type: 1}}, n)
		checkImage(t, "functions", impl.LinkImage{Funs: funs}, n <= 72)
		checkImage(t, "functions and mains", impl.LinkImage{Funs: funs, Mains: placesOf(min(n, 8))}, n <= 72)
		checkImage(t, "the last is a main", impl.LinkImage{Funs: funs, Mains: []int{n - 1}}, 0 < n && n <= 72)
		checkImage(t, "one behind it is none", impl.LinkImage{Funs: funs, Mains: []int{n}}, false)
	}
	for n := range 20 {
		mains := slices.Repeat([]int{2}, n)
		checkImage(t, "mains", imageWith(func(m *impl.LinkImage) { m.Mains = mains }), n <= 8)
		checkImage(t, "mains that ascend", impl.LinkImage{Funs: slices.Repeat([]impl.LinkFun{{Mod: "a", Name: "main", Type: 1}}, 20), Mains: placesOf(n)}, n <= 8)
		args := slices.Repeat([]int{2}, n)
		checkImage(t, "args", impl.LinkImage{Funs: []impl.LinkFun{{Mod: "a", Name: "f", Args: args, Type: 2}}}, n <= 4)
		checkImage(t, "args of the last", imageWith(func(m *impl.LinkImage) { m.Funs[2].Args = args }), n <= 4)
	}
	for _, number := range []int{math.MinInt, -1000, -2, -1, 0, 1, 2, 3, 4, 71, 72, 1000, 1 << 32, 1<<32 + 1, math.MaxInt} {
		want := 0 <= number && number <= 2
		checkImage(t, "a main", imageWith(func(m *impl.LinkImage) { m.Mains = []int{number} }), want)
		checkImage(t, "the first main", imageWith(func(m *impl.LinkImage) { m.Mains[0] = number }), want)
		checkImage(t, "the last main", imageWith(func(m *impl.LinkImage) { m.Mains[1] = number }), want)
		checkImage(t, "one more main", imageWith(func(m *impl.LinkImage) { m.Mains = append(m.Mains, number) }), want)
		checkImage(t, "a main of nothing", impl.LinkImage{Mains: []int{number}}, false)
	}
	code := slices.Repeat([]impl.CodeIns{{Op: 1, A: 1 - numEnd}}, 500)
	for n := 458; n <= 463; n++ {
		checkImage(t, "instructions of one", impl.LinkImage{Funs: []impl.LinkFun{{Mod: "a", Name: "f", Type: 1, Code: code[:n]}}}, n <= 460)
		for at := range 3 {
			checkImage(t, "instructions of one of several", imageWith(func(m *impl.LinkImage) { m.Funs[at].Code = code[:n] }), n <= 460)
		}
	}
	for n := 3676; n <= 3684; n++ {
		// Eight with as many as may be, and what is left in those ahead, between, or behind.
		for at := range 9 {
			var m impl.LinkImage
			for i, size := range slices.Insert(slices.Repeat([]int{459}, 8), at, n-8*459) {
				m.Funs = append(m.Funs, impl.LinkFun{Mod: "a", Name: names(9)[i], Type: 1, Code: code[:size]})
			}
			checkImage(t, "instructions of all", m, n <= 3680)
		}
		var m impl.LinkImage
		for i := range 72 {
			m.Funs = append(m.Funs, impl.LinkFun{Mod: "abcdefgh", Name: "abcdefgh", Args: []int{2, 2, 2, 2}, Type: 2, Slots: 1000, Code: code[:(i+1)*n/72-i*n/72]})
		}
		m.Mains = []int{71, 71, 71, 71, 71, 71, 71, 71}
		checkImage(t, "instructions of many", m, n <= 3680)
		// The image with the longest text: it is far from what a text may have.
		if size := len(impl.LinkText(m)); n == 3680 && size != 6+72*52+3680*24+8*8 {
			t.Error(size)
		}
	}
	f := impl.LinkFun{Mod: "a", Name: "f", Type: 1}
	for i, m := range []impl.LinkImage{{Funs: slices.Repeat([]impl.LinkFun{f}, 3000)}, {Funs: []impl.LinkFun{f}, Mains: make([]int, 5000)}, {Funs: []impl.LinkFun{{Mod: "a", Name: "f", Type: 1, Code: slices.Repeat(code, 100)}}}, {Funs: []impl.LinkFun{{Mod: strings.Repeat("a", 300000), Name: "f", Type: 1}}}} {
		checkImage(t, strconv.Itoa(i), m, false)
	}
}

// A function's Mod is a name, and its Name a name or main.
func TestLinkTextNames(t *testing.T) {
	look := func(word string, mod, name bool) {
		t.Helper()
		for at := range 3 {
			checkImage(t, "mod "+word, imageWith(func(m *impl.LinkImage) { m.Funs[at].Mod = word }), mod)
			checkImage(t, "name "+word, imageWith(func(m *impl.LinkImage) { m.Funs[at].Name = word }), name)
			checkImage(t, "both "+word, imageWith(func(m *impl.LinkImage) { m.Funs[at].Mod, m.Funs[at].Name = word, word }), mod && name)
		}
		checkImage(t, "mod alone "+word, impl.LinkImage{Funs: []impl.LinkFun{{Mod: word, Name: "f", Type: 1}}}, mod)
		checkImage(t, "name alone "+word, impl.LinkImage{Funs: []impl.LinkFun{{Mod: "a", Name: word, Type: 1}}}, name)
	}
	for _, word := range []string{"a", "z", "lib", "abcdefgh", "zzzzzzzz", "image", "object", "push", "call", "back", "mains", "own", "pubs"} {
		look(word, true, true)
	}
	for _, word := range append(strings.Fields(ownWords), "", "A", "aB", "abcdefghi", strings.Repeat("a", 1000), "a1", "1", "-", "a.b", ".", "a.", ".a", ",", "a b", " ", " a", "a ", "a\n", "\n", "é", "\xff", "a\x00", "`", "{", "f - int 0\nfun g") {
		look(word, false, word == "main")
	}
}

// All else of a function is as it is to be in an object.
func TestLinkTextFunctions(t *testing.T) {
	for _, kind := range []int{-1, 0, 1, 2, 3, 4, 5, 256 + 1, 1<<32 + 1, 1<<62 + 2, math.MinInt, math.MaxInt} {
		want := kind >= 1 && kind <= 3
		for at := range 3 {
			checkImage(t, "type", imageWith(func(m *impl.LinkImage) { m.Funs[at].Type = kind }), want)
			for place := range 4 {
				checkImage(t, "type of an arg", imageWith(func(m *impl.LinkImage) {
					m.Funs[at].Args = []int{1, 2, 3, 1}
					m.Funs[at].Args[place] = kind
				}), want)
			}
		}
	}
	for _, slots := range []int{math.MinInt, -1000, -1, 0, 1, 999, 1000, 1001, 65536, 1 << 32, 1<<32 + 1, math.MaxInt} {
		for at := range 3 {
			checkImage(t, "slots", imageWith(func(m *impl.LinkImage) { m.Funs[at].Slots = slots }), 0 <= slots && slots <= 1000)
		}
	}
	for op := -2; op <= 13; op++ {
		least, most := plainSpan(op)
		for _, a := range []int{math.MinInt, -1 << 32, -numEnd, 1 - numEnd, -1001, -1000, -1, 0, 1, 2, 14, 15, 71, 72, 999, 1000, 1001, numEnd - 1, numEnd, 1<<32 + 1, math.MaxInt} {
			ins, want := impl.CodeIns{Op: op, A: a}, least <= a && a <= most
			checkImage(t, "alone", impl.LinkImage{Funs: []impl.LinkFun{{Mod: "a", Name: "f", Type: 1, Code: []impl.CodeIns{ins}}}}, want)
			checkImage(t, "first", imageWith(func(m *impl.LinkImage) { m.Funs[0].Code[0] = ins }), want)
			checkImage(t, "last", imageWith(func(m *impl.LinkImage) { m.Funs[2].Code = append(m.Funs[2].Code, ins) }), want)
		}
	}
	for _, op := range []int{256 + 1, 1<<32 + 1, math.MaxInt, math.MinInt} {
		checkImage(t, "no Op", imageWith(func(m *impl.LinkImage) { m.Funs[1].Code[0].Op = op }), false)
	}
	checkImage(t, "a function that is nothing", impl.LinkImage{Funs: []impl.LinkFun{{}}}, false)
	checkImage(t, "a function that is nothing behind others", imageWith(func(m *impl.LinkImage) { m.Funs = append(m.Funs, impl.LinkFun{}) }), false)
	checkImage(t, "an instruction that is nothing", imageWith(func(m *impl.LinkImage) { m.Funs[2].Code = []impl.CodeIns{{}} }), false)
}
