package tests

import (
	"slices"
	"strconv"
	"strings"
	"testing"

	"loop.example/smithy/impl"
)

// imageText is the text of an image with something of all.
const imageText = "image\nfun lib.f int,bool row 2\nload 1\nunless 5\nload 0\ncall 2\njump 7\npush -5\nrow 1\nback 0\nfun lib.main - row 0\npush 10\nflag 1\nkeep 1\nprim 14\ncall 0\nback 0\nfun b.up int int 3\nmain 1\nmain 0\n"

func TestLinkReadExample(t *testing.T) {
	got, ok := impl.LinkRead(imageText)
	want := impl.LinkImage{Funs: []impl.LinkFun{
		{Mod: "lib", Name: "f", Args: []int{1, 2}, Type: 3, Slots: 2, Code: []impl.CodeIns{{Op: 3, A: 1}, {Op: 7, A: 5}, {Op: 3}, {Op: 8, A: 2}, {Op: 6, A: 7}, {Op: 1, A: -5}, {Op: 10, A: 1}, {Op: 9}}},
		{Mod: "lib", Name: "main", Type: 3, Code: []impl.CodeIns{{Op: 1, A: 10}, {Op: 2, A: 1}, {Op: 4, A: 1}, {Op: 5, A: 14}, {Op: 8}, {Op: 9}}},
		{Mod: "b", Name: "up", Args: []int{1}, Type: 1, Slots: 3},
	}, Mains: []int{1, 0}}
	if !ok || !sameImage(got, want) || impl.LinkText(want) != imageText {
		t.Error(got, ok)
	}
	if !checkImageRead(t, imageText) || !checkImageRead(t, "image\n") {
		t.Error("the test's own text")
	}
}

// unreadImage says that nothing is read of a text.
func unreadImage(t *testing.T, what, text string) {
	t.Helper()
	if got, ok := impl.LinkRead(text); ok || len(got.Funs) != 0 || len(got.Mains) != 0 {
		t.Errorf("%s: LinkRead(%.300q) = %v, %v", what, text, got, ok)
	}
	checkImageRead(t, text)
}

// Lines that are nearly one, each as the only one that is wrong.
func TestLinkReadNearly(t *testing.T) {
	asked := 0
	for _, line := range strings.Split(strings.TrimPrefix(`
fun|fun |fun a.f|fun a.f -|fun a.f - int|fun a.f - int |fun a.f - int 0 |fun a.f - int 0 0|fun a.f - int int 0|fun a.f a.f - int 0|fun a.f - - int 0|fun a.f int 0|fun a.f - 0|fun a.f int row int 0|fun a.f own - int 0|fun a.f pub - int 0|fun a.f - int own 0|fun - int 0|fun int - int 0
fun  a.f - int 0| fun a.f - int 0|fun a.f  - int 0|fun a.f -  int 0|fun a.f - int  0|fun a.f  int 0|fun  - int 0|fun a.f -  0|fun a. f - int 0|fun a .f - int 0|fun a . f - int 0
fun f - int 0|fun a f - int 0|fun .f - int 0|fun a. - int 0|fun . - int 0|fun a..f - int 0|fun .a.f - int 0|fun a.f. - int 0|fun a.b.f - int 0|fun a,f - int 0|fun af - int 0|fun A.f - int 0|fun a.F - int 0|fun a1.f - int 0|fun a.f1 - int 0|fun abcdefghi.f - int 0|fun a.abcdefghi - int 0|fun main.f - int 0|fun main.main - int 0|fun main - int 0|fun .main - int 0|fun int.f - int 0|fun a.int - int 0|fun a.fun - int 0|fun pub.f - int 0|fun a.Main - int 0|Fun a.f - int 0|funs a.f - int 0|fu a.f - int 0|a.f - int 0|fun(a.f - int 0|fun.a.f - int 0
fun a.f -- int 0|fun a.f + int 0|fun a.f () int 0|fun a.f -int int 0|fun a.f int- int 0|fun a.f -,int int 0|fun a.f int,- int 0|fun a.f - int, 0|fun a.f -, int 0|fun a.f ,- int 0|fun a.f nil int 0|fun a.f 0 int 0
fun a.f int, int 0|fun a.f ,int int 0|fun a.f , int 0|fun a.f ,, int 0|fun a.f int,,int int 0|fun a.f int;int int 0|fun a.f int, int int 0|fun a.f int ,int int 0|fun a.f intint int 0|fun a.f Int int 0|fun a.f ints int 0|fun a.f num int 0|fun a.f 1 int 0|fun a.f int,num int 0|fun a.f int,int,int,int,int int 0
fun a.f - INT 0|fun a.f - ints 0|fun a.f - in 0|fun a.f - num 0|fun a.f - 1 0|fun a.f - - 0|fun a.f - int,int 0|fun a.f - main 0
fun a.f - int 00|fun a.f - int 01|fun a.f - int 010|fun a.f - int +1|fun a.f - int -0|fun a.f - int -1|fun a.f - int 1001|fun a.f - int 2000|fun a.f - int 1.0|fun a.f - int 0x1|fun a.f - int 1_0|fun a.f - int -|fun a.f - int x|fun a.f - int 99999999999999999|fun a.f - int 18446744073709551616|fun a.f - int 4294967296|fun a.f - int ０|fun a.f - int 1000000000000000000000000000000
object|image|image 1|Image|ref .f|ref a.f|end|.|-
`, "\n"), "\n") {
		for _, line := range strings.Split(line, "|") {
			if line == "" {
				continue
			}
			asked++
			unreadImage(t, "alone", "image\n"+line+"\n")
			unreadImage(t, "behind a function", "image\nfun g.g - int 0\n"+line+"\n")
			unreadImage(t, "ahead of a function", "image\n"+line+"\nfun g.g - int 0\n")
			unreadImage(t, "among instructions", "image\nfun g.g - int 0\npush 1\n"+line+"\nback 0\n")
			unreadImage(t, "ahead of a main", "image\nfun g.g - int 0\n"+line+"\nmain 0\n")
		}
	}
	if asked < 120 {
		t.Error(asked)
	}
	// A function of an object is none of an image, and one of an image is none of an object.
	unreadImage(t, "an object", exampleText)
	unreadImage(t, "an object", "object\n")
	unread(t, "an image", imageText)
	unread(t, "an image", "image\n")
}

// Instructions and mains that are nearly one, each as the only one that is wrong.
func TestLinkReadNearlyIns(t *testing.T) {
	for _, line := range strings.Split("push|push |push  1|push 1 | push 1|push 1 2|push 01|push 00|push -0|push -01|push +1|push --1|push -|push 1.0|push 1e3|push 0x1|push 1_000|push x|push １|push 100000000000000000|push -100000000000000000|push 000000000000000001|push 9223372036854775807|push 18446744073709551617|push1|push,1|Push 1|PUSH 1|pushs 1|pus 1|1|0 1|-1|push push 1|"+
		"flag 2|flag -1|flag -0|flag 00|flag true|flag|flag +1|back 1|back -1|back|back -0|back 00|back 0 0|ret 0|load -1|load 1001|load 01|load x|load|load 4294967296|keep -1|keep 1001|keep|prim -1|prim 1001|prim +|prim print|prim|jump -1|jump 1001|goto 0|unless -1|unless 1001|if 0|call -1|call 1001|call f|call .f|call lib.f|call a.f|call|call 00|row -1|row 1001|row|add 1|nop 0|x 1|main|main |main x|main f|main a.f|main -1|main -0|main 00|main 01|main +0|main +1|main 2|main 3|main 72|main 1000|main 99999999999999999|main 4294967296|main 4294967297|main 0 0|main 0 |main  0| main 0|main 0,1|main 0.|Main 0|mains 0|mai 0|main0|main true|main 1e0|main 0x0|main ０|main 000000000000000000", "|") {
		unreadImage(t, "alone", "image\nfun g.g - int 0\nfun g.h - int 0\n"+line+"\n")
		unreadImage(t, "ahead of one", "image\nfun g.g - int 0\n"+line+"\npush 1\nfun g.h - int 0\n")
		unreadImage(t, "behind one", "image\nfun g.g - int 0\npush 1\n"+line+"\nfun g.h - int 0\n")
		unreadImage(t, "in the second", "image\nfun g.g - int 0\nfun g.h - int 0\n"+line+"\nmain 0\n")
		unreadImage(t, "behind a main", "image\nfun g.g - int 0\nfun g.h - int 0\nmain 1\n"+line+"\n")
	}
	// An instruction stands in a function, a main behind all of them, and image ahead of all.
	for _, text := range []string{
		"image\npush 1\n", "image\nback 0\n", "image\nmain 0\n", "main 0\n", "image\npush 1\nfun f.f - int 0\n", "push 1\nimage\n", "fun f.f - int 0\n", "fun f.f - int 0\nimage\n", "fun f.f - int 0\nback 0\nmain 0\n",
		"image\nmain 0\nfun f.f - int 0\n", "main 0\nimage\nfun f.f - int 0\n", "image\nfun f.f - int 0\nmain 0\nback 0\n", "image\nfun f.f - int 0\nmain 0\nfun f.g - int 0\n", "image\nfun f.f - int 0\nmain 0\npush 1\nmain 0\n", "image\nfun f.f - int 0\npush 1\nmain 0\nback 0\nfun f.g - int 0\n",
		"image\nimage\n", "image\nimage\nfun f.f - int 0\n", "image\nfun f.f - int 0\nimage\n", "image\nfun f.f - int 0\nback 0\nimage\n", "image\nfun f.f - int 0\nimage\nfun f.g - int 0\n", "image\nfun f.f - int 0\nmain 0\nimage\n", "image\nfun f.f - int 0\nimage\nmain 0\n",
		"object\nimage\n", "image\nobject\n", "image\nref .f\n", "image\nref f.f\nfun f.f - int 0\n",
	} {
		unreadImage(t, "another place", text)
	}
}

// The ends of a text, and what else is between its words.
func TestLinkReadBlanks(t *testing.T) {
	for _, text := range []string{
		"", " ", "\n", "\n\n", "image", "image\n\n", "\nimage\n", " image\n", "image \n", "image\n ", "image\n \n", "image\r\n", "image\n\r", "image\r", "image\x00\n", "image\n\x00", "image\t\n", "Image\n", "imag\n", "images\n", "image 0\n", "image;\n", "image,fun a.f - int 0\n", "image fun a.f - int 0\n", "\xef\xbb\xbfimage\n", "image\u2028", "image\\n",
		"i", "true", "(main 1)", "f()int\n", "é", "\xff", "\x00", "\xff\n", "image\n\xff\n", "image\né\n", "\xff\xfe\xfd", "\xe4\xbd\xa0\n", "fun", "push", "main", "main 0", "push 1", "fun a.f - int 0",
	} {
		unreadImage(t, "short", text)
	}
	for _, text := range []string{"image\n", "image\nfun a.f - int 0\n", "image\nfun a.f - int 0\nmain 0\n", imageText} {
		// A newline missing at the very end, one more, a carriage return.
		for _, end := range []string{"", "\n\n", "\r\n", "\n\r", " \n", "\n ", "\t\n", "\x00", "\n\x00", "\n.", "\n\n\n", "\r", "\v", "\f", "\n\t"} {
			unreadImage(t, "at the end", strings.TrimSuffix(text, "\n")+end)
		}
		for _, ahead := range []string{"\n", " ", "\t", "\r\n", "\x00", "\ufeff", "\nimage\n", "main 0\n", "x", "."} {
			unreadImage(t, "ahead", ahead+text)
		}
		unreadImage(t, "carriage returns", strings.ReplaceAll(text, "\n", "\r\n"))
		unreadImage(t, "a text twice", text+text)
		unreadImage(t, "newlines twice", strings.ReplaceAll(text, "\n", "\n\n"))
		unreadImage(t, "letters", strings.ToUpper(text))
		for i, sign := range text {
			if sign != ' ' && sign != '\n' {
				continue
			}
			// Another blank in the place of each one, more than one, none.
			for _, blank := range []string{"", "  ", " \t", "\t", "\n", "\r", " \n", "\n ", "\v", "\f", "\u00a0", "\u2003", "\x00", ",", "-"} {
				if unreadable := text[:i] + blank + text[i+1:]; unreadable != text {
					unreadImage(t, "another blank", unreadable)
				}
			}
		}
	}
}

// A line that is left out, there twice, or in another place.
func TestLinkReadLines(t *testing.T) {
	lines := strings.SplitAfter(imageText, "\n")
	lines = lines[:len(lines)-1]
	read := 0
	look := func(what string, lines []string, want bool) {
		t.Helper()
		if checkImageRead(t, strings.Join(lines, "")) != want {
			t.Errorf("%s: %q is read: %v", what, lines, !want)
		}
		if want {
			read++
		}
	}
	last := len(lines) - 1
	for i := range lines {
		// Without its first line, or with that twice, it is none; the instructions of a function that
		// is left out are those of the one ahead then, if there is one.
		look("left out", slices.Delete(slices.Clone(lines), i, i+1), i > 1)
		look("twice", slices.Insert(slices.Clone(lines), i, lines[i]), i > 0)
		look("cut off", lines[:i], i > 0)
		look("without a beginning", lines[i:], i == 0)
		for j := range lines {
			moved := slices.Insert(slices.Delete(slices.Clone(lines), i, i+1), j, lines[i])
			text := strings.Join(moved, "")
			// Mains have their places among each other, instructions in any function.
			want := moved[0] == "image\n" && strings.HasPrefix(moved[1], "fun") && strings.HasPrefix(moved[last], "main") && strings.HasPrefix(moved[last-1], "main")
			look("moved "+strconv.Itoa(i)+" to "+strconv.Itoa(j), moved, want)
			if got, ok := impl.LinkRead(text); ok && text != imageText && impl.LinkText(got) == imageText {
				t.Error("two texts of one image", i, j)
			}
		}
	}
	if read < 100 {
		t.Error(read)
	}
}

// With one byte anywhere missing, twice there, turned into another, or put in, nothing else is read.
func TestLinkReadEveryByte(t *testing.T) {
	read, not := 0, 0
	look := func(text string) {
		if checkImageRead(t, text) {
			read++
		} else {
			not++
		}
	}
	for _, text := range []string{"", "image\n", "image\nfun lib.f int,row bool 10\npush -7\nflag 1\nback 0\nfun b.main - int 0\nload 1\nmain 1\nmain 0\n"} {
		look(text)
		for i := range len(text) {
			look(text[:i])
			look(text[i:])
			look(text[:i] + text[i+1:])
			look(text[:i] + text[i:i+1] + text[i:])
			if i > 0 {
				look(text[:i-1] + text[i:i+1] + text[i-1:i] + text[i+1:])
			}
		}
		for b := range 256 {
			sign := string([]byte{byte(b)})
			for i := range len(text) {
				look(text[:i] + sign + text[i+1:])
			}
			for i := range len(text) + 1 {
				look(text[:i] + sign + text[i:])
			}
		}
	}
	if read < 500 || not < 40000 {
		t.Error(read, not)
	}
}

// Every short run of what a text may be made of.
func TestLinkReadEvery(t *testing.T) {
	read := 0
	var grow func(text string, parts []string, left int)
	grow = func(text string, parts []string, left int) {
		if checkImageRead(t, text) {
			read++
		}
		if left == 0 {
			return
		}
		for _, part := range parts {
			grow(text+part, parts, left-1)
		}
	}
	grow("", []string{"image\n", "image", "fun a.f - int 0\n", "push 1\n", "main 0\n", "main 1\n", "\n"}, 5)
	grow("image\n", []string{"fun a.f - int 0\n", "fun b.main int int 1\n", "back 0\n", "main 0\n", "main 1\n", "main 2\n"}, 5)
	grow("image\nfun ", []string{"a", ".", " ", "main", "-", "int 0", "\n"}, 5)
	grow("image\nfun a.f ", []string{"int", ",", "-", " ", "int 0\n"}, 6)
	grow("image\nfun a.f - int 0\nmain", []string{" ", "-", "0", "1", "+", "\n"}, 6)
	if read < 300 {
		t.Error(read)
	}
}

// Of a text with as many bytes as there may be, or more, nothing is read: none of an image has so many.
func TestLinkReadLong(t *testing.T) {
	for _, n := range []int{199999, 200000, 200001, 500000} {
		for what, text := range map[string]string{
			"functions":            "image\n" + strings.Repeat("fun a.f - int 0\n", n/16),
			"instructions":         "image\nfun a.f - int 0\n" + strings.Repeat("push 1\n", n/7),
			"mains":                "image\nfun a.f - int 0\n" + strings.Repeat("main 0\n", n/7),
			"newlines":             "image" + strings.Repeat("\n", n-5),
			"a name":               "image\nfun a." + strings.Repeat("f", n-17) + " - int 0\n",
			"a name of a module":   "image\nfun " + strings.Repeat("f", n-17) + ".a - int 0\n",
			"types":                "image\nfun a.f " + strings.Repeat("int,", n/4) + "int int 0\n",
			"commas":               "image\nfun a.f " + strings.Repeat(",", n) + " int 0\n",
			"points":               "image\nfun a" + strings.Repeat(".", n) + "f - int 0\n",
			"digits":               "image\nfun a.f - int 0\npush " + strings.Repeat("1", n) + "\n",
			"zeros":                "image\nfun a.f - int 0\nmain " + strings.Repeat("0", n) + "\n",
			"blanks":               "image\nfun a.f - int 0\npush" + strings.Repeat(" ", n) + "1\n",
			"images":               strings.Repeat("image\n", n/6),
			"nothing":              strings.Repeat("\x00", n),
			"letters":              strings.Repeat("a", n),
			"behind":               imageText + strings.Repeat(" ", n-len(imageText)),
			"ahead":                strings.Repeat("\n", n-len(imageText)) + imageText,
			"an image, many times": strings.Repeat(imageText, n/len(imageText)),
		} {
			unreadImage(t, what, text)
		}
	}
	// Texts of images that would not be ok, each by one too many; one less is read.
	for _, c := range []struct {
		ahead, line, behind string
		most                int
	}{
		{"image\n", "fun a.f - int 0\n", "", 72}, {"image\n", "fun a.f - int 0\npush 1\n", "main 0\n", 72}, {"image\nfun a.f - int 0\n", "main 0\n", "", 8}, {"image\nfun a.f - int 0\nfun a.g - int 0\nmain 1\n", "main 0\n", "main 1\n", 6},
		{"image\nfun a.f - int 0\n", "push -99999999999999999\n", "", 460}, {"image\nfun a.f - int 0\npush 1\n", "back 0\n", "fun a.g - int 0\nback 0\n", 459}, {"image\nfun a.f - int 0\nfun b.main - int 0\n", "row 1\n", "main 1\n", 460}, {"image\n", "fun abcdefgh.main bool,bool,bool,bool bool 1000\n", "", 72},
		{"image\n", "fun a.f - int 0\n" + strings.Repeat("push 1\n", 460), "", 8}, {"image\nfun b.f - int 0\nback 0\n", "fun a.f - int 0\n" + strings.Repeat("push 1\n", 460), "", 7}, {"image\n", "fun a.f - int 0\n" + strings.Repeat("push 1\n", 51), "", 72}, {"image\nfun a.f int", ",int", " int 0\n", 3},
	} {
		for n := c.most - 2; n <= c.most+2; n++ {
			if ok := checkImageRead(t, c.ahead+strings.Repeat(c.line, n)+c.behind); ok != (n <= c.most) {
				t.Errorf("%d times %.100q is read: %v", n, c.line, ok)
			}
		}
	}
}
