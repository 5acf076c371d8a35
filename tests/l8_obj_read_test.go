package tests

import (
	"math/rand"
	"slices"
	"strconv"
	"strings"
	"testing"

	"loop.example/smithy/impl"
)

// exampleText is the text of an object with something of all.
const exampleText = "object\nref lib.up\nref .f\nfun f pub int,bool row 2\nload 1\nunless 5\nload 0\ncall 0\njump 7\npush -5\nrow 1\nback 0\nfun main own - row 0\npush 10\nflag 1\nkeep 1\nprim 14\ncall 1\nback 0\n"

func TestObjReadExample(t *testing.T) {
	got, ok := impl.ObjRead(exampleText)
	want := impl.CodeObj{Refs: []impl.CodeRef{{Mod: "lib", Name: "up"}, {Name: "f"}}, Funs: []impl.CodeFun{
		{Name: "f", Pub: true, Args: []int{1, 2}, Type: 3, Slots: 2, Code: []impl.CodeIns{{Op: 3, A: 1}, {Op: 7, A: 5}, {Op: 3}, {Op: 8}, {Op: 6, A: 7}, {Op: 1, A: -5}, {Op: 10, A: 1}, {Op: 9}}},
		{Name: "main", Type: 3, Code: []impl.CodeIns{{Op: 1, A: 10}, {Op: 2, A: 1}, {Op: 4, A: 1}, {Op: 5, A: 14}, {Op: 8, A: 1}, {Op: 9}}},
	}}
	if !ok || !sameObj(got, want) || impl.ObjText(want) != exampleText {
		t.Error(got, ok)
	}
	if !checkObjRead(t, exampleText) || !checkObjRead(t, "object\n") {
		t.Error("the test's own text")
	}
}

// unread says that nothing is read of a text.
func unread(t *testing.T, what, text string) {
	t.Helper()
	if got, ok := impl.ObjRead(text); ok || len(got.Refs) != 0 || len(got.Funs) != 0 {
		t.Errorf("%s: ObjRead(%.300q) = %v, %v", what, text, got, ok)
	}
	checkObjRead(t, text)
}

// Lines that are nearly one, each as the only one that is wrong.
func TestObjReadNearly(t *testing.T) {
	asked := 0
	for _, line := range strings.Split(strings.TrimPrefix(`
ref f|ref .|ref|ref |ref lib.|ref  .f|ref . f|ref lib .f|ref lib. f|ref lib f|ref lib.f.g|ref .f.|ref ..f|ref lib..f|ref .f g|ref .f |ref .main|ref main.f|ref .int|ref pub.f|ref .F|ref .f1|ref .abcdefghi|ref abcdefghi.f|Ref .f|refs .f|re .f|REF .f| ref .f|ref, .f|ref-.f|ref.f|.f|ref .f,.g
fun|fun |fun f|fun f own|fun f own -|fun f own - int|fun f own - int |fun f own - int 0 |fun f own - int 0 0|fun f own - int int 0|fun f f own - int 0|fun f own own - int 0|fun f own - - int 0|fun own - int 0|fun f - int 0|fun f own int 0|fun f own - 0|fun f own int row int 0
fun  f own - int 0| fun f own - int 0|fun f  own - int 0|fun f own  - int 0|fun f own -  int 0|fun f own - int  0|fun f own  int 0|fun  own - int 0|fun f  - int 0|fun f own -  0
fun f Own - int 0|fun f OWN - int 0|fun f owns - int 0|fun f PUB - int 0|fun f pubs - int 0|fun f pu - int 0|fun f true - int 0|fun f 1 - int 0|fun f fun - int 0|fun f - - int 0|fun f own,pub - int 0
fun F own - int 0|fun f1 own - int 0|fun lib.f own - int 0|fun .f own - int 0|fun f. own - int 0|fun int own - int 0|fun fun own - int 0|fun abcdefghi own - int 0|fun Main own - int 0|Fun f own - int 0|funs f own - int 0|fu f own - int 0|f own - int 0|fun(f own - int 0
fun f own --  int 0|fun f own -- int 0|fun f own + int 0|fun f own () int 0|fun f own -int int 0|fun f own int- int 0|fun f own -,int int 0|fun f own int,- int 0|fun f own - int, 0|fun f own -, int 0|fun f own ,- int 0|fun f own nil int 0|fun f own 0 int 0
fun f own int, int 0|fun f own ,int int 0|fun f own , int 0|fun f own ,, int 0|fun f own int,,int int 0|fun f own int;int int 0|fun f own int, int int 0|fun f own int ,int int 0|fun f own int.int int 0|fun f own intint int 0|fun f own Int int 0|fun f own ints int 0|fun f own in int 0|fun f own num int 0|fun f own 1 int 0|fun f own int,num int 0|fun f own int,int,int,int,int int 0|fun f own -int,int int 0
fun f own - INT 0|fun f own - ints 0|fun f own - in 0|fun f own - num 0|fun f own - 1 0|fun f own - - 0|fun f own - int,int 0|fun f own - main 0|fun f own - f 0
fun f own - int 00|fun f own - int 01|fun f own - int 010|fun f own - int +1|fun f own - int -0|fun f own - int -1|fun f own - int 1001|fun f own - int 2000|fun f own - int 1.0|fun f own - int 1e2|fun f own - int 0x1|fun f own - int 1_0|fun f own - int 1,0|fun f own - int -|fun f own - int +|fun f own - int x|fun f own - int 99999999999999999|fun f own - int 18446744073709551616|fun f own - int 18446744073709551617|fun f own - int 4294967296|fun f own - int ０|fun f own - int 1000000000000000000000000000000
`, "\n"), "\n") {
		for _, line := range strings.Split(line, "|") {
			asked++
			unread(t, "alone", "object\n"+line+"\n")
			unread(t, "behind a ref", "object\nref lib.g\n"+line+"\n")
			unread(t, "behind a function", "object\nfun g own - int 0\n"+line+"\n")
			unread(t, "ahead of a function", "object\n"+line+"\nfun g own - int 0\n")
			unread(t, "among instructions", "object\nfun g own - int 0\npush 1\n"+line+"\nback 0\n")
		}
	}
	if asked < 150 {
		t.Error(asked)
	}
}

// Instructions that are nearly one, each as the only one that is wrong.
func TestObjReadNearlyIns(t *testing.T) {
	for _, line := range strings.Split("push|push |push  1|push 1 | push 1|push 1 2|push 01|push 00|push -0|push -01|push +1|push --1|push - 1|push -|push +|push 1-|push 1.0|push .1|push 1e3|push 0x1|push 1_000|push 1,0|push x|push true|push １|push 100000000000000000|push -100000000000000000|push 000000000000000001|push 9223372036854775807|push -9223372036854775808|push 18446744073709551617|push1|push,1|push.1|push-1|Push 1|PUSH 1|pushs 1|pus 1|1|1 1|0 1|-1|+ 1|push push 1|push 1 push 2|push int|"+
		"flag 2|flag -1|flag -0|flag 00|flag 01|flag true|flag|flag 10|flag +1|Flag 1|flags 1|fla 1|back 1|back -1|back|back -0|back 00|back 10|back 0 0|Back 0|ret 0|return 0|"+
		"load -1|load 1001|load 01|load 1e1|load x|load|load 10000|load 99999999999999999|load 4294967296|keep -1|keep 1001|keep 00|store 0|kee 0|keep|prim -1|prim 1001|prim +|prim print|prim 09|prim|jump -1|jump 1001|jump 0000|jum 0|goto 0|jump|unless -1|unless 1001|unles 0|if 0|unless|call -1|call 1001|call f|call .f|call lib.f|cal 0|call|row -1|row 1001|row (|rows 0|row|add 1|nop 0|halt 0|x 1|use lib|main 1|end|object 1|object |objec|objects|Object|image|- 1|own|pub", "|") {
		unread(t, "alone", "object\nfun g own - int 0\n"+line+"\n")
		unread(t, "ahead of one", "object\nfun g own - int 0\n"+line+"\npush 1\n")
		unread(t, "behind one", "object\nfun g own - int 0\npush 1\n"+line+"\n")
		unread(t, "in the second", "object\nfun g own - int 0\nfun h own - int 0\n"+line+"\n")
		unread(t, "in the first", "object\nfun g own - int 0\n"+line+"\nfun h own - int 0\n")
	}
	// An instruction stands in a function, a ref ahead of all of them, and object ahead of all.
	for _, text := range []string{
		"object\npush 1\n", "object\nback 0\n", "object\nref .f\nback 0\n", "object\npush 1\nfun f own - int 0\n", "object\nref .f\ncall 0\nfun f own - int 0\n", "push 1\nobject\n", "back 0\n",
		"ref .f\n", "ref .f\nobject\n", "ref .f\nfun f own - int 0\n", "fun f own - int 0\n", "fun f own - int 0\nobject\n", "fun f own - int 0\nback 0\n", "object\nfun f own - int 0\nref .f\n", "object\nfun f own - int 0\nback 0\nref .f\n", "object\nref .g\nfun f own - int 0\nref .f\nback 0\n",
		"object\nobject\n", "object\nobject\nref .f\n", "object\nref .f\nobject\n", "object\nfun f own - int 0\nobject\n", "object\nfun f own - int 0\nback 0\nobject\n", "object\nref .f\nobject\nfun f own - int 0\n",
	} {
		unread(t, "another place", text)
	}
}

// The ends of a text, and what else is between its words.
func TestObjReadBlanks(t *testing.T) {
	for _, text := range []string{
		"", " ", "\n", "\n\n", "object", "object\n\n", "\nobject\n", " object\n", "object \n", "object\n ", "object\n \n", "object\r\n", "object\n\r", "object\r", "object\x00\n", "object\n\x00", "object\t\n", "Object\n", "objec\n", "objects\n", "obj\n", "object 0\n", "object;\n", "object,ref .f\n", "object ref .f\n", "object\vref .f\n", "\xef\xbb\xbfobject\n", "object\u2028", "object\\n",
		"o", "image\n", "true", "(main 1)", "f()int\n", "é", "\xff", "\x00", "\xff\n", "object\n\xff\n", "object\né\n", "ref", "fun", "push", "push 1", "fun f own - int 0",
	} {
		unread(t, "short", text)
	}
	for _, text := range []string{"object\n", "object\nref .f\n", "object\nfun f own - int 0\n", exampleText} {
		// A newline missing at the very end, one more, a carriage return.
		for _, end := range []string{"", "\n\n", "\r\n", "\n\r", " \n", "\n ", "\t\n", "\x00", "\n\x00", "\n.", "\n\n\n", "\r", "\v", "\f", "\n\t"} {
			unread(t, "at the end", strings.TrimSuffix(text, "\n")+end)
		}
		for _, ahead := range []string{"\n", " ", "\t", "\r\n", "\x00", "\ufeff", "\nobject\n", "ref .f\n", "x", "."} {
			unread(t, "ahead", ahead+text)
		}
		unread(t, "carriage returns", strings.ReplaceAll(text, "\n", "\r\n"))
		unread(t, "a text twice", text+text)
		unread(t, "newlines twice", strings.ReplaceAll(text, "\n", "\n\n"))
		unread(t, "letters", strings.ToUpper(text))
		for i, sign := range text {
			if sign != ' ' && sign != '\n' {
				continue
			}
			// Another blank in the place of each one, more than one, none.
			for _, blank := range []string{"", "  ", " \t", "\t", "\n", "\r", " \n", "\n ", "\v", "\f", "\u00a0", "\u2003", "\x00", ",", "-"} {
				if unreadable := text[:i] + blank + text[i+1:]; unreadable != text {
					unread(t, "another blank", unreadable)
				}
			}
		}
	}
}

// A line that is left out, there twice, or in another place.
func TestObjReadLines(t *testing.T) {
	lines := strings.SplitAfter(strings.TrimSuffix(exampleText, "\n"), "\n")
	lines[len(lines)-1] += "\n"
	read := 0
	look := func(what string, lines []string, want bool) {
		t.Helper()
		if checkObjRead(t, strings.Join(lines, "")) != want {
			t.Errorf("%s: %q is read: %v", what, lines, !want)
		}
		if want {
			read++
		}
	}
	head := func(i int) string { return strings.Fields(lines[i])[0] }
	for i := range lines {
		// Without its first line, or with that twice, it is none; the instructions of a function that
		// is left out are the last one's then, if there is one.
		look("left out", slices.Delete(slices.Clone(lines), i, i+1), i > 0 && i != 3)
		look("twice", slices.Insert(slices.Clone(lines), i, lines[i]), i > 0)
		look("cut off", lines[:i], i > 0)
		look("without a beginning", lines[i:], i == 0)
		for j := range lines {
			moved := slices.Insert(slices.Delete(slices.Clone(lines), i, i+1), j, lines[i])
			text, own := strings.Join(moved, ""), strings.Join(lines, "")
			// Refs have their places among each other, instructions in any function.
			want := strings.HasPrefix(text, "object\n") && strings.Count(text[:strings.Index(text, "fun")], "\n") == 3 && strings.LastIndex(text, "ref") < strings.Index(text, "fun")
			look("moved "+head(i)+" to "+strconv.Itoa(j), moved, want)
			if got, ok := impl.ObjRead(text); ok && text != own && impl.ObjText(got) == own {
				t.Error("two texts of one object", i, j)
			}
		}
	}
	if read < 100 {
		t.Error(read)
	}
}

// With one byte anywhere missing, twice there, turned into another, or put in, nothing else is read.
func TestObjReadEveryByte(t *testing.T) {
	read, not := 0, 0
	look := func(text string) {
		if checkObjRead(t, text) {
			read++
		} else {
			not++
		}
	}
	for _, text := range []string{"", "object\n", "object\nref lib.f\nref .g\nfun f pub int,row bool 10\npush -7\nflag 1\nback 0\nfun main own - int 0\nload 1\n"} {
		look(text)
		for i := range len(text) {
			look(text[:i])
			look(text[i:])
			look(text[:i] + text[i+1:])
			look(text[:i] + text[i:i+1] + text[i:])
			if i > 0 {
				look(text[:i-1] + text[i:i+1] + text[i-1:i] + text[i+1:])
			}
		}
		for b := range 256 {
			sign := string([]byte{byte(b)})
			for i := range len(text) {
				look(text[:i] + sign + text[i+1:])
			}
			for i := range len(text) + 1 {
				look(text[:i] + sign + text[i:])
			}
		}
	}
	if read < 500 || not < 40000 {
		t.Error(read, not)
	}
}

// Every short run of what a text may be made of.
func TestObjReadEvery(t *testing.T) {
	read := 0
	var grow func(text string, parts []string, left int)
	grow = func(text string, parts []string, left int) {
		if checkObjRead(t, text) {
			read++
		}
		if left == 0 {
			return
		}
		for _, part := range parts {
			grow(text+part, parts, left-1)
		}
	}
	grow("", []string{"object\n", "object", "ref .f\n", "fun f pub - int 0\n", "push 1\n", "back 0\n", "\n"}, 5)
	grow("object\nref ", []string{"a", ".", " ", "main", "\n"}, 5)
	grow("object\nfun ", []string{"f", " ", "own", "-", "int", "0", "\n"}, 5)
	grow("object\nfun f own ", []string{"int", ",", "-", " ", "int 0\n"}, 6)
	grow("object\nfun f own - int 0\npush", []string{" ", "-", "0", "1", "+", "\n"}, 6)
	if read < 100 {
		t.Error(read)
	}
}

// Of a text with as many bytes as there may be, or more, nothing is read: none of an object has so many.
func TestObjReadLong(t *testing.T) {
	for _, n := range []int{29999, 30000, 30001, 100000} {
		for what, text := range map[string]string{
			"refs":                 "object\n" + strings.Repeat("ref .f\n", n/7),
			"functions":            "object\n" + strings.Repeat("fun f own - int 0\n", n/18),
			"instructions":         "object\nfun f own - int 0\n" + strings.Repeat("push 1\n", n/7),
			"newlines":             "object" + strings.Repeat("\n", n-6),
			"a name":               "object\nref ." + strings.Repeat("f", n-13) + "\n",
			"a name of a function": "object\nfun " + strings.Repeat("f", n) + " own - int 0\n",
			"types":                "object\nfun f own " + strings.Repeat("int,", n/4) + "int int 0\n",
			"commas":               "object\nfun f own " + strings.Repeat(",", n) + " int 0\n",
			"digits":               "object\nfun f own - int 0\npush " + strings.Repeat("1", n) + "\n",
			"zeros":                "object\nfun f own - int 0\npush " + strings.Repeat("0", n) + "\n",
			"signs":                "object\nfun f own - int 0\npush " + strings.Repeat("-", n) + "1\n",
			"blanks":               "object\nfun f own - int 0\npush" + strings.Repeat(" ", n) + "1\n",
			"objects":              strings.Repeat("object\n", n/7),
			"nothing":              strings.Repeat("\x00", n),
			"letters":              strings.Repeat("a", n),
			"behind":               exampleText + strings.Repeat(" ", n-len(exampleText)),
			"ahead":                strings.Repeat("\n", n-len(exampleText)) + exampleText,
		} {
			unread(t, what, text)
		}
	}
	// Texts of objects that would not be ok, each by one too many; one less is read.
	for _, c := range []struct {
		ahead, line, behind string
		most                int
	}{
		{"object\n", "ref abcdefgh.abcdefgh\n", "", 40}, {"object\n", "ref .f\n", "fun f own - int 0\nback 0\n", 40}, {"object\n", "fun f own - int 0\n", "", 9}, {"object\nref .f\n", "fun f own - int 0\npush 1\n", "", 9},
		{"object\nfun f own - int 0\n", "push -99999999999999999\n", "", 460}, {"object\nfun f own - int 0\npush 1\n", "back 0\n", "fun g own - int 0\nback 0\n", 458}, {"object\nfun f own - int 0\nfun main own - int 0\n", "row 1\n", "", 460}, {"object\n", "fun main pub row,row,row,row row 1000\n", "", 9},
		{"object\nfun f pub int", ",int", " int 0\n", 3},
	} {
		for n := c.most - 2; n <= c.most+2; n++ {
			if ok := checkObjRead(t, c.ahead+strings.Repeat(c.line, n)+c.behind); ok != (n <= c.most) {
				t.Errorf("%d times %q is read: %v", n, c.line, ok)
			}
		}
	}
}

// Texts of objects in which something is turned.
func TestObjReadRandom(t *testing.T) {
	r := rand.New(rand.NewSource(50))
	parts := []string{"\n", " ", ".", ",", "-", "0", "1", "7", "int", "row", "a", "own", "pub", "object\n", "ref .f\n", "fun f own - int 0\n", "push 1\n", "back 0\n", "", "", "\x00", "\xff", "\r"}
	read, not := 0, 0
	for range 10000 {
		text := impl.ObjText(randomObj(r))
		for range r.Intn(3) {
			i := r.Intn(len(text) + 1)
			j := i + r.Intn(min(8, len(text)-i)+1)
			text = text[:i] + parts[r.Intn(len(parts))] + text[j:]
		}
		if checkObjRead(t, text) {
			read++
		} else {
			not++
		}
	}
	if read < 2000 || not < 2000 {
		t.Error(read, not)
	}
}
