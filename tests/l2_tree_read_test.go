package tests

import (
	"math/rand"
	"slices"
	"strconv"
	"strings"
	"testing"

	"loop.example/smithy/impl"
)

// bit is a word, or bits in brackets.
type bit struct {
	word string
	in   []bit
}

// bitsOf is the bits that words are, how many words that took, and whether all brackets among these close.
func bitsOf(words []string, inside bool) ([]bit, int, bool) {
	var out []bit
	for i := 0; i < len(words); i++ {
		switch words[i] {
		case ")":
			return out, i, inside
		case "(":
			in, n, ok := bitsOf(words[i+1:], true)
			if !ok {
				return nil, 0, false
			}
			out = append(out, bit{"", in})
			i += n + 1
		default:
			out = append(out, bit{words[i], nil})
		}
	}
	return out, len(words), !inside
}

func (b bit) head() string {
	if b.word != "" || len(b.in) == 0 {
		return ""
	}
	return b.in[0].word
}

// plainRead reads by another way than the program: brackets first, then forms.
func plainRead(text string) (impl.TreeMod, int) {
	words, ok := impl.LexCut(text)
	if !ok {
		return impl.TreeMod{}, impl.TreeText
	}
	bits, _, ok := bitsOf(words, false)
	m := impl.TreeMod{}
	if ok && len(bits) > 0 && bits[0].head() == "use" {
		for _, b := range bits[0].in[1:] {
			m.Uses = append(m.Uses, b.word)
			ok = ok && impl.LexName(b.word)
		}
		ok = ok && len(m.Uses) > 0
		bits = bits[1:]
	}
	for ok && len(bits) > 0 && (bits[0].head() == "fun" || bits[0].head() == "pub") {
		var f impl.TreeFun
		f, ok = plainFun(bits[0].in)
		m.Funs = append(m.Funs, f)
		bits = bits[1:]
	}
	if ok && len(bits) > 0 && bits[0].head() == "main" && len(bits[0].in) == 2 {
		e, fine := plainExpr(bits[0].in[1])
		m.Main = append(m.Main, e)
		ok = fine
		bits = bits[1:]
	}
	switch {
	case !ok || len(bits) > 0:
		return impl.TreeMod{}, impl.TreeForm
	case !plainOk(m):
		return impl.TreeMod{}, impl.TreeWrong
	}
	return m, 0
}

func plainTypeOf(word string) int { return slices.Index([]string{"int", "bool", "row"}, word) + 1 }

func plainFun(in []bit) (impl.TreeFun, bool) {
	if len(in) != 5 || in[2].word != "" || !impl.LexName(in[1].word) {
		return impl.TreeFun{}, false
	}
	f := impl.TreeFun{Pub: in[0].word == "pub", Name: in[1].word, Type: plainTypeOf(in[3].word)}
	ok := f.Type > 0
	for _, b := range in[2].in {
		if b.word != "" || len(b.in) != 2 {
			return f, false
		}
		arg := impl.TreeArg{Name: b.in[0].word, Type: plainTypeOf(b.in[1].word)}
		f.Args = append(f.Args, arg)
		ok = ok && arg.Type > 0 && impl.LexName(arg.Name)
	}
	body, fine := plainExpr(in[4])
	f.Body = body
	return f, ok && fine
}

func plainExpr(b bit) (impl.TreeExpr, bool) {
	if n, err := strconv.Atoi(b.word); err == nil && strconv.Itoa(n) == b.word && n > -100000000000000000 && n < 100000000000000000 {
		return num(n), true
	}
	switch {
	case b.word == "true" || b.word == "false":
		return flag(strings.Count(b.word, "r")), true
	case b.word != "":
		return variable(b.word), impl.LexName(b.word)
	case b.head() == "":
		return impl.TreeExpr{}, false
	}
	e, rest := impl.TreeExpr{Kind: impl.TreeCall, Name: b.head()}, b.in[1:]
	switch {
	case slices.Contains(strings.Fields(primWords), e.Name):
		e.Kind = impl.TreePrim
	case e.Name == "if":
		e = impl.TreeExpr{Kind: impl.TreeIf}
	case e.Name == "row":
		e = impl.TreeExpr{Kind: impl.TreeList}
	case e.Name == "let":
		if len(rest) == 0 || !impl.LexName(rest[0].word) {
			return e, false
		}
		e = impl.TreeExpr{Kind: impl.TreeLet, Name: rest[0].word}
		rest = rest[1:]
	case !impl.LexName(e.Name):
		mod, name, ok := impl.LexDot(e.Name)
		if !ok {
			return e, false
		}
		e.Mod, e.Name = mod, name
	}
	for _, kid := range rest {
		k, ok := plainExpr(kid)
		if !ok {
			return e, false
		}
		e.Kids = append(e.Kids, k)
	}
	return e, true
}

// checkRead holds what is read of a text against the other way to read, and tells the code.
func checkRead(t *testing.T, text string) int {
	t.Helper()
	want, wantCode := plainRead(text)
	got, code := impl.TreeRead(text)
	if code != wantCode || !plainSame(got, want) {
		t.Fatalf("TreeRead(%.300q) = %+v, %d; want %+v, %d", text, got, code, want, wantCode)
	}
	if code == 0 {
		printed := impl.TreePrint(got)
		again, code := impl.TreeRead(printed)
		if !impl.TreeOk(got) || code != 0 || !plainSame(again, got) {
			t.Fatalf("%.300q is read as what is not ok, or prints as %q", text, printed)
		}
	}
	return code
}

func TestTreeReadCodes(t *testing.T) {
	long := strings.Repeat(" ", 4000)
	for _, c := range []struct {
		code  int
		texts []string
	}{
		{0, []string{"", " ", "\n \n", long, "(use a)", "(use a b c d)", "(main 1)", "( main\n1 )", "(fun f () int 1)", "(pub f ((x row)) bool (not true))", "(use a)(fun f()int 1)(main(f))",
			"(main (row))", "(main (f))", "(main (a.b))", "(main x)", "(main (let x 1 x))", "(main (+ 1 2))", "(main (- 1 2))", "(main -1)", "(main -99999999999999999)",
			"(fun f ((f int)) int 1)", "(use f)(fun f () int (f.f))", "(fun f () int true)", "(fun f () int (nope.none 1 2 3 4))", "(main (f 1 2 3 4))"}},
		{impl.TreeText, []string{"\t", "(main 1)\r\n", "(main 1)\x00", "é", long + " ", "(main 1)" + long, strings.Repeat("(", 1501), "(main \x80)", "(main)\t", "(use a a)\t", "\xff(main 1)"}},
		{impl.TreeForm, []string{
			"(", ")", "()", "(())", "x", "1", "true", "main", "main 1", "(main 1", "(main 1))", "((main 1)", "((main 1))", "(main)", "(main 1 2)", "(main 1)(main 1)", "(main 1) 1", "1 (main 1)", "(main 1)()",
			"(main ())", "(main (1))", "(main (1 2))", "(main ((f) 1))", "(main (true))", "(main (false 1))", "(main (-1 2))", "(main ((+) 1 2))",
			"(use)", "(use use)", "(use 1)", "(use a.b)", "(use (a))", "(use a ())", "(use A)", "(use abcdefghi)", "(use a)(use b)", "(use a", "use a", "(use not)", "(use +)",
			"(main 1)(use a)", "(fun f () int 1)(use a)", "(main 1)(fun f () int 1)", "(main 1)(pub f () int 1)",
			"(fun)", "(fun f)", "(fun f ())", "(fun f () int)", "(fun f () 1)", "(fun f int 1)", "(fun () int 1)", "(fun f () int 1 2)", "(fun f () int int)", "(fun f () int ())",
			"(fun f () num 1)", "(fun f () x 1)", "(fun f () (int) 1)", "(fun f (x) int 1)", "(fun f (x int) int 1)", "(fun f ((x)) int 1)", "(fun f ((int)) int 1)", "(fun f ((int x)) int 1)", "(fun f ((x int int)) int 1)",
			"(fun f ((x int) y) int 1)", "(fun f (()) int 1)", "(fun f ((x (int))) int 1)", "(fun f x int 1)", "(fun f ((not int)) int 1)", "(fun use () int 1)", "(fun main () int 1)", "(pub row () int 1)", "(fun a.b () int 1)", "(fun f () int 1", "(fun f () int 1))", "(fun (f) () int 1)",
			"(funs f () int 1)", "(public f () int 1)", "(Main 1)", "(mains 1)", "(let x 1 2)", "(f)", "(not true)",
			"(main use)", "(main int)", "(main row)", "(main not)", "(main +)", "(main if)", "(main a.b)", "(main A)", "(main abcdefghi)", "(main -)", "(main 01)", "(main -0)", "(main 1.5)", "(main 100000000000000000)", "(main -100000000000000000)", "(main 9223372036854775808)",
			"(main (let))", "(main (let 1 2 3))", "(main (let (x) 1 2))", "(main (let not 1 2))", "(main (let a.b 1 2))", "(main (let x 1 let))", "(main (use 1))", "(main (fun 1))", "(main (int 1))", "(main (main 1))", "(main (A 1))", "(main (abcdefghi))", "(main (a.b.c 1))", "(main (.a))", "(main (a.))", "(main (a.not 1))", "(main (row.a 1))", "(main (> 1 2))", "(main (== 1 2))",
			strings.Repeat("(", 1500), strings.Repeat(")", 1500), strings.Repeat("(main ", 600), strings.Repeat("x ", 1500)}},
		{impl.TreeWrong, []string{
			"(use a a)", "(use a b c d e)", "(use a b a)", "(fun f () int 1)(fun f () int 1)", "(fun f () int 1)(pub f () int 1)", "(fun f ((x int) (x int)) int 1)", "(fun f ((x int) (y int) (x row)) int 1)",
			"(fun f ((a int) (b int) (c int) (d int) (e int)) int 1)", strings.Join(nineFuns(), "\n"),
			"(main (not))", "(main (not 1 2))", "(main (+))", "(main (+ 1))", "(main (+ 1 2 3))", "(main (put 1 2))", "(main (put 1 2 3 4))", "(main (print))", "(main (at 1))", "(main (and true))", "(main (or true true true))",
			"(main (if))", "(main (if 1))", "(main (if 1 2))", "(main (if 1 2 3 4))", "(main (let x))", "(main (let x 1))", "(main (let x 1 2 3))", "(main (f 1 2 3 4 5))", "(main (a.f 1 2 3 4 5))", "(main (row 1 2 3 4 5 6 7 8 9))",
			"(main (+ 1 (row (not))))", "(fun f () int (if))", "(main " + strings.Repeat("(not ", 16) + "1" + strings.Repeat(")", 16) + ")", "(main (row" + strings.Repeat(" (row 1 1 1 1 1 1 1 1)", 100) + "))"}},
	} {
		for _, text := range c.texts {
			got, code := impl.TreeRead(text)
			if code != c.code {
				t.Errorf("TreeRead(%.60q) tells %d; want %d", text, code, c.code)
			}
			if code != 0 && !plainSame(got, impl.TreeMod{}) {
				t.Errorf("TreeRead(%.60q) tells %d beside %v", text, code, got)
			}
			if code == c.code {
				checkRead(t, text)
			}
		}
	}
}

func nineFuns() []string {
	var all []string
	for _, name := range names(9) {
		all = append(all, "(fun "+name+" () int 1)")
	}
	return all
}

// Of two codes that might be told the one that is listed first is.
func TestTreeReadOrder(t *testing.T) {
	for _, c := range []struct {
		code int
		text string
	}{
		{impl.TreeForm, "(use a a)(main)"}, {impl.TreeForm, "(use a a)(use b)"}, {impl.TreeForm, "(main (not 1 2)"}, {impl.TreeForm, "(main (not 1 A))"}, {impl.TreeForm, "(main (if 1 2 use))"},
		{impl.TreeForm, "(fun f ((x int) (x int)) num 1)"}, {impl.TreeForm, strings.Join(nineFuns(), "") + "x"}, {impl.TreeForm, "(main (row 1 1 1 1 1 1 1 1 1 -0))"}, {impl.TreeForm, "(main " + strings.Repeat("(not ", 20) + strings.Repeat(")", 19) + ")"},
		{impl.TreeForm, "(use b b)(fun f (x) int 1)"}, {impl.TreeForm, "(main (let not))"}, {impl.TreeForm, "(main (let x 1 2 3 4 100000000000000000))"},
		{impl.TreeText, "(use a a)(main)\t"}, {impl.TreeText, "\x7f(main (not 1 2)"}, {impl.TreeText, "(main" + strings.Repeat(" ", 4000)}, {impl.TreeText, strings.Repeat("( ", 1501)}, {impl.TreeText, "(use a" + strings.Repeat(" a", 1498) + ")"},
		{impl.TreeWrong, "(use a" + strings.Repeat(" a", 1496) + ")"}, {impl.TreeForm, "(use a" + strings.Repeat(" a", 1497)},
	} {
		if code := checkRead(t, c.text); code != c.code {
			t.Errorf("TreeRead(%.60q) tells %d; want %d", c.text, code, c.code)
		}
	}
}

// Bounds of the text: blanks fill it up to its last byte, uses to its last word.
func TestTreeReadBounds(t *testing.T) {
	s := "(use lib)(main (print (lib.sum (row 1 -2))))"
	want, code := impl.TreeRead(s)
	if code != 0 {
		t.Fatal(code)
	}
	for _, blank := range []string{" ", "\n"} {
		for _, n := range []int{3999, 4000, 4001} {
			fill := strings.Repeat(blank, n-len(s))
			for _, text := range []string{fill + s, s + fill, "(use" + fill + s[4:]} {
				got, code := impl.TreeRead(text)
				switch {
				case n <= 4000 && (code != 0 || !plainSame(got, want)):
					t.Error("filled", n, code)
				case n > 4000 && (code != impl.TreeText || !plainSame(got, impl.TreeMod{})):
					t.Error("too long", n, code)
				}
			}
		}
	}
	for n := 1498; n <= 1502; n++ {
		text := "(use" + strings.Repeat(" a", n-3) + ")"
		want := impl.TreeWrong
		if n > 1500 {
			want = impl.TreeText
		}
		if _, code := impl.TreeRead(text); code != want {
			t.Error("words", n, code)
		}
	}
	for n := 14; n <= 18; n++ {
		code := checkRead(t, "(main "+strings.Repeat("(f ", n-1)+"1"+strings.Repeat(")", n-1)+")")
		if (code == 0) != (n <= 16) {
			t.Error("depth", n, code)
		}
	}
	for n := 148; n <= 152; n++ {
		m := mainOf(spread(n))
		text := strings.ReplaceAll(spelled(m.Main[0]), "  ", " ")
		code := checkRead(t, "(main "+text+")")
		if (code == 0) != (n <= 150) || n > 150 && code != impl.TreeWrong {
			t.Error("nodes", n, code)
		}
	}
}

// spelled writes a list of lists and numbers, ok or not.
func spelled(e impl.TreeExpr) string {
	if e.Kind == impl.TreeNum {
		return strconv.Itoa(e.Num)
	}
	text := "(row"
	for _, kid := range e.Kids {
		text += " " + spelled(kid)
	}
	return text + ")"
}

// Every short run of words, alone and within the forms.
func TestTreeReadEvery(t *testing.T) {
	codes := map[int]int{}
	every := func(pool string, size int, ahead, behind string) {
		words := strings.Fields(pool)
		var grow func(text string, left int)
		grow = func(text string, left int) {
			codes[checkRead(t, ahead+text+behind)]++
			if left == 0 {
				return
			}
			for _, w := range words {
				grow(text+" "+w, left-1)
			}
		}
		grow("", size)
	}
	every("( ) use fun main f int 1", 5, "", "")
	every("( ) use fun pub main f row true let", 4, "", "")
	every("( ) f let if not true a.b row 1 + int", 5, "(main", ")")
	every("( ) f let put 1", 5, "(main", ")")
	every("( ) x let + 1", 7, "(main (", ")")
	every("( ) x row int 1 f", 6, "(fun f", ")")
	every("( ) x row int 1", 6, "(pub f (", "int 1)")
	every("( ) a b use", 4, "(use", ") (main 1)")
	if codes[0] < 150 || codes[impl.TreeForm] < 10000 || codes[impl.TreeWrong] < 200 {
		t.Error(codes)
	}
}

func randomSwap(r *rand.Rand, words []string) []string {
	pool := strings.Fields("( ) ( ) use fun pub main int bool row if let true false and not at put x f a.b a.b.c 0 -7 -0 100000000000000000 + < A ab. .")
	words = slices.Clone(words)
	at := r.Intn(len(words) + 1)
	word := pool[r.Intn(len(pool))]
	if at == len(words) {
		return append(words, word)
	}
	switch r.Intn(5) {
	case 0:
		return slices.Delete(words, at, at+1)
	case 1:
		words[at] = word
	case 2:
		return slices.Insert(words, at, word)
	case 3:
		return slices.Insert(words, at, words[at])
	case 4:
		other := r.Intn(len(words))
		words[at], words[other] = words[other], words[at]
	}
	return words
}

// blanks are spaces and newlines, at least so many.
func blanks(r *rand.Rand, least int) string {
	var text strings.Builder
	for range least + r.Intn(3) {
		text.WriteByte(" \n"[r.Intn(2)])
	}
	return text.String()
}

// respaced writes words with blanks between, none only where a bracket is.
func respaced(r *rand.Rand, words []string) string {
	text := blanks(r, 0)
	for i, word := range words {
		if i > 0 {
			bracket := strings.ContainsAny(words[i-1]+word, "()")
			if bracket {
				text += blanks(r, 0)
			} else {
				text += blanks(r, 1)
			}
		}
		text += word
	}
	return text + blanks(r, 0)
}

// P3 and P4 with texts of modules in which words are turned: they read the same, or tell the same code, whatever the blanks.
func TestTreeReadRandom(t *testing.T) {
	r := rand.New(rand.NewSource(7))
	codes := map[int]int{}
	for range 6000 {
		words, ok := impl.LexCut(impl.TreePrint(randomMod(r)))
		if !ok {
			t.Fatal("uncut")
		}
		for range r.Intn(3) {
			words = randomSwap(r, words)
		}
		plain := impl.LexJoin(words)
		code := checkRead(t, plain)
		codes[code]++
		m, _ := impl.TreeRead(plain)
		for range 3 {
			text := respaced(r, words)
			if len(text) > impl.LexMaxText {
				continue
			}
			got, other := impl.TreeRead(text)
			if other != code || !plainSame(got, m) || !impl.TreeSame(got, m) {
				t.Fatalf("blanks show: %q is read as %q with %d, %q with %d", text, impl.TreePrint(got), other, plain, code)
			}
		}
	}
	if codes[0] < 1500 || codes[impl.TreeForm] < 1000 || codes[impl.TreeWrong] < 100 {
		t.Error(codes)
	}
}

// P4 at each place: between any two words, ahead and behind.
func TestTreeReadBlanks(t *testing.T) {
	words, _ := impl.LexCut("(use a b)(pub f ((x int)(y row)) bool (let z (at y x)(< z -1)))(main (a.g true (row)))")
	want, code := impl.TreeRead(impl.LexJoin(words))
	if code != 0 {
		t.Fatal(code)
	}
	for i := range len(words) + 1 {
		for _, blank := range []string{" ", "\n", "  ", " \n", "\n \n", strings.Repeat("\n", 500), strings.Repeat(" ", 3000)} {
			text := strings.Join(words[:i], " ") + blank + strings.Join(words[i:], " ")
			got, code := impl.TreeRead(text)
			if code != 0 || !plainSame(got, want) {
				t.Errorf("%q at %d: %d", blank, i, code)
			}
		}
	}
	for _, text := range []string{strings.Join(words, "\n"), "\n" + strings.Join(words, "\n\n") + "\n", "(use a b)(pub f((x int)(y row))bool(let z(at y x)(< z -1)))(main(a.g true(row)))"} {
		if got, code := impl.TreeRead(text); code != 0 || !plainSame(got, want) {
			t.Errorf("%q: %d", text, code)
		}
	}
	// A blank within a word makes two of it.
	for _, text := range []string{"(ma in 1)", "(main (a. g))", "(main (a .g))", "(main - 1)", "(main (< = 1 2))"} {
		if _, code := impl.TreeRead(text); code == 0 {
			t.Errorf("%q is read", text)
		}
	}
}

// Whatever bytes there are, nothing panics.
func TestTreeReadBytes(t *testing.T) {
	r := rand.New(rand.NewSource(8))
	for range 3000 {
		text := []byte(impl.TreePrint(randomMod(r)))
		for range 1 + r.Intn(3) {
			if len(text) > 0 {
				text[r.Intn(len(text))] = byte(r.Intn(256))
			}
		}
		checkRead(t, string(text))
		checkRead(t, string(text[:r.Intn(len(text)+1)]))
	}
}

// texts is all texts of a module.
func texts(m impl.TreeMod) []string {
	all := slices.Clone(m.Uses)
	var expr func(e impl.TreeExpr)
	expr = func(e impl.TreeExpr) {
		all = append(all, e.Name, e.Mod)
		for _, kid := range e.Kids {
			expr(kid)
		}
	}
	for _, f := range m.Funs {
		all = append(all, f.Name)
		for _, a := range f.Args {
			all = append(all, a.Name)
		}
		expr(f.Body)
	}
	for _, e := range m.Main {
		expr(e)
	}
	return all
}

// spoiled writes over all lists of a module, spare room included, and tells how many lists there were.
func spoiled(m impl.TreeMod) int {
	lists := 1
	fill := impl.TreeExpr{Kind: -9, Num: -9, Name: "spoiled", Mod: "spoiled"}
	var exprs func(list []impl.TreeExpr)
	exprs = func(list []impl.TreeExpr) {
		for _, e := range list {
			exprs(e.Kids)
		}
		for i := range list[:cap(list)] {
			list[:cap(list)][i] = fill
		}
		lists++
	}
	for _, f := range m.Funs {
		for i := range f.Args[:cap(f.Args)] {
			f.Args[:cap(f.Args)][i] = impl.TreeArg{Name: "spoiled", Type: -9}
		}
		exprs(f.Body.Kids)
	}
	exprs(m.Main)
	for i := range m.Funs[:cap(m.Funs)] {
		m.Funs[:cap(m.Funs)][i] = impl.TreeFun{Name: "spoiled", Body: fill}
	}
	for i := range m.Uses[:cap(m.Uses)] {
		m.Uses[:cap(m.Uses)][i] = "spoiled"
	}
	return lists
}

func TestTreeReadNew(t *testing.T) {
	r := rand.New(rand.NewSource(9))
	for range 300 {
		m := randomMod(r)
		text := strings.Clone(impl.TreePrint(m))
		got, _ := impl.TreeRead(text)
		for _, part := range texts(got) {
			if overlap(part, text) {
				t.Fatalf("%q shares the text's memory", part)
			}
		}
		other, _ := impl.TreeRead(text)
		spoiled(got)
		if !plainSame(other, m) {
			t.Fatal("two answers share memory")
		}
	}
	// What one list has behind its end is not another one's.
	text := "(use a b c)(fun f ((x int)(y int)(z int)) int (+ (row 1 2 3) (row 4 5 6)))(fun g ((x int)(y int)(z int)) int (row 1 (row 2 2 2 2 2) 3))(fun h () int 1)(main (row 1 2 3 4 5))"
	m, _ := impl.TreeRead(text)
	want, _ := impl.TreeRead(text)
	behind(m)
	if !plainSame(m, want) {
		t.Error("what is behind one list is in another one")
	}
}

// behind writes into the spare room of all lists of a module.
func behind(m impl.TreeMod) {
	var exprs func(list []impl.TreeExpr)
	exprs = func(list []impl.TreeExpr) {
		for i := len(list); i < cap(list); i++ {
			list[:cap(list)][i] = impl.TreeExpr{Kind: -9}
		}
		for _, e := range list {
			exprs(e.Kids)
		}
	}
	for i := len(m.Uses); i < cap(m.Uses); i++ {
		m.Uses[:cap(m.Uses)][i] = "spoiled"
	}
	for i := len(m.Funs); i < cap(m.Funs); i++ {
		m.Funs[:cap(m.Funs)][i] = impl.TreeFun{Name: "spoiled"}
	}
	for _, f := range m.Funs {
		for i := len(f.Args); i < cap(f.Args); i++ {
			f.Args[:cap(f.Args)][i] = impl.TreeArg{Name: "spoiled"}
		}
		exprs(f.Body.Kids)
	}
	exprs(m.Main)
}

// roomy is a copy of a module whose lists all have spare room, with something in it.
func roomy(m impl.TreeMod) impl.TreeMod {
	var exprs func(list []impl.TreeExpr) []impl.TreeExpr
	exprs = func(list []impl.TreeExpr) []impl.TreeExpr {
		out := slices.Clone(list)
		for i := range out {
			out[i].Kids = exprs(out[i].Kids)
		}
		return append(out, impl.TreeExpr{Kind: 42, Name: "room"}, impl.TreeExpr{Kind: 43})[:len(list)]
	}
	out := impl.TreeMod{Uses: append(slices.Clone(m.Uses), "room", "room")[:len(m.Uses)], Main: exprs(m.Main)}
	out.Funs = append(slices.Clone(m.Funs), impl.TreeFun{Name: "room"}, impl.TreeFun{Name: "room"})[:len(m.Funs)]
	for i := range out.Funs {
		f := &out.Funs[i]
		f.Args = append(slices.Clone(f.Args), impl.TreeArg{Name: "room"}, impl.TreeArg{Name: "room"})[:len(f.Args)]
		f.Body.Kids = exprs(f.Body.Kids)
	}
	return out
}

// wide is a module with all its lists as long as their room is.
func wide(m impl.TreeMod) impl.TreeMod {
	var exprs func(list []impl.TreeExpr) []impl.TreeExpr
	exprs = func(list []impl.TreeExpr) []impl.TreeExpr {
		out := slices.Clone(list[:cap(list)])
		for i := range out {
			out[i].Kids = exprs(out[i].Kids)
		}
		return out
	}
	out := impl.TreeMod{Uses: slices.Clone(m.Uses[:cap(m.Uses)]), Funs: slices.Clone(m.Funs[:cap(m.Funs)]), Main: exprs(m.Main)}
	for i := range out.Funs {
		f := &out.Funs[i]
		f.Args = slices.Clone(f.Args[:cap(f.Args)])
		f.Body.Kids = exprs(f.Body.Kids)
	}
	return out
}

// Nothing is written into an argument, nor behind its end.
func TestTreeArguments(t *testing.T) {
	r := rand.New(rand.NewSource(10))
	for range 500 {
		m := randomMod(r)
		if r.Intn(2) == 0 {
			m = turnedMod(r, m)
		}
		m = roomy(m)
		before := wide(m)
		impl.TreeOk(m)
		impl.TreeSame(m, m)
		impl.TreeSame(m, roomy(m))
		text := impl.TreePrint(m)
		for _, e := range m.Main {
			impl.TreeNodes(e)
		}
		for _, f := range m.Funs {
			impl.TreeNodes(f.Body)
		}
		if !plainSame(wide(m), before) {
			t.Fatal("an argument was written into")
		}
		for _, part := range texts(m) {
			if overlap(part, text) {
				t.Fatalf("what is printed shares the memory of %q", part)
			}
		}
	}
}
