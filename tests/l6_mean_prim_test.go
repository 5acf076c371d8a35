package tests

import (
	"math"
	"math/big"
	"math/rand"
	"slices"
	"strings"
	"testing"
	"unsafe"

	"loop.example/smithy/impl"
)

// Short ways to write values.

func intOf(n int) impl.MeanVal { return impl.MeanVal{Kind: impl.TreeInt, Num: n} }

func boolOf(holds bool) impl.MeanVal {
	if holds {
		return impl.MeanVal{Kind: impl.TreeBool, Num: 1}
	}
	return impl.MeanVal{Kind: impl.TreeBool}
}

func rowOf(row ...int) impl.MeanVal { return impl.MeanVal{Kind: impl.TreeRow, Row: row} }

// upTo is the numbers from 1 on, so many.
func upTo(n int) []int {
	out := make([]int, n)
	for i := range out {
		out[i] = i + 1
	}
	return out
}

func sameVal(a, b impl.MeanVal) bool {
	return a.Kind == b.Kind && a.Num == b.Num && slices.Equal(a.Row, b.Row)
}

func isNothing(v impl.MeanVal) bool { return v.Kind == 0 && v.Num == 0 && len(v.Row) == 0 }

// wrapped is a whole number of any size, told by its last 64 bits.
func wrapped(n *big.Int) int {
	last := new(big.Int).And(n, new(big.Int).SetUint64(math.MaxUint64))
	return int(int64(last.Uint64()))
}

// plainMake is what a primitive makes, by another way than the program: with whole numbers of any size.
func plainMake(word string, vals []impl.MeanVal) (impl.MeanVal, int) {
	args, own := plainPrim(word)
	if own == 0 || len(args) != len(vals) {
		return impl.MeanVal{}, -1
	}
	var nums []*big.Int
	for i, v := range vals {
		if v.Kind != args[i] {
			return impl.MeanVal{}, -1
		}
		nums = append(nums, big.NewInt(int64(v.Num)))
	}
	made := new(big.Int)
	switch word {
	case "+":
		return intOf(wrapped(made.Add(nums[0], nums[1]))), 0
	case "-":
		return intOf(wrapped(made.Sub(nums[0], nums[1]))), 0
	case "*":
		return intOf(wrapped(made.Mul(nums[0], nums[1]))), 0
	case "/", "%":
		if nums[1].Sign() == 0 {
			return impl.MeanVal{}, impl.MeanDiv
		}
		left := new(big.Int)
		made.QuoRem(nums[0], nums[1], left)
		return intOf(wrapped(map[string]*big.Int{"/": made, "%": left}[word])), 0
	case "<":
		return boolOf(nums[0].Cmp(nums[1]) < 0), 0
	case "<=":
		return boolOf(nums[0].Cmp(nums[1]) <= 0), 0
	case "=":
		return boolOf(nums[0].Cmp(nums[1]) == 0), 0
	case "not":
		return boolOf(nums[0].Sign() == 0), 0
	case "and":
		return boolOf(nums[0].Sign() != 0 && nums[1].Sign() != 0), 0
	case "or":
		return boolOf(nums[0].Sign() != 0 || nums[1].Sign() != 0), 0
	case "print":
		return intOf(vals[0].Num), 0
	}
	return plainRow(word, vals)
}

// plainRow is what a primitive makes of rows that fit it.
func plainRow(word string, vals []impl.MeanVal) (impl.MeanVal, int) {
	var all []int
	for _, v := range vals {
		all = append(all, v.Row...)
	}
	switch word {
	case "len":
		return intOf(len(all)), 0
	case "join":
		if len(all) > 16 {
			return impl.MeanVal{}, impl.MeanLong
		}
		return rowOf(all...), 0
	}
	for place := range all {
		if place == vals[1].Num && word == "at" {
			return intOf(all[place]), 0
		} else if place == vals[1].Num {
			return rowOf(append(append(slices.Clone(all[:place]), vals[2].Num), all[place+1:]...)...), 0
		}
	}
	return impl.MeanVal{}, impl.MeanPlace
}

// checkPrim holds MeanPrim against the other way, and tells what it answers.
func checkPrim(t *testing.T, word string, vals ...impl.MeanVal) (impl.MeanVal, int) {
	t.Helper()
	got, code := impl.MeanPrim(word, vals)
	want, wantCode := plainMake(word, vals)
	if !sameVal(got, want) || code != wantCode {
		t.Fatalf("MeanPrim(%.20q, %v) = %v, %d; want %v, %d", word, vals, got, code, want, wantCode)
	}
	return got, code
}

func TestMeanLimits(t *testing.T) {
	if got := []int{impl.MeanMaxRow, impl.MeanMaxDepth, impl.MeanMaxFuel}; !slices.Equal(got, []int{16, 30, 100000}) {
		t.Error(got)
	}
	if got := []int{impl.MeanFuel, impl.MeanHalt, impl.MeanStops, impl.MeanWrong}; !slices.Equal(got, []int{0, 1, 2, 3}) {
		t.Error(got)
	}
	if got := []int{impl.MeanDiv, impl.MeanPlace, impl.MeanLong, impl.MeanDeep}; !slices.Equal(got, []int{1, 2, 3, 4}) {
		t.Error(got)
	}
}

// Each primitive, with what it makes written out.
func TestMeanPrimListed(t *testing.T) {
	yes, no := boolOf(true), boolOf(false)
	least, most := intOf(math.MinInt64), intOf(math.MaxInt64)
	i, r := intOf, rowOf
	of := func(vals ...impl.MeanVal) []impl.MeanVal { return vals }
	for _, c := range []struct {
		word string
		vals []impl.MeanVal
		want impl.MeanVal
		code int
	}{
		{"+", of(i(2), i(3)), i(5), 0}, {"+", of(most, i(1)), least, 0}, {"+", of(least, i(-1)), most, 0}, {"+", of(least, least), i(0), 0},
		{"-", of(i(2), i(3)), i(-1), 0}, {"-", of(least, i(1)), most, 0}, {"-", of(i(0), least), least, 0}, {"-", of(most, i(-1)), least, 0},
		{"*", of(i(-2), i(3)), i(-6), 0}, {"*", of(most, i(2)), i(-2), 0}, {"*", of(least, i(-1)), least, 0}, {"*", of(i(1<<32), i(1<<32)), i(0), 0},
		{"/", of(i(7), i(2)), i(3), 0}, {"/", of(i(-7), i(2)), i(-3), 0}, {"/", of(i(7), i(-2)), i(-3), 0}, {"/", of(i(-7), i(-2)), i(3), 0},
		{"/", of(least, i(-1)), least, 0}, {"/", of(least, i(1)), least, 0}, {"/", of(i(7), i(0)), impl.MeanVal{}, impl.MeanDiv}, {"/", of(i(0), i(0)), impl.MeanVal{}, impl.MeanDiv}, {"/", of(least, i(0)), impl.MeanVal{}, impl.MeanDiv},
		{"%", of(i(7), i(2)), i(1), 0}, {"%", of(i(-7), i(2)), i(-1), 0}, {"%", of(i(7), i(-2)), i(1), 0}, {"%", of(i(-7), i(-2)), i(-1), 0},
		{"%", of(least, i(-1)), i(0), 0}, {"%", of(least, most), i(-1), 0}, {"%", of(i(7), i(0)), impl.MeanVal{}, impl.MeanDiv}, {"%", of(i(0), i(0)), impl.MeanVal{}, impl.MeanDiv},
		{"<", of(i(1), i(2)), yes, 0}, {"<", of(i(2), i(2)), no, 0}, {"<", of(i(3), i(2)), no, 0}, {"<", of(least, most), yes, 0}, {"<", of(most, least), no, 0},
		{"<=", of(i(1), i(2)), yes, 0}, {"<=", of(i(2), i(2)), yes, 0}, {"<=", of(i(3), i(2)), no, 0}, {"<=", of(least, most), yes, 0},
		{"=", of(i(1), i(2)), no, 0}, {"=", of(i(2), i(2)), yes, 0}, {"=", of(i(3), i(2)), no, 0}, {"=", of(least, least), yes, 0},
		{"not", of(yes), no, 0}, {"not", of(no), yes, 0},
		{"and", of(yes, yes), yes, 0}, {"and", of(yes, no), no, 0}, {"and", of(no, yes), no, 0}, {"and", of(no, no), no, 0},
		{"or", of(yes, yes), yes, 0}, {"or", of(yes, no), yes, 0}, {"or", of(no, yes), yes, 0}, {"or", of(no, no), no, 0},
		{"at", of(r(5, 6, 7), i(0)), i(5), 0}, {"at", of(r(5, 6, 7), i(2)), i(7), 0}, {"at", of(r(5, 6, 7), i(3)), impl.MeanVal{}, impl.MeanPlace}, {"at", of(r(5, 6, 7), i(-1)), impl.MeanVal{}, impl.MeanPlace},
		{"at", of(r(), i(0)), impl.MeanVal{}, impl.MeanPlace}, {"at", of(r(5), least), impl.MeanVal{}, impl.MeanPlace}, {"at", of(r(5), most), impl.MeanVal{}, impl.MeanPlace}, {"at", of(r(5), i(1<<32)), impl.MeanVal{}, impl.MeanPlace},
		{"put", of(r(5, 6, 7), i(0), i(9)), r(9, 6, 7), 0}, {"put", of(r(5, 6, 7), i(2), i(9)), r(5, 6, 9), 0}, {"put", of(r(5, 6, 7), i(3), i(9)), impl.MeanVal{}, impl.MeanPlace},
		{"put", of(r(5, 6, 7), i(-1), i(9)), impl.MeanVal{}, impl.MeanPlace}, {"put", of(r(), i(0), i(9)), impl.MeanVal{}, impl.MeanPlace}, {"put", of(r(5), least, i(9)), impl.MeanVal{}, impl.MeanPlace},
		{"len", of(r()), i(0), 0}, {"len", of(r(5, 6, 7)), i(3), 0}, {"len", of(r(upTo(16)...)), i(16), 0},
		{"join", of(r(), r()), r(), 0}, {"join", of(r(1, 2), r(3)), r(1, 2, 3), 0}, {"join", of(r(), r(3)), r(3), 0}, {"join", of(r(3), r()), r(3), 0},
		{"join", of(r(1, 2, 3, 4, 5, 6, 7, 8), r(9, 10, 11, 12, 13, 14, 15, 16)), r(upTo(16)...), 0}, {"join", of(r(upTo(16)...), r()), r(upTo(16)...), 0},
		{"join", of(r(upTo(16)...), r(1)), impl.MeanVal{}, impl.MeanLong}, {"join", of(r(1), r(upTo(16)...)), impl.MeanVal{}, impl.MeanLong}, {"join", of(r(upTo(16)...), r(upTo(16)...)), impl.MeanVal{}, impl.MeanLong},
		{"print", of(i(-7)), i(-7), 0}, {"print", of(least), least, 0},
	} {
		got, code := checkPrim(t, c.word, c.vals...)
		if !sameVal(got, c.want) || code != c.code {
			t.Errorf("MeanPrim(%q, %v) = %v, %d; want %v, %d", c.word, c.vals, got, code, c.want, c.code)
		}
	}
}

// everyVals calls with each list of so many of these values.
func everyVals(of []impl.MeanVal, n int, call func([]impl.MeanVal)) {
	var grow func(vals []impl.MeanVal)
	grow = func(vals []impl.MeanVal) {
		if len(vals) == n {
			call(vals)
			return
		}
		for _, v := range of {
			grow(append(slices.Clone(vals), v))
		}
	}
	grow(nil)
}

// Each word with each number of values of each Kind, those that are none among them.
func TestMeanPrimKinds(t *testing.T) {
	vals := []impl.MeanVal{intOf(1), boolOf(true), rowOf(4, 5), {}, {Kind: 4, Num: 1, Row: []int{1, 2}}, {Kind: -1}}
	words := append(strings.Fields(primWords+" "+ownWords+" > >= == != ++ ! puts x f Not 1 0 ( ) \xff"), "", " ", "+ ", " +", "print\n", strings.Repeat("+", 10000))
	for _, word := range words {
		args, own := plainPrim(word)
		fits := 0
		for n := range 5 {
			everyVals(vals, n, func(vals []impl.MeanVal) {
				got, code := checkPrim(t, word, vals...)
				if code == -1 {
					if !isNothing(got) {
						t.Errorf("%q of %v: %v and -1", word, vals, got)
					}
					return
				}
				if fits++; len(vals) != len(args) || code != 0 || got.Kind != own {
					t.Errorf("%q of %v: %v, %d", word, vals, got, code)
				}
			})
		}
		if own == 0 && fits != 0 || own != 0 && fits != 1 {
			t.Errorf("%q makes something of %d lists of values", word, fits)
		}
	}
	many := slices.Repeat([]impl.MeanVal{intOf(1)}, 100000)
	for _, word := range strings.Fields(primWords) {
		if _, code := checkPrim(t, word, many...); code != -1 {
			t.Errorf("%q takes too many", word)
		}
	}
}

// Values need not be right beyond their Kinds; what is made of them is.
func TestMeanPrimLoose(t *testing.T) {
	long := upTo(40)
	vals := []impl.MeanVal{
		{Kind: 1, Num: 3, Row: []int{7, 8}}, {Kind: 1, Row: long}, {Kind: 2, Num: 5}, {Kind: 2, Num: -1, Row: []int{9}}, {Kind: 2, Num: math.MinInt64},
		{Kind: 2, Row: []int{1}}, {Kind: 3, Num: 77}, {Kind: 3, Num: -1, Row: []int{4, 5, 6, 7}}, {Kind: 3, Num: 4, Row: long},
	}
	made := map[string]int{}
	for _, word := range strings.Fields(primWords) {
		everyVals(vals, impl.TreeArity(word), func(vals []impl.MeanVal) {
			// What numbers have beside them does not count.
			bare := slices.Clone(vals)
			for i := range bare {
				if bare[i].Kind == 3 {
					bare[i].Num = 0
				} else {
					bare[i].Row = nil
				}
			}
			want, wantCode := plainMake(word, bare)
			got, code := impl.MeanPrim(word, vals)
			if !sameVal(got, want) || code != wantCode {
				t.Fatalf("MeanPrim(%q, %v) = %v, %d; want %v, %d", word, vals, got, code, want, wantCode)
			}
			if code != 0 {
				return
			}
			made[word]++
			if got.Kind != 3 && len(got.Row) > 0 || got.Kind == 3 && got.Num != 0 || got.Kind == 2 && got.Num != 0 && got.Num != 1 {
				t.Fatalf("MeanPrim(%q, %v) = %v", word, vals, got)
			}
		})
	}
	for _, word := range strings.Fields(primWords) {
		if made[word] == 0 && word != "/" && word != "%" {
			t.Error(word, "makes nothing")
		}
	}
	// A place of a row that is too long is one of its places; with nothing behind it it is still too long.
	if got, code := impl.MeanPrim("at", []impl.MeanVal{rowOf(long...), intOf(39)}); code != 0 || got.Num != 40 {
		t.Error(got, code)
	}
	if got, code := impl.MeanPrim("join", []impl.MeanVal{rowOf(long...), rowOf()}); code != impl.MeanLong || !isNothing(got) {
		t.Error(got, code)
	}
}

// edgeNums are numbers at which something may turn.
func edgeNums() []int {
	var out []int
	for _, n := range []int{0, 10, 16, 255, 1 << 31, 1 << 32, 1 << 62, math.MaxInt64, math.MinInt64, 3037000500, 4294967296, 99999999999999999} {
		for d := -2; d <= 2; d++ {
			out = append(out, n+d, -n+d)
		}
	}
	slices.Sort(out)
	return slices.Compact(out)
}

// P15: what is divided is the second times what comes, and what is left; one of less, equal and greater holds.
func checkNumbers(t *testing.T, a, b int) {
	t.Helper()
	x, y := intOf(a), intOf(b)
	holds := 0
	for _, vals := range [][]impl.MeanVal{{x, y}, {y, x}} {
		v, _ := checkPrim(t, "<", vals...)
		holds += v.Num
	}
	same, _ := checkPrim(t, "=", x, y)
	if holds+same.Num != 1 {
		t.Errorf("of %d and %d %d hold", a, b, holds+same.Num)
	}
	less, _ := impl.MeanPrim("<", []impl.MeanVal{x, y})
	if most, _ := checkPrim(t, "<=", x, y); (most.Num == 1) != (less.Num == 1 || same.Num == 1) {
		t.Errorf("%d <= %d: %v", a, b, most)
	}
	comes, code := checkPrim(t, "/", x, y)
	left, leftCode := checkPrim(t, "%", x, y)
	if b == 0 {
		if code != impl.MeanDiv || leftCode != impl.MeanDiv || !isNothing(comes) || !isNothing(left) {
			t.Errorf("%d by 0: %v, %d; %v, %d", a, comes, code, left, leftCode)
		}
		return
	}
	times, _ := checkPrim(t, "*", y, comes)
	if sum, _ := checkPrim(t, "+", times, left); code != 0 || leftCode != 0 || sum.Num != a {
		t.Errorf("%d by %d comes to %d and leaves %d", a, b, comes.Num, left.Num)
	}
	// What is left is smaller than the second, and on the side of the first.
	size := new(big.Int).Abs(big.NewInt(int64(left.Num)))
	if size.Cmp(new(big.Int).Abs(big.NewInt(int64(b)))) >= 0 || left.Num != 0 && (left.Num < 0) != (a < 0) {
		t.Errorf("%d by %d leaves %d", a, b, left.Num)
	}
	back, _ := checkPrim(t, "-", x, y)
	if sum, _ := checkPrim(t, "+", back, y); sum.Num != a {
		t.Errorf("%d less %d, and that again: %d", a, b, sum.Num)
	}
}

func TestMeanPrimNumbers(t *testing.T) {
	edges := edgeNums()
	for _, a := range edges {
		for _, b := range edges {
			checkNumbers(t, a, b)
		}
	}
	r := rand.New(rand.NewSource(1))
	for range 20000 {
		checkNumbers(t, int(r.Uint64())>>r.Intn(64), int(r.Uint64())>>r.Intn(64))
	}
}

// P15: a row with a number put at a place has it there, and all else as it was.
func TestMeanPrimPut(t *testing.T) {
	for n := range 17 {
		row := upTo(n)
		for place := -3; place < n+3; place++ {
			for _, number := range []int{0, -7, 1, math.MinInt64} {
				put, code := checkPrim(t, "put", rowOf(row...), intOf(place), intOf(number))
				if place < 0 || place >= n {
					if code != impl.MeanPlace || !isNothing(put) {
						t.Errorf("put at %d of %d: %v, %d", place, n, put, code)
					}
					continue
				}
				if size, _ := checkPrim(t, "len", put); code != 0 || size.Num != n {
					t.Errorf("put at %d of %d: %v, %d", place, n, put, code)
				}
				for at := range n {
					want := row[at]
					if at == place {
						want = number
					}
					if got, _ := checkPrim(t, "at", put, intOf(at)); got.Num != want {
						t.Errorf("put %d at %d of %v: %v", number, place, row, put)
					}
				}
			}
		}
	}
}

// Rows of every two sizes are joined as long as they are not too long.
func TestMeanPrimJoin(t *testing.T) {
	for a := range 20 {
		for b := range 20 {
			got, code := checkPrim(t, "join", rowOf(upTo(a)...), rowOf(upTo(b)...))
			if a+b <= 16 && (code != 0 || len(got.Row) != a+b) || a+b > 16 && (code != impl.MeanLong || !isNothing(got)) {
				t.Errorf("%d and %d: %v, %d", a, b, got, code)
			}
		}
	}
}

// shareInts says whether two lists lie over each other, their room included.
func shareInts(a, b []int) bool {
	if cap(a) == 0 || cap(b) == 0 {
		return false
	}
	p, q := uintptr(unsafe.Pointer(unsafe.SliceData(a))), uintptr(unsafe.Pointer(unsafe.SliceData(b)))
	return p < q+uintptr(cap(b))*8 && q < p+uintptr(cap(a))*8
}

// roomyInts is a list with spare room, and something in it.
func roomyInts(list []int) []int { return append(slices.Clone(list), 777, 778, 779)[:len(list)] }

func roomyVals(vals []impl.MeanVal) []impl.MeanVal {
	out := append(slices.Clone(vals), intOf(777), rowOf(778), boolOf(true))[:len(vals)]
	for i := range out {
		out[i].Row = roomyInts(out[i].Row)
	}
	return out
}

// wideVals is all that is in values and in their room, in memory of its own.
func wideVals(vals []impl.MeanVal) []impl.MeanVal {
	out := slices.Clone(vals[:cap(vals)])
	for i, v := range out {
		out[i].Row = slices.Clone(v.Row[:cap(v.Row)])
	}
	return out
}

func sameVals(a, b []impl.MeanVal) bool { return slices.EqualFunc(a, b, sameVal) }

// randomVal is a value of this Kind.
func randomVal(r *rand.Rand, kind int) impl.MeanVal {
	switch kind {
	case impl.TreeInt:
		return intOf(r.Intn(20) - 5)
	case impl.TreeBool:
		return boolOf(r.Intn(2) == 0)
	}
	row := make([]int, r.Intn(17))
	for i := range row {
		row[i] = r.Intn(100)
	}
	return rowOf(row...)
}

// spoilInts writes over a list and its room.
func spoilInts(list []int) {
	for i := range list[:cap(list)] {
		list[:cap(list)][i] = -99
	}
}

// What a primitive makes is new memory, and nothing is written into its operands.
func TestMeanPrimNew(t *testing.T) {
	r := rand.New(rand.NewSource(2))
	rows := 0
	for range 20000 {
		word := strings.Fields(primWords)[r.Intn(16)]
		args, _ := plainPrim(word)
		var vals []impl.MeanVal
		for _, kind := range args {
			vals = append(vals, randomVal(r, kind))
		}
		if r.Intn(4) == 0 && len(vals) > 1 && vals[0].Kind == vals[1].Kind {
			vals[1] = vals[0]
		}
		want, wantCode := checkPrim(t, word, vals...)
		same := len(vals) > 1 && sameVal(vals[0], vals[1])
		vals = roomyVals(vals)
		if same {
			// One row, and not only rows alike.
			vals[1] = vals[0]
		}
		before := wideVals(vals)
		got, code := impl.MeanPrim(word, vals)
		other, _ := impl.MeanPrim(word, vals)
		if wantCode != code || !sameVal(got, want) {
			t.Fatalf("%q: what is behind an end counts: %v, %d; want %v, %d", word, got, code, want, wantCode)
		}
		for _, v := range slices.Concat(vals, []impl.MeanVal{other}) {
			if shareInts(got.Row, v.Row) {
				t.Fatalf("what %q makes shares memory", word)
			}
		}
		kept := slices.Clone(other.Row)
		spoilInts(got.Row)
		if !slices.Equal(other.Row, kept) || !sameVals(wideVals(vals), before) {
			t.Fatalf("%q: an argument or another answer was written into", word)
		}
		if len(got.Row) > 0 {
			rows++
		}
	}
	if rows < 1000 {
		t.Error(rows)
	}
}
