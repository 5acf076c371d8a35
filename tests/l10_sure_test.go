package tests

import (
	"math"
	"reflect"
	"slices"
	"strconv"
	"strings"
	"testing"

	"loop.example/smithy/impl"
)

func TestSureLimits(t *testing.T) {
	if impl.SureMax != 100 {
		t.Error(impl.SureMax)
	}
	codes := []int{impl.SureForm, impl.SureMain, impl.SureOp, impl.SureStack, impl.SureKind, impl.SureJoin, impl.SureEnd}
	if !slices.Equal(codes, []int{1, 2, 3, 4, 5, 6, 7}) {
		t.Error(codes)
	}
}

// sureEdge is a way from one instruction to another, with what is known on it: kinds are letters, `?` where none is known.
type sureEdge struct {
	from, to     int
	stack, slots string
}

// sureLetters has the letter of each kind at its place.
const sureLetters = "?ibr"

// insWords and insPrims are the words of instructions and of primitives, each at the place ahead of its number.
var insWords, insPrims = strings.Fields(codeWords), strings.Fields(codePrims)

func lettersOf(kinds ...int) string {
	var out strings.Builder
	for _, kind := range kinds {
		out.WriteByte(sureLetters[kind])
	}
	return out.String()
}

// plainStep is what an instruction asks for and does, without its operand having been asked.
type plainStep struct {
	right  bool   // whether its operand is
	wants  string // what it pops, the last one popped first; * is any
	gives  string
	onward []int
}

// plainStepOf is that of an instruction in a function of an image.
func plainStepOf(m impl.LinkImage, fun impl.LinkFun, at int) plainStep {
	a := fun.Code[at].A
	step := plainStep{right: true, onward: []int{at + 1}}
	switch insWords[fun.Code[at].Op-1] {
	case "push":
		step.gives = "i"
	case "flag":
		step.gives = "b"
	case "load":
		step.right, step.gives = a < fun.Slots, "the slot's"
	case "keep":
		step.right, step.wants = a < fun.Slots, "*"
	case "prim":
		if step.right = a >= 1 && a <= 14; step.right {
			args, kind := plainPrim(insPrims[a-1])
			step.wants, step.gives = lettersOf(args...), lettersOf(kind)
		}
	case "jump":
		step.right, step.onward = a > at, []int{a}
	case "unless":
		step.right, step.wants, step.onward = a > at, "b", []int{a, at + 1}
	case "call":
		if step.right = a < len(m.Funs); step.right {
			step.wants, step.gives = lettersOf(m.Funs[a].Args...), lettersOf(m.Funs[a].Type)
		}
	case "back":
		step.onward = nil
	case "row":
		step.right, step.wants, step.gives = a <= 16, strings.Repeat("i", a), "r"
	}
	return step
}

// plainMeet is what is known where these ways meet: the stack is that of each.
func plainMeet(ways []sureEdge) (string, string) {
	slots := []byte(ways[0].slots)
	for _, way := range ways {
		for i := range slots {
			if way.slots[i] != slots[i] {
				slots[i] = '?'
			}
		}
	}
	return ways[0].stack, string(slots)
}

// plainDo does an instruction to a stack and slots: it tells what they are then, where it goes on, and the code of what is wrong.
func plainDo(m impl.LinkImage, fun impl.LinkFun, at int, stack, slots string) (string, string, []int, int) {
	step, ins := plainStepOf(m, fun, at), fun.Code[at]
	if !step.right {
		return "", "", nil, impl.SureOp
	}
	switch {
	case ins.Op == impl.CodeLoad:
		if step.gives = slots[ins.A : ins.A+1]; step.gives == "?" {
			return "", "", nil, impl.SureKind
		}
	case ins.Op == impl.CodeKeep && stack != "":
		slots = slots[:ins.A] + stack[len(stack)-1:] + slots[ins.A+1:]
	case ins.Op == impl.CodeBack && len(stack) != 1:
		return "", "", nil, impl.SureStack
	case ins.Op == impl.CodeBack && stack != lettersOf(fun.Type):
		return "", "", nil, impl.SureKind
	}
	for i := len(step.wants) - 1; i >= 0; i-- {
		if stack == "" {
			return "", "", nil, impl.SureStack
		} else if !strings.HasSuffix(stack, step.wants[i:i+1]) && step.wants != "*" {
			return "", "", nil, impl.SureKind
		}
		stack = stack[:len(stack)-1]
	}
	if stack += step.gives; step.gives != "" && len(stack) > 100 {
		return "", "", nil, impl.SureStack
	}
	return stack, slots, step.onward, 0
}

// plainLook looks through a function of an image that has a text by another way than the program: it
// gathers all ways from one instruction to another. It tells the stacks, or the fault.
func plainLook(m impl.LinkImage, number int) ([]string, impl.SureFault) {
	fun := m.Funs[number]
	wrong := func(code, at int) ([]string, impl.SureFault) {
		return nil, impl.SureFault{Code: code, Fun: number, At: at}
	}
	if len(fun.Args) > fun.Slots {
		return wrong(impl.SureOp, 0)
	} else if len(fun.Code) == 0 {
		return wrong(impl.SureEnd, 0)
	}
	ways := plainAhead(fun)
	var stacks []string
	for at := range fun.Code {
		here := waysTo(ways, at)
		if len(here) == 0 {
			return wrong(impl.SureEnd, at)
		}
		stack, slots := plainMeet(here)
		stacks = append(stacks, stack)
		stack, slots, onward, code := plainDo(m, fun, at, stack, slots)
		if code != 0 {
			return wrong(code, at)
		}
		for _, to := range onward {
			if to >= len(fun.Code) {
				return wrong(impl.SureEnd, at)
			}
			for _, way := range waysTo(ways, to) {
				if way.stack != stack {
					return wrong(impl.SureJoin, at)
				}
			}
			ways = append(ways, sureEdge{at, to, stack, slots})
		}
	}
	return stacks, impl.SureFault{}
}

// plainAhead is the way to the first instruction of a function.
func plainAhead(fun impl.LinkFun) []sureEdge {
	return []sureEdge{{-1, 0, "", lettersOf(fun.Args...) + strings.Repeat("?", fun.Slots-len(fun.Args))}}
}

// waysTo are those of some that lead to a place.
func waysTo(ways []sureEdge, at int) []sureEdge {
	var here []sureEdge
	for _, way := range ways {
		if way.to == at {
			here = append(here, way)
		}
	}
	return here
}

// plainSure is what is wrong with an image, and the stacks of each function that has no fault, by another
// way than the program.
func plainSure(m impl.LinkImage) (impl.SureFault, map[int][][]int) {
	if !plainImageOk(m) {
		return impl.SureFault{Code: impl.SureForm}, nil
	}
	var faults []impl.SureFault
	for _, number := range m.Mains {
		if len(m.Funs[number].Args) > 0 {
			faults = append(faults, impl.SureFault{Code: impl.SureMain, Fun: number})
		}
	}
	all := map[int][][]int{}
	for number := range m.Funs {
		stacks, fault := plainLook(m, number)
		if fault.Code != 0 {
			faults = append(faults, fault)
			continue
		}
		all[number] = nil
		for _, stack := range stacks {
			var kinds []int
			for _, letter := range stack {
				kinds = append(kinds, strings.IndexRune(sureLetters, letter))
			}
			all[number] = append(all[number], kinds)
		}
	}
	return append(faults, impl.SureFault{})[0], all
}

// settledRows is rows with nil in the place of each empty list.
func settledRows(rows [][]int) [][]int {
	var out [][]int
	for _, row := range rows {
		out = append(out, append([]int(nil), row...))
	}
	return out
}

func sameRows(a, b [][]int) bool { return reflect.DeepEqual(settledRows(a), settledRows(b)) }

// checkSure holds SureImage, and SureStacks of each function and of what is none, against the other way.
func checkSure(t *testing.T, what string, m impl.LinkImage) impl.SureFault {
	t.Helper()
	want, stacks := plainSure(m)
	if got := impl.SureImage(m); got != want {
		t.Fatalf("%s: SureImage(%s) = %v; want %v", what, plainImageText(m), got, want)
	}
	for _, number := range append(placesOf(len(m.Funs)), math.MinInt, -2, -1, len(m.Funs), len(m.Funs)+1, math.MaxInt) {
		rows, wantOk := stacks[number]
		got, ok := impl.SureStacks(m, number)
		if ok != wantOk || !sameRows(got, rows) {
			t.Fatalf("%s: SureStacks(%s, %d) = %v, %v; want %v, %v", what, plainImageText(m), number, got, ok, rows, wantOk)
		}
	}
	return want
}

// imageOf is an image, told by the lines of its text behind the first, with `; ` between functions, `: ` ahead of code, `, ` in it.
func imageOf(t *testing.T, text string) impl.LinkImage {
	t.Helper()
	text = strings.NewReplacer("; ", "\n", ": ", "\n", ", ", "\n").Replace(text)
	if text != "" {
		text += "\n"
	}
	m, ok := impl.LinkRead("image\n" + text)
	if !ok {
		t.Fatalf("the test's own image: %q", text)
	}
	return m
}

// sureCase is an image, and what is wrong with it.
type sureCase struct {
	text  string
	fault impl.SureFault
}

// sureAt is a fault.
func sureAt(code, fun, at int) impl.SureFault {
	return impl.SureFault{Code: code, Fun: fun, At: at}
}

func checkCases(t *testing.T, list []sureCase) {
	t.Helper()
	for _, c := range list {
		if got := checkSure(t, c.text, imageOf(t, c.text)); got != c.fault {
			t.Errorf("%s: %v; want %v", c.text, got, c.fault)
		}
	}
}

// noFault is what is told of what is right.
var noFault = impl.SureFault{}

// What is right, and each code alone.
func TestSureListed(t *testing.T) {
	checkCases(t, []sureCase{
		{"", noFault},
		{"fun a.f - int 0: push 1, back 0", noFault},
		{"fun a.f - bool 0: flag 0, back 0", noFault},
		{"fun a.f - row 0: row 0, back 0", noFault},
		{"fun a.f int,bool,row,int row 4: load 2, back 0", noFault},
		{"fun a.f - int 0: push 1, back 0; fun a.main - int 0: call 0, back 0; main 1", noFault},
		{"fun a.f - int 0: push 1, back 0; fun a.main - int 0: call 0, back 0; main 0; main 0; main 1; main 0", noFault},
		// Calls of itself, of one behind it, of one another.
		{"fun a.f int int 1: load 0, call 0, back 0", noFault},
		{"fun a.f - int 0: call 1, back 0; fun a.g - int 0: call 0, back 0", noFault},
		// What the document says of `if`, `and` and `or`.
		{"fun a.f int int 2: load 0, push 0, prim 8, unless 6, push 1, jump 14, load 0, push 1, prim 2, keep 1, load 0, load 1, call 0, prim 3, back 0", noFault},
		{"fun a.f bool,bool bool 2: load 0, unless 4, load 1, jump 5, flag 0, back 0", noFault},
		{"fun a.f bool,bool bool 2: load 0, unless 4, flag 1, jump 5, load 1, back 0", noFault},
		// SureMain, SureOp, SureStack, SureKind, SureJoin, SureEnd.
		{"fun a.f int int 1: load 0, back 0; main 0", sureAt(impl.SureMain, 0, 0)},
		{"fun a.f int int 0: push 1, back 0", sureAt(impl.SureOp, 0, 0)},
		{"fun a.f - int 0: push 1, prim 0, back 0", sureAt(impl.SureOp, 0, 1)},
		{"fun a.f - int 0: back 0", sureAt(impl.SureStack, 0, 0)},
		{"fun a.f - int 0: push 1, push 2, back 0", sureAt(impl.SureStack, 0, 2)},
		{"fun a.f - int 0: flag 1, back 0", sureAt(impl.SureKind, 0, 1)},
		{"fun a.f - int 0: flag 0, unless 4, push 1, jump 5, flag 1, back 0", sureAt(impl.SureJoin, 0, 4)},
		{"fun a.f - int 0", sureAt(impl.SureEnd, 0, 0)},
		{"fun a.f - int 0: push 1", sureAt(impl.SureEnd, 0, 0)},
		{"fun a.f - int 0: push 1, back 0, back 0", sureAt(impl.SureEnd, 0, 2)},
	})
}

// An image without a text, whatever else is wrong with it.
func TestSureForm(t *testing.T) {
	const (
		whole = "fun a.f - int 1: push 1, back 0; fun b.g int int 1: load 0, back 0; main 0"
		other = "fun a.f int int 0: prim 0; fun b.g - int 0; fun c.h - int 0: back 0; main 1; main 0"
	)
	turns := map[string]func(m *impl.LinkImage){
		"a main that is none":         func(m *impl.LinkImage) { m.Mains[0] = len(m.Funs) },
		"a main below 0":              func(m *impl.LinkImage) { m.Mains[0] = -1 },
		"a main far off":              func(m *impl.LinkImage) { m.Mains[0] = math.MaxInt },
		"mains of nothing":            func(m *impl.LinkImage) { m.Funs = nil },
		"nine mains":                  func(m *impl.LinkImage) { m.Mains = slices.Repeat([]int{0}, 9) },
		"73 functions":                func(m *impl.LinkImage) { m.Funs = slices.Repeat(m.Funs[:1], 73) },
		"no Mod":                      func(m *impl.LinkImage) { m.Funs[1].Mod = "" },
		"a Mod that is a word":        func(m *impl.LinkImage) { m.Funs[1].Mod = "main" },
		"a Name that is none":         func(m *impl.LinkImage) { m.Funs[1].Name = "F" },
		"five Args":                   func(m *impl.LinkImage) { m.Funs[0].Args = []int{1, 1, 1, 1, 1} },
		"an Arg that is no type":      func(m *impl.LinkImage) { m.Funs[0].Args = []int{0} },
		"an Arg that is far off":      func(m *impl.LinkImage) { m.Funs[0].Args = []int{256 + 1} },
		"a Type that is none":         func(m *impl.LinkImage) { m.Funs[1].Type = 4 },
		"Slots below 0":               func(m *impl.LinkImage) { m.Funs[1].Slots = -1 },
		"too many Slots":              func(m *impl.LinkImage) { m.Funs[1].Slots = 1001 },
		"an Op that is none":          func(m *impl.LinkImage) { m.Funs[0].Code[0].Op = 0 },
		"an Op behind all":            func(m *impl.LinkImage) { m.Funs[0].Code[0].Op = 11 },
		"an Op far off":               func(m *impl.LinkImage) { m.Funs[0].Code[0].Op = math.MaxInt },
		"an operand below 0":          func(m *impl.LinkImage) { m.Funs[0].Code[0] = impl.CodeIns{Op: impl.CodeLoad, A: -1} },
		"an operand far off":          func(m *impl.LinkImage) { m.Funs[0].Code[0] = impl.CodeIns{Op: impl.CodeCall, A: 1001} },
		"a number that is too long":   func(m *impl.LinkImage) { m.Funs[0].Code[0] = impl.CodeIns{Op: impl.CodePush, A: numEnd} },
		"a truth that is none":        func(m *impl.LinkImage) { m.Funs[0].Code[0] = impl.CodeIns{Op: impl.CodeFlag, A: 2} },
		"an operand of back":          func(m *impl.LinkImage) { m.Funs[0].Code[0] = impl.CodeIns{Op: impl.CodeBack, A: 1} },
		"a function too long":         func(m *impl.LinkImage) { m.Funs[0].Code = make([]impl.CodeIns, 461) },
		"461 instructions that stand": func(m *impl.LinkImage) { m.Funs[0].Code = slices.Repeat([]impl.CodeIns{{Op: impl.CodePush}}, 461) },
		"3681 instructions": func(m *impl.LinkImage) {
			m.Funs[0].Code = slices.Repeat([]impl.CodeIns{{Op: impl.CodePush}}, 409)
			m.Funs = slices.Repeat(m.Funs[:1], 9)
			m.Mains = nil
		},
	}
	for what, turn := range turns {
		for _, text := range []string{whole, other} {
			m := imageOf(t, text)
			if turn(&m); plainImageOk(m) {
				t.Fatalf("the test's own turn: %s", what)
			}
			if got := checkSure(t, what, m); got != sureAt(impl.SureForm, 0, 0) {
				t.Errorf("%s: %v", what, got)
			}
		}
	}
	// Each limit of a text is met.
	m := imageOf(t, whole)
	m.Funs[1].Slots, m.Mains = 1000, slices.Repeat([]int{0}, 8)
	m.Funs[0].Code = slices.Repeat([]impl.CodeIns{{Op: impl.CodePush, A: numEnd - 1}, {Op: impl.CodeKeep}}, 230)
	m.Funs[0].Code[458], m.Funs[0].Code[459] = impl.CodeIns{Op: impl.CodeLoad}, impl.CodeIns{Op: impl.CodeBack}
	if got := checkSure(t, "the longest", m); got != noFault {
		t.Error(got)
	}
	m.Funs = slices.Repeat(m.Funs[:1], 8)
	if got := checkSure(t, "eight of the longest", m); got != noFault {
		t.Error(got)
	}
	m = imageOf(t, whole)
	m.Funs = slices.Repeat(m.Funs[1:], 72)
	m.Mains = nil
	if got := checkSure(t, "72 functions", m); got != noFault {
		t.Error(got)
	}
	m.Mains = []int{71}
	if got := checkSure(t, "72 functions and a main", m); got != sureAt(impl.SureMain, 71, 0) {
		t.Error(got)
	}
}

// Functions of Mains have no Args; the first of them in Mains that has is told.
func TestSureMains(t *testing.T) {
	const funs = "fun a.f - int 0: push 1, back 0; fun a.g int int 1: load 0, back 0; fun b.main row,bool int 2: push 1, back 0; fun b.h bool,bool,bool,bool int 4: push 1, back 0; fun b.k - bool 0: flag 1, back 0; "
	main := func(fun int) impl.SureFault { return sureAt(impl.SureMain, fun, 0) }
	for _, c := range []struct {
		mains []int
		fault impl.SureFault
	}{
		{nil, noFault}, {[]int{0}, noFault}, {[]int{4}, noFault}, {[]int{0, 4}, noFault}, {[]int{4, 0, 4}, noFault},
		{[]int{1}, main(1)}, {[]int{2}, main(2)}, {[]int{3}, main(3)}, {[]int{0, 1}, main(1)}, {[]int{1, 0}, main(1)}, {[]int{0, 4, 3}, main(3)},
		{[]int{1, 2}, main(1)}, {[]int{2, 1}, main(2)}, {[]int{3, 2, 1}, main(3)}, {[]int{4, 2, 3}, main(2)}, {[]int{0, 0, 0, 0, 0, 0, 0, 2}, main(2)}, {[]int{3, 3}, main(3)},
	} {
		m := imageOf(t, strings.TrimSuffix(funs, "; "))
		m.Mains = c.mains
		if got := checkSure(t, "mains", m); got != c.fault {
			t.Errorf("%v: %v; want %v", c.mains, got, c.fault)
		}
		// That is so whatever else is wrong in the functions, and in which.
		for i := range m.Funs {
			for _, code := range [][]impl.CodeIns{nil, {{Op: impl.CodeBack}}, {{Op: impl.CodePrim, A: 99}}} {
				other := settledImage(m)
				other.Funs[i].Code = code
				got, want := checkSure(t, "mains and a fault", other), c.fault
				if want == noFault {
					want.Fun = i
					got.Code = 0
				}
				if got != want {
					t.Errorf("%v and %v in %d: %v; want %v", c.mains, code, i, got, want)
				}
			}
		}
	}
}

// Ahead of the first instruction: the Args find their slots, and there is an instruction.
func TestSureAhead(t *testing.T) {
	for args := range 5 {
		for slots := range 7 {
			m := impl.LinkImage{Funs: []impl.LinkFun{{Mod: "a", Name: "f", Args: slices.Repeat([]int{2}, args), Type: 1, Slots: slots}}}
			for _, code := range []string{"", "push 1, back 0", "prim 0, back 0", "back 0", "push 1", "load " + strconv.Itoa(max(args, 1)-1) + ", unless 2, push 1, back 0"} {
				var want impl.SureFault
				switch {
				case args > slots:
					want.Code = impl.SureOp
				case code == "" || code == "push 1":
					want.Code = impl.SureEnd
				case code == "prim 0, back 0" || strings.HasPrefix(code, "load") && slots == 0:
					want.Code = impl.SureOp
				case code == "back 0":
					want.Code = impl.SureStack
				case strings.HasPrefix(code, "load") && args == 0:
					want.Code = impl.SureKind
				}
				m.Funs[0].Code = codeOf(t, code)
				if got := checkSure(t, code, m); got != want {
					t.Errorf("%d Args, %d Slots, %q: %v; want %v", args, slots, code, got, want)
				}
				// The same behind a function that is right.
				both := bothImages(imageOf(t, "fun b.g - int 0: push 1, back 0"), m)
				if want.Code != 0 {
					want.Fun = 1
				}
				if got := checkSure(t, code, both); got != want {
					t.Errorf("%d Args, %d Slots, %q behind another: %v; want %v", args, slots, code, got, want)
				}
			}
		}
	}
	// The Args lie in the first slots in their order; no other slot is known.
	for place, kind := range []int{2, 1, 3, 2} {
		for other := 1; other <= 3; other++ {
			m := imageOf(t, "fun a.f bool,int,row,bool int 6: load "+strconv.Itoa(place)+", back 0")
			m.Funs[0].Type = other
			var want impl.SureFault
			if kind != other {
				want = sureAt(impl.SureKind, 0, 1)
			}
			if got := checkSure(t, "slots", m); got != want {
				t.Errorf("%d is %d: %v", place, other, got)
			}
		}
	}
	checkCases(t, []sureCase{
		{"fun a.f bool,int,row,bool int 6: load 4, back 0", sureAt(impl.SureKind, 0, 0)},
		{"fun a.f bool,int,row,bool int 6: load 5, back 0", sureAt(impl.SureKind, 0, 0)},
		{"fun a.f bool,int,row,bool int 6: load 6, back 0", sureAt(impl.SureOp, 0, 0)},
		{"fun a.f bool,int,row,bool int 4: load 4, back 0", sureAt(impl.SureOp, 0, 0)},
	})
}

// codeOf is instructions, told with `, ` between.
func codeOf(t *testing.T, code string) []impl.CodeIns {
	t.Helper()
	text := "fun a.f - int 0"
	if code != "" {
		text += ": " + code
	}
	return imageOf(t, text).Funs[0].Code
}

// bothImages is the functions of two images one behind the other, with the mains of the first.
func bothImages(a, b impl.LinkImage) impl.LinkImage {
	return impl.LinkImage{Funs: slices.Concat(a.Funs, b.Funs), Mains: a.Mains}
}
