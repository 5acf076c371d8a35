package tests

import (
	"fmt"
	"math"
	"slices"
	"strings"
	"testing"

	"loop.example/smithy/impl"
)

// Of several that are wrong with one instruction the first is told.
func TestSureFirstWithin(t *testing.T) {
	full := strings.Repeat("push 1, ", 100)
	for _, c := range []struct {
		code, at int
		text     string
	}{
		// The operand ahead of what there is to pop.
		{impl.SureOp, 0, "fun a.f - int 1: keep 1, push 1, back 0"},
		{impl.SureOp, 0, "fun a.f - int 1: prim 0, push 1, back 0"},
		{impl.SureOp, 0, "fun a.f - int 1: prim 15, push 1, back 0"},
		{impl.SureOp, 0, "fun a.f - int 1: unless 0, push 1, back 0"},
		{impl.SureOp, 0, "fun a.f - int 1: call 1, push 1, back 0"},
		{impl.SureOp, 0, "fun a.f - int 1: row 17, push 1, back 0"},
		// The operand ahead of the kind, and of what is pushed.
		{impl.SureOp, 1, "fun a.f - int 1: push 1, unless 1, push 1, back 0"},
		{impl.SureOp, 1, "fun a.f - int 1: push 1, unless 0, push 1, back 0"},
		{impl.SureOp, 17, "fun a.f - int 1: " + strings.Repeat("flag 1, ", 17) + "row 17, push 1, back 0"},
		{impl.SureOp, 100, "fun a.f - int 1: " + full + "load 1, back 0"},
		{impl.SureOp, 100, "fun a.f int int 1: " + full + "load 1, back 0"},
		{impl.SureOp, 100, "fun a.f - int 1: " + full + "call 1, back 0"},
		// The operand ahead of where it goes on.
		{impl.SureOp, 0, "fun a.f - int 1: load 1"},
		{impl.SureOp, 1, "fun a.f - int 1: push 1, keep 1"},
		{impl.SureOp, 1, "fun a.f - int 1: push 1, prim 15"},
		{impl.SureOp, 1, "fun a.f - int 1: flag 1, unless 1"},
		{impl.SureOp, 1, "fun a.f - int 1: flag 1, jump 0"},
		{impl.SureOp, 0, "fun a.f - int 1: call 1"},
		{impl.SureOp, 0, "fun a.f - int 1: row 17"},
		{impl.SureOp, 5, "fun a.f - int 1: flag 1, unless 6, push 1, push 1, push 1, load 1, push 1, back 0"},
		// What is popped one by one: what is not there ahead of what is pushed and of where it goes on.
		{impl.SureStack, 0, "fun a.f - int 1: keep 0"},
		{impl.SureStack, 0, "fun a.f - int 1: prim 14"},
		{impl.SureStack, 1, "fun a.f - int 1: push 1, prim 1"},
		{impl.SureStack, 0, "fun a.f - int 1: unless 1"},
		{impl.SureStack, 0, "fun a.f - int 1: unless 9, push 1, back 0"},
		{impl.SureStack, 0, "fun a.f - int 1: row 1"},
		{impl.SureStack, 0, "fun a.f int int 1: call 0"},
		{impl.SureStack, 3, "fun a.f - int 1: flag 1, unless 4, push 1, prim 1, push 1, back 0"},
		{impl.SureStack, 2, "fun a.f - int 1: flag 1, unless 3, unless 9, push 1, back 0"},
		// What is popped first counts: its kind ahead of that there is no other below it.
		{impl.SureKind, 1, "fun a.f - int 1: flag 1, prim 1, back 0"},
		{impl.SureKind, 1, "fun a.f - int 1: row 0, prim 10, back 0"},
		{impl.SureStack, 1, "fun a.f - int 1: push 1, prim 10, back 0"},
		{impl.SureKind, 2, "fun a.f - int 1: push 1, push 1, prim 10, back 0"},
		{impl.SureKind, 2, "fun a.f - int 1: row 0, row 0, prim 10, back 0"},
		{impl.SureKind, 2, "fun a.f - int 1: flag 1, push 1, prim 12, back 0"},
		{impl.SureStack, 2, "fun a.f - int 1: push 1, push 1, prim 12, back 0"},
		{impl.SureKind, 1, "fun a.f - int 1: flag 1, row 3, back 0"},
		{impl.SureKind, 3, "fun a.f - int 1: flag 1, push 1, push 1, row 4, back 0"},
		{impl.SureStack, 2, "fun a.f - int 1: push 1, push 1, row 4, back 0"},
		{impl.SureKind, 1, "fun a.f int,bool int 2: push 1, call 0, back 0"},
		{impl.SureStack, 1, "fun a.f int,bool int 2: flag 1, call 0, back 0"},
		{impl.SureKind, 2, "fun a.f int,bool int 2: flag 1, flag 1, call 0, back 0"},
		// The kind ahead of what is pushed, and of where it goes on.
		{impl.SureKind, 100, "fun a.f - int 1: " + full + "load 0, back 0"},
		{impl.SureKind, 0, "fun a.f - int 1: load 0"},
		{impl.SureKind, 1, "fun a.f - int 1: push 1, prim 9"},
		{impl.SureKind, 1, "fun a.f - int 1: push 1, unless 2"},
		{impl.SureKind, 1, "fun a.f - int 1: push 1, unless 9, push 1, back 0"},
		{impl.SureKind, 1, "fun a.f - int 1: flag 1, row 1"},
		{impl.SureKind, 1, "fun a.f int int 1: flag 1, call 0"},
		{impl.SureKind, 3, "fun a.f - int 1: flag 1, unless 4, push 1, prim 9, push 1, back 0"},
		{impl.SureKind, 3, "fun a.f - int 1: flag 1, unless 4, push 1, unless 9, push 1, back 0"},
		{impl.SureKind, 2, "fun a.f - int 1: flag 1, unless 3, load 0, push 1, back 0"},
		// `back` asks how many there are, then of which kind.
		{impl.SureStack, 2, "fun a.f - int 1: flag 1, flag 1, back 0"},
		{impl.SureStack, 2, "fun a.f - int 1: push 1, flag 1, back 0"},
		{impl.SureStack, 0, "fun a.f - int 1: back 0, push 1"},
		{impl.SureKind, 1, "fun a.f - int 1: flag 1, back 0, push 1"},
		// What is pushed ahead of where it goes on.
		{impl.SureStack, 100, "fun a.f int int 1: " + full + "push 1"},
		{impl.SureStack, 100, "fun a.f int int 1: " + full + "flag 1"},
		{impl.SureStack, 100, "fun a.f int int 1: " + full + "load 0"},
		{impl.SureStack, 100, "fun a.f int int 1: " + full + "row 0"},
		{impl.SureStack, 100, "fun a.f - int 1: " + full + "call 0"},
		{impl.SureStack, 102, "fun a.f - int 1: flag 1, unless 103, " + full + "push 1, push 1, back 0"},
		// Where it goes on: `unless` first where its operand is, then at the next one.
		{impl.SureEnd, 4, "fun a.f - int 1: flag 1, unless 5, push 1, flag 1, unless 9, push 1, back 0"},
		{impl.SureEnd, 4, "fun a.f - int 1: flag 1, unless 5, push 1, flag 1, unless 7, push 1, back 0"},
		{impl.SureJoin, 4, "fun a.f - int 1: flag 1, unless 6, push 1, flag 1, unless 6, back 0, push 1, back 0"},
		{impl.SureJoin, 4, "fun a.f - int 1: flag 1, unless 5, push 1, flag 1, unless 6, push 1, back 0"},
	} {
		checkOne(t, c.code, c.at, "%s", c.text)
	}
}

// wrongCode is code in which something is wrong, with places counted from its own first one on, and all else right.
type wrongCode struct {
	text     string
	code, at int
}

// wrongCodes begin with an empty stack, slot 0 not being known, slot 1 having an int, and no slot 2.
func wrongCodes() []wrongCode {
	return []wrongCode{
		{"load 2", impl.SureOp, 0}, {"push 1, keep 2", impl.SureOp, 1}, {"push 1, prim 0", impl.SureOp, 1}, {"push 1, prim 15", impl.SureOp, 1}, {"jump 0", impl.SureOp, 0}, {"flag 1, unless 1", impl.SureOp, 1}, {"call 72", impl.SureOp, 0}, {"row 17", impl.SureOp, 0},
		{"keep 0", impl.SureStack, 0}, {"push 1, prim 1", impl.SureStack, 1}, {"unless 1", impl.SureStack, 0}, {"push 1, row 2", impl.SureStack, 1}, {"back 0", impl.SureStack, 0}, {"push 1, load 1, back 0", impl.SureStack, 2},
		{"load 0", impl.SureKind, 0}, {"push 1, prim 9", impl.SureKind, 1}, {"load 1, unless 2", impl.SureKind, 1}, {"flag 1, row 1", impl.SureKind, 1}, {"row 0, back 0", impl.SureKind, 1}, {"flag 1, unless 4, flag 1, keep 1, load 1", impl.SureKind, 4},
		{"flag 1, unless 3, push 1", impl.SureJoin, 2}, {"flag 1, unless 4, push 1, jump 5, flag 1", impl.SureJoin, 4}, {"push 1, flag 1, unless 5, keep 0, jump 5", impl.SureJoin, 4},
		{"jump 2, push 1", impl.SureEnd, 1}, {"push 1, back 0, push 1, keep 0", impl.SureEnd, 2}, {"jump 460", impl.SureEnd, 0}, {"flag 1, unless 460", impl.SureEnd, 1},
	}
}

// laid is codes one behind the other.
func laid(codes ...[]impl.CodeIns) []impl.CodeIns {
	var all []impl.CodeIns
	for _, code := range codes {
		ahead := len(all)
		for _, ins := range code {
			if ins.Op == impl.CodeJump || ins.Op == impl.CodeUnless {
				ins.A = min(ins.A+ahead, 460)
			}
			all = append(all, ins)
		}
	}
	return all
}

// Of each two that are wrong in one function the first is told; of each two functions the first one's.
func TestSureFirst(t *testing.T) {
	first, last := codeOf(t, "push 1, keep 1"), codeOf(t, "push 1, back 0")
	fun := func(name string, code []impl.CodeIns) impl.LinkFun {
		return impl.LinkFun{Mod: "a", Name: name, Type: 1, Slots: 2, Code: code}
	}
	whole := fun("whole", laid(first, last))
	look := func(what string, funs []impl.LinkFun, want impl.SureFault) {
		t.Helper()
		if got := checkSure(t, what, impl.LinkImage{Funs: funs}); got != want {
			t.Errorf("%s: %v; want %v", what, got, want)
		}
	}
	look("nothing", []impl.LinkFun{whole, whole}, noFault)
	codes := wrongCodes()
	for i, a := range codes {
		one := codeOf(t, a.text)
		alone := laid(first, one, last)
		f := fun("f", alone)
		look(a.text, []impl.LinkFun{f}, sureAt(a.code, 0, 2+a.at))
		look(a.text+" behind", []impl.LinkFun{whole, f, whole}, sureAt(a.code, 1, 2+a.at))
		none, more := fun("none", nil), whole
		more.Args = []int{1, 1, 1}
		look(a.text+" behind no code", []impl.LinkFun{whole, none, f}, sureAt(impl.SureEnd, 1, 0))
		look(a.text+" ahead of no code", []impl.LinkFun{whole, f, none}, sureAt(a.code, 1, 2+a.at))
		look(a.text+" behind more Args", []impl.LinkFun{more, f}, sureAt(impl.SureOp, 0, 0))
		look(a.text+" ahead of more Args", []impl.LinkFun{f, more}, sureAt(a.code, 0, 2+a.at))
		f.Args = []int{1, 1, 1}
		look(a.text+" and more Args", []impl.LinkFun{whole, f}, sureAt(impl.SureOp, 1, 0))
		for j, b := range codes {
			other := codeOf(t, b.text)
			g := fun("g", laid(first, one, other, last))
			what := fmt.Sprintf("%s, then %s", a.text, b.text)
			look(what, []impl.LinkFun{g}, sureAt(a.code, 0, 2+a.at))
			h := fun("h", laid(first, other, last))
			f := fun("f", alone)
			look(what+", in two", []impl.LinkFun{whole, f, h}, sureAt(a.code, 1, 2+a.at))
			look(what+", with one between", []impl.LinkFun{f, whole, whole, h, whole}, sureAt(a.code, 0, 2+a.at))
			if i == j {
				look(what+", twice", []impl.LinkFun{f, g, h}, sureAt(a.code, 0, 2+a.at))
			}
		}
	}
	// All Mains are looked at ahead of all functions, and that there is a text ahead of all Mains.
	for _, a := range codes {
		f := fun("f", laid(first, codeOf(t, a.text), last))
		asks := whole
		asks.Args = []int{2}
		m := impl.LinkImage{Funs: []impl.LinkFun{whole, f, asks}, Mains: []int{0, 1, 2}}
		if got := checkSure(t, "mains", m); got != sureAt(impl.SureMain, 2, 0) {
			t.Errorf("%s: %v", a.text, got)
		}
		m.Mains = []int{0, 1}
		if got := checkSure(t, "mains without Args", m); got != sureAt(a.code, 1, 2+a.at) {
			t.Errorf("%s: %v", a.text, got)
		}
		m.Mains = []int{2, 3}
		if got := checkSure(t, "no text", m); got != sureAt(impl.SureForm, 0, 0) {
			t.Errorf("%s: %v", a.text, got)
		}
	}
}

// What SureStacks tells, of which functions.
func TestSureStacks(t *testing.T) {
	const whole = "fun a.f - row 0: push 1, push 2, row 2, back 0; fun a.g bool,row int 3: push 5, load 0, unless 7, push 1, prim 1, flag 0, keep 2, back 0; fun a.main - bool 0: flag 1, call 0, call 1, push 0, prim 8, back 0"
	rows := [][][]int{
		{nil, {1}, {1, 1}, {3}},
		{nil, {1}, {1, 2}, {1}, {1, 1}, {1}, {1, 2}, {1}},
		{nil, {2}, {2, 3}, {1}, {1, 1}, {2}},
	}
	look := func(what string, m impl.LinkImage, number int, want [][]int) {
		t.Helper()
		got, ok := impl.SureStacks(m, number)
		if ok != (want != nil) || !sameRows(got, want) {
			t.Errorf("%s: SureStacks of %d = %v, %v; want %v", what, number, got, ok, want)
		}
	}
	m := imageOf(t, whole)
	checkSure(t, "whole", m)
	for number, want := range rows {
		look("whole", m, number, want)
	}
	for _, number := range []int{math.MinInt, -1 << 32, -3, -2, -1, 3, 4, 72, 1 << 32, 1<<32 + 1, math.MaxInt} {
		look("no function", m, number, nil)
		look("no function", impl.LinkImage{}, number, nil)
	}
	look("nothing", impl.LinkImage{}, 0, nil)
	// An image without a text has none, even of what is right in it.
	for _, turn := range []func(m *impl.LinkImage){
		func(m *impl.LinkImage) { m.Mains = []int{3} },
		func(m *impl.LinkImage) { m.Mains = make([]int, 9) },
		func(m *impl.LinkImage) { m.Funs[2].Name = "" },
		func(m *impl.LinkImage) { m.Funs[2].Code = append(m.Funs[2].Code, impl.CodeIns{Op: 11}) },
		func(m *impl.LinkImage) { m.Funs = append(m.Funs, impl.LinkFun{}) },
	} {
		m := imageOf(t, whole)
		turn(&m)
		checkSure(t, "no text", m)
		for number := range rows {
			look("no text", m, number, nil)
		}
	}
	// A function with a fault has none; those beside it have theirs. What calls it hangs on its types alone.
	for at := range rows {
		for _, code := range []string{"", "back 0", "push 1", "row 17", "push 1, back 0, back 0", "load 3, back 0", "jump 0", "flag 1, unless 3, push 1, push 1, back 0", strings.Repeat("push 1, ", 101) + "back 0"} {
			m := imageOf(t, whole)
			m.Funs[at].Code = codeOf(t, code)
			checkSure(t, code, m)
			for number, want := range rows {
				if number == at {
					want = nil
				}
				look(code, m, number, want)
			}
		}
		m := imageOf(t, whole)
		m.Funs[at].Args, m.Funs[at].Slots = []int{2, 3}, 1
		want := slices.Clone(rows)
		want[at] = nil
		if at == 0 {
			// Its caller finds one value where two are wanted.
			want[2] = nil
		}
		checkSure(t, "more Args", m)
		for number := range rows {
			look("more Args", m, number, want[number])
		}
	}
	// A function of Mains that has Args is a fault of the image, and none of its functions.
	m = imageOf(t, whole)
	m.Mains = []int{1, 2}
	if got := checkSure(t, "mains", m); got != sureAt(impl.SureMain, 1, 0) {
		t.Error(got)
	}
	for number, want := range rows {
		look("mains", m, number, want)
	}
}

// The rows of a stack as high as may be, and of the longest function.
func TestSureStacksLong(t *testing.T) {
	m := imageOf(t, "fun a.f - int 0: "+strings.Repeat("push 1, ", 100)+strings.Repeat("prim 1, ", 99)+"back 0")
	rows, ok := impl.SureStacks(m, 0)
	if checkSure(t, "high", m); !ok || len(rows) != 200 {
		t.Fatal(len(rows), ok)
	}
	for at, row := range rows {
		if want := min(at, 200-at); len(row) != want || len(row) > 0 && slices.Max(row) != 1 {
			t.Errorf("%v at %d", row, at)
		}
	}
	m = imageOf(t, "fun a.f - bool 0: flag 1, "+strings.Repeat("prim 9, ", 458)+"back 0")
	rows, ok = impl.SureStacks(m, 0)
	if checkSure(t, "long", m); !ok || len(rows) != 460 || len(rows[0]) > 0 || !slices.Equal(rows[459], []int{2}) {
		t.Error(len(rows), ok)
	}
}
