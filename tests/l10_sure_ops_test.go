package tests

import (
	"fmt"
	"slices"
	"strings"
	"testing"

	"loop.example/smithy/impl"
)

// checkOne looks through an image of one function, told by a text with numbers in it; no code is no fault.
func checkOne(t *testing.T, code, at int, text string, numbers ...any) {
	t.Helper()
	want := noFault
	if code != 0 {
		want = sureAt(code, 0, at)
	}
	checkCases(t, []sureCase{{fmt.Sprintf(text, numbers...), want}})
}

// Operands of `load` and `keep` are below Slots.
func TestSureSlots(t *testing.T) {
	for _, slots := range []int{0, 1, 2, 3, 7, 998, 999, 1000} {
		for _, a := range []int{0, 1, 2, 3, 4, 6, 7, 8, 997, 998, 999, 1000} {
			if a < slots {
				checkOne(t, 0, 0, "fun a.f - int %d: push 1, keep %d, load %d, back 0", slots, a, a)
				checkOne(t, 0, 0, "fun a.f - row %d: row 0, keep %d, load %d, back 0", slots, a, a)
				checkOne(t, impl.SureKind, 0, "fun a.f - int %d: load %d, back 0", slots, a)
				continue
			}
			checkOne(t, impl.SureOp, 1, "fun a.f - int %d: push 1, keep %d, push 1, back 0", slots, a)
			checkOne(t, impl.SureOp, 0, "fun a.f - int %d: load %d, back 0", slots, a)
			checkOne(t, impl.SureOp, 1, "fun a.f - int %d: push 1, load %d, prim 1, back 0", slots, a)
		}
	}
}

// A machine's primitives are 1 to 14; a row has at most 16 numbers; a function that is called is one of all.
func TestSureNumbers(t *testing.T) {
	for a := range 20 {
		// Whatever it would pop is there.
		for _, stack := range []string{"push 1, push 1", "row 0, row 0", "row 0, push 1", "row 0, push 1, push 1", "flag 1", "row 0", "push 1"} {
			at := strings.Count(stack, ",") + 1
			m := imageOf(t, fmt.Sprintf("fun a.f - int 0: %s, prim %d, back 0", stack, a))
			got := checkSure(t, "primitives", m)
			if (a < 1 || a > 14) != (got == sureAt(impl.SureOp, 0, at)) {
				t.Errorf("prim %d: %v", a, got)
			}
		}
		code := 0
		if a > 16 {
			code = impl.SureOp
		}
		checkOne(t, code, a, "fun a.f - row 0: %srow %d, back 0", strings.Repeat("push 1, ", a), a)
		checkOne(t, code, a+1, "fun a.f - int 1: flag 1, %srow %d, prim 11, keep 0, keep 0, push 1, back 0", strings.Repeat("push 1, ", a), a)
	}
	for _, a := range []int{15, 16, 100, 999, 1000} {
		checkOne(t, impl.SureOp, 1, "fun a.f - int 0: push 1, prim %d, back 0", a)
	}
	for _, a := range []int{17, 18, 100, 101, 1000} {
		checkOne(t, impl.SureOp, 99, "fun a.f - row 0: %srow %d, back 0", strings.Repeat("push 1, ", 99), a)
	}
	for _, n := range []int{1, 2, 3, 9, 71, 72} {
		for _, a := range []int{0, n - 2, n - 1, n, n + 1, 72, 1000} {
			for _, from := range []int{0, n / 2, n - 1} {
				m := imageOf(t, "fun a.f - int 0: push 1, back 0")
				m.Funs = slices.Repeat(m.Funs, n)
				if a = max(a, 0); a < n {
					m.Funs[from].Code = codeOf(t, fmt.Sprintf("call %d, back 0", a))
				} else {
					m.Funs[from].Code = codeOf(t, fmt.Sprintf("push 1, call %d, back 0", a))
				}
				want := noFault
				if a >= n {
					want = sureAt(impl.SureOp, from, 1)
				}
				if got := checkSure(t, "calls", m); got != want {
					t.Errorf("call %d of %d in %d: %v", a, n, from, got)
				}
			}
		}
	}
}

// `jump` and `unless` go on behind themselves, where there is an instruction.
func TestSureJumps(t *testing.T) {
	const n = 9
	for at := 1; at < n-1; at++ {
		for _, a := range append(placesOf(n+3), 459, 460, 461, 1000) {
			// All others go on at the next one, with one value on the stack.
			var code []impl.CodeIns
			for place := range n {
				code = append(code, impl.CodeIns{Op: impl.CodeJump, A: place + 1})
			}
			code[0], code[n-1] = impl.CodeIns{Op: impl.CodePush}, impl.CodeIns{Op: impl.CodeBack}
			code[at].A = a
			want := noFault
			switch {
			case a <= at:
				want = sureAt(impl.SureOp, 0, at)
			case a >= n:
				want = sureAt(impl.SureEnd, 0, at)
			case a > at+1:
				want = sureAt(impl.SureEnd, 0, at+1)
			}
			m := impl.LinkImage{Funs: []impl.LinkFun{{Mod: "a", Name: "f", Type: 1, Code: code}}}
			if got := checkSure(t, "jump", m); got != want {
				t.Errorf("jump %d at %d: %v; want %v", a, at, got, want)
			}
			if at == 1 {
				continue
			}
			code[at-1] = impl.CodeIns{Op: impl.CodeFlag}
			code[at].Op = impl.CodeUnless
			if a > at && a < n {
				want = noFault
			}
			if got := checkSure(t, "unless", m); got != want {
				t.Errorf("unless %d at %d: %v; want %v", a, at, got, want)
			}
		}
	}
	// In the longest function, to its last place, and past its end.
	long := slices.Repeat(codeOf(t, "push 1, keep 0"), 228)
	for _, a := range []int{456, 457, 458, 459, 460} {
		for _, op := range []int{impl.CodeJump, impl.CodeUnless} {
			code := slices.Concat(codeOf(t, "flag 1"), []impl.CodeIns{{Op: op, A: a}}, long[:456], codeOf(t, "push 1, back 0"))
			m := impl.LinkImage{Funs: []impl.LinkFun{{Mod: "a", Name: "f", Type: 1, Slots: 1, Code: code}}}
			want := noFault
			switch {
			case a == 460:
				want = sureAt(impl.SureEnd, 0, 1)
			case op == impl.CodeJump:
				want = sureAt(impl.SureEnd, 0, 2)
			case a == 457:
				want = sureAt(impl.SureJoin, 0, 456)
			case a == 459:
				want = sureAt(impl.SureJoin, 0, 458)
			}
			if got := checkSure(t, "long", m); got != want {
				t.Errorf("%d %d: %v; want %v", op, a, got, want)
			}
		}
	}
}

// What follows on what goes elsewhere is not reached, if nothing else goes there.
func TestSureReached(t *testing.T) {
	checkCases(t, []sureCase{
		{"fun a.f - int 0: push 1, back 0, push 1, back 0", sureAt(impl.SureEnd, 0, 2)},
		{"fun a.f - int 0: push 1, back 0, back 0", sureAt(impl.SureEnd, 0, 2)},
		{"fun a.f - int 0: push 1, jump 3, push 2, back 0", sureAt(impl.SureEnd, 0, 2)},
		{"fun a.f - int 0: jump 2, jump 3, push 1, back 0", sureAt(impl.SureEnd, 0, 1)},
		{"fun a.f - int 0: push 1, jump 5, push 1, jump 5, push 1, back 0", sureAt(impl.SureEnd, 0, 2)},
		{"fun a.f - int 0: push 1, jump 2, back 0", noFault},
		{"fun a.f - int 0: flag 1, unless 4, push 1, back 0, push 2, back 0", noFault},
		{"fun a.f - int 0: flag 1, unless 5, push 1, back 0, push 2, back 0", sureAt(impl.SureEnd, 0, 4)},
		{"fun a.f - int 0: flag 1, unless 6, push 1, jump 7, push 3, jump 7, push 2, back 0", sureAt(impl.SureEnd, 0, 4)},
		{"fun a.f - int 0: flag 1, unless 5, push 1, jump 6, push 3, push 2, back 0", sureAt(impl.SureEnd, 0, 4)},
		{"fun a.f - int 0: flag 1, unless 3, jump 3, push 1, back 0", noFault},
		// What nobody reaches is told ahead of all else that is wrong with it, and behind what is wrong ahead of it.
		{"fun a.f - int 0: push 1, back 0, prim 0", sureAt(impl.SureEnd, 0, 2)},
		{"fun a.f - int 0: push 1, back 0, jump 0", sureAt(impl.SureEnd, 0, 2)},
		{"fun a.f - int 0: push 1, back 0, load 5", sureAt(impl.SureEnd, 0, 2)},
		{"fun a.f - int 0: push 1, back 0, keep 0", sureAt(impl.SureEnd, 0, 2)},
		{"fun a.f - int 0: flag 1, back 0, push 1", sureAt(impl.SureKind, 0, 1)},
		{"fun a.f - int 0: jump 3, push 1, back 0", sureAt(impl.SureEnd, 0, 0)},
		{"fun a.f - int 0: jump 2, push 1, push 1, push 1", sureAt(impl.SureEnd, 0, 1)},
		// What only one that nobody reaches would reach is not looked at ahead of it.
		{"fun a.f - int 0: push 1, back 0, jump 4, jump 4, back 0", sureAt(impl.SureEnd, 0, 2)},
		// Code that ends without a `back`.
		{"fun a.f - int 0: push 1", sureAt(impl.SureEnd, 0, 0)},
		{"fun a.f - int 0: flag 1", sureAt(impl.SureEnd, 0, 0)},
		{"fun a.f - int 0: row 0", sureAt(impl.SureEnd, 0, 0)},
		{"fun a.f int int 1: load 0", sureAt(impl.SureEnd, 0, 0)},
		{"fun a.f int int 1: load 0, keep 0", sureAt(impl.SureEnd, 0, 1)},
		{"fun a.f int int 1: load 0, prim 14", sureAt(impl.SureEnd, 0, 1)},
		{"fun a.f - int 0: call 0", sureAt(impl.SureEnd, 0, 0)},
		{"fun a.f - int 0: jump 1", sureAt(impl.SureEnd, 0, 0)},
		{"fun a.f - int 0: flag 1, unless 2", sureAt(impl.SureEnd, 0, 1)},
		{"fun a.f - int 0: flag 1, unless 3, push 1", sureAt(impl.SureEnd, 0, 1)},
		{"fun a.f - int 0: flag 1, unless 4, push 1, back 0, push 2", sureAt(impl.SureEnd, 0, 4)},
		{"fun a.f - int 0: flag 1, unless 4, push 1, back 0, jump 5", sureAt(impl.SureEnd, 0, 4)},
		{"fun a.f - int 0: flag 1, unless 4, push 1, jump 5, push 2", sureAt(impl.SureEnd, 0, 3)},
	})
}

// pushing is code that has values of these kinds on the stack.
func pushing(kinds ...int) string {
	var out strings.Builder
	for _, kind := range kinds {
		out.WriteString([]string{"push 7, ", "flag 1, ", "row 0, "}[kind-1])
	}
	return out.String()
}

// popped is what comes of popping values of these kinds, the last one first; 0 is any kind.
func popped(stack, wants []int) int {
	for i := range wants {
		if i == len(stack) {
			return impl.SureStack
		}
		if want := wants[len(wants)-1-i]; want != 0 && want != stack[len(stack)-1-i] {
			return impl.SureKind
		}
	}
	return 0
}

// popper is an instruction, and the kinds that it pops.
type popper struct {
	text  string
	wants []int
	gives int
}

// poppers are all that pop; those that call call the functions of popFuns.
func poppers() []popper {
	all := []popper{{"keep 0", []int{0}, 0}, {"unless %d", []int{2}, 0}}
	for i, word := range insPrims {
		args, kind := plainPrim(word)
		all = append(all, popper{fmt.Sprintf("prim %d", i+1), args, kind})
	}
	for a := range 5 {
		all = append(all, popper{fmt.Sprintf("row %d", a), slices.Repeat([]int{1}, a), 3})
	}
	for i, args := range popArgs {
		all = append(all, popper{fmt.Sprintf("call %d", i+1), args, i%3 + 1})
	}
	return all
}

var popArgs = [][]int{nil, {1}, {2}, {3}, {1, 2}, {2, 1}, {3, 3}, {1, 2, 3}, {3, 2, 1}, {2, 2, 1}, {1, 1, 2, 3}, {3, 1, 2, 2}, {2, 3, 3, 1}}

// popFuns are functions with these Args.
func popFuns() []impl.LinkFun {
	var all []impl.LinkFun
	for i, args := range popArgs {
		f := impl.LinkFun{Mod: "pop", Name: names(20)[i], Args: args, Type: i%3 + 1, Slots: len(args)}
		f.Code = [][]impl.CodeIns{{{Op: impl.CodePush}, {Op: impl.CodeBack}}, {{Op: impl.CodeFlag}, {Op: impl.CodeBack}}, {{Op: impl.CodeRow}, {Op: impl.CodeBack}}}[i%3]
		all = append(all, f)
	}
	return all
}

// Each pop, with each stack of up to one value more than is wanted.
func TestSurePops(t *testing.T) {
	count := map[int]int{}
	for _, p := range poppers() {
		for n := range len(p.wants) + 2 {
			everyTypes(n, func(stack []int) {
				text := p.text
				if strings.Contains(text, "%d") {
					text = fmt.Sprintf(text, n+1)
				}
				m := imageOf(t, "fun a.f - int 1: "+pushing(stack...)+text+", push 7, back 0")
				m.Funs = append(m.Funs, popFuns()...)
				got := checkSure(t, text, m)
				code := popped(stack, p.wants)
				count[code]++
				if want := sureAt(code, 0, n); code != 0 && got != want || code == 0 && got != noFault && got.At <= n {
					t.Errorf("%s on %v: %v; want %v", text, stack, got, want)
				}
				if code != 0 {
					return
				}
				// What it pushes is there then: nothing else is below it than was.
				stacks := slices.Clone(stack[:n-len(p.wants)])
				if p.gives != 0 {
					stacks = append(stacks, p.gives)
				}
				checkAhead(t, text, m, n+1, stacks)
			})
		}
	}
	if count[0] < 100 || count[impl.SureStack] < 50 || count[impl.SureKind] < 500 {
		t.Error(count)
	}
}

// checkAhead says what is on the stack ahead of an instruction of the first function, as `back` finds it for each Type.
func checkAhead(t *testing.T, what string, m impl.LinkImage, at int, stack []int) {
	t.Helper()
	m.Funs = slices.Clone(m.Funs)
	f := &m.Funs[0]
	f.Code = append(slices.Clone(f.Code[:at]), impl.CodeIns{Op: impl.CodeBack})
	for kind := 1; kind <= 3; kind++ {
		f.Type = kind
		got := checkSure(t, what, m)
		want := sureAt(impl.SureStack, 0, at)
		if len(stack) == 1 && stack[0] == kind {
			want = noFault
		} else if len(stack) == 1 {
			want = sureAt(impl.SureKind, 0, at)
		}
		if got != want {
			t.Errorf("%s: back of %d with %v: %v; want %v", what, kind, stack, got, want)
		}
	}
	// All of it is told, where it is no fault.
	f.Code = f.Code[:at]
	for range stack {
		f.Code = append(f.Code, impl.CodeIns{Op: impl.CodeKeep})
	}
	f.Code = append(f.Code, impl.CodeIns{Op: impl.CodePush}, impl.CodeIns{Op: impl.CodeBack})
	f.Type, f.Slots = 1, max(f.Slots, 1)
	checkSure(t, what, m)
	rows, ok := impl.SureStacks(m, 0)
	if !ok || !slices.Equal(rows[at], stack) {
		t.Errorf("%s: the stacks are %v, %v; want %v at %d", what, rows, ok, stack, at)
	}
}

// A row of each number of numbers, with one of another kind at each place, and with one less.
func TestSureRows(t *testing.T) {
	for a := range 17 {
		checkOne(t, 0, 0, "fun a.f - row 0: %srow %d, back 0", strings.Repeat("push 1, ", a), a)
		for place := range a {
			numbers := slices.Repeat([]int{1}, a)
			for kind := 2; kind <= 3; kind++ {
				numbers[place] = kind
				checkOne(t, impl.SureKind, a, "fun a.f - row 0: %srow %d, back 0", pushing(numbers...), a)
			}
			checkOne(t, impl.SureStack, place, "fun a.f - row 0: %srow %d, back 0", strings.Repeat("push 1, ", place), a)
			if place > 0 {
				// The one below that is of another kind, and too few: what is popped first is told.
				checkOne(t, impl.SureKind, place, "fun a.f - row 0: flag 1, %srow %d, back 0", strings.Repeat("push 1, ", place-1), a)
			}
		}
		// One more below is not popped.
		checkOne(t, impl.SureStack, a+2, "fun a.f - row 0: push 1, %srow %d, back 0", strings.Repeat("push 1, ", a), a)
	}
}

// `back` finds just one value, of the function's Type.
func TestSureBack(t *testing.T) {
	for n := range 4 {
		everyTypes(n, func(stack []int) {
			m := imageOf(t, "fun a.f - int 0: "+pushing(stack...)+"back 0")
			for kind := 1; kind <= 3; kind++ {
				m.Funs[0].Type = kind
				want := sureAt(impl.SureStack, 0, n)
				if n == 1 && stack[0] == kind {
					want = noFault
				} else if n == 1 {
					want = sureAt(impl.SureKind, 0, n)
				}
				if got := checkSure(t, "back", m); got != want {
					t.Errorf("back of %d with %v: %v; want %v", kind, stack, got, want)
				}
			}
		})
	}
	checkOne(t, impl.SureStack, 100, "fun a.f - int 0: %sback 0", strings.Repeat("push 1, ", 100))
	// Nothing follows it: not even where it would be the last.
	checkCases(t, []sureCase{
		{"fun a.f - int 0: flag 1, unless 4, push 1, back 0, push 1, back 0", noFault},
		{"fun a.f - int 0: flag 1, unless 4, push 1, back 0, flag 1, back 0", sureAt(impl.SureKind, 0, 5)},
		{"fun a.f - int 0: flag 1, unless 4, flag 1, back 0, push 1, back 0", sureAt(impl.SureKind, 0, 3)},
		{"fun a.f - int 0: flag 1, unless 4, push 1, back 0, push 1, flag 1, back 0", sureAt(impl.SureStack, 0, 6)},
	})
}

// A slot has the kind that was kept last, by whatever way.
func TestSureKept(t *testing.T) {
	for first := 1; first <= 3; first++ {
		for second := 1; second <= 3; second++ {
			for kind := 1; kind <= 3; kind++ {
				back := func(has int) int {
					if has != kind {
						return impl.SureKind
					}
					return 0
				}
				word := []string{"int", "bool", "row"}[kind-1]
				arg := []string{"int", "bool", "row"}[first-1]
				checkOne(t, back(second), 5, "fun a.f - %s 1: %skeep 0, %skeep 0, load 0, back 0", word, pushing(first), pushing(second))
				checkOne(t, back(first), 5, "fun a.f - %s 2: %skeep 0, %skeep 1, load 0, back 0", word, pushing(first), pushing(second))
				checkOne(t, back(second), 5, "fun a.f - %s 2: %skeep 0, %skeep 1, load 1, back 0", word, pushing(first), pushing(second))
				checkOne(t, back(second), 3, "fun a.f %s %s 1: %skeep 0, load 0, back 0", arg, word, pushing(second))
				checkOne(t, back(first), 3, "fun a.f %s %s 2: %skeep 1, load 0, back 0", arg, word, pushing(second))
				// Loaded ahead of that it is as it was then.
				checkOne(t, back(first), 5, "fun a.f %s %s 3: load 0, %skeep 0, load 0, keep 2, back 0", arg, word, pushing(second))
			}
		}
	}
	checkCases(t, []sureCase{
		{"fun a.f - int 2: push 1, keep 0, load 1, back 0", sureAt(impl.SureKind, 0, 2)},
		{"fun a.f - int 2: push 1, keep 1, load 0, back 0", sureAt(impl.SureKind, 0, 2)},
		{"fun a.f - int 2: load 0, keep 0, push 1, back 0", sureAt(impl.SureKind, 0, 0)},
		// `load` leaves a slot as it is, and `keep` pops.
		{"fun a.f int int 1: load 0, load 0, prim 1, load 0, prim 1, back 0", noFault},
		{"fun a.f int int 1: load 0, keep 0, back 0", sureAt(impl.SureStack, 0, 2)},
		{"fun a.f - int 1: push 1, push 2, keep 0, back 0", noFault},
		// What one function has kept no other knows.
		{"fun a.f - int 1: push 1, keep 0, load 0, back 0; fun a.g - int 1: load 0, back 0", sureAt(impl.SureKind, 1, 0)},
		{"fun a.f - int 1: push 1, keep 0, call 1, back 0; fun a.g - int 1: load 0, back 0", sureAt(impl.SureKind, 1, 0)},
		{"fun a.f - int 1: call 1, load 0, back 0; fun a.g - int 1: push 1, keep 0, load 0, back 0", sureAt(impl.SureKind, 0, 1)},
	})
}

// As many values as may be, and one more, by each instruction that pushes.
func TestSureMax(t *testing.T) {
	funs := "; fun b.none - int 0: push 1, back 0; fun b.one int row 1: row 0, back 0; fun b.two int,int int 2: push 1, back 0; fun b.four int,int,int,int bool 4: flag 1, back 0"
	for _, p := range []struct {
		text         string
		pops, pushes int
	}{
		{"push 1", 0, 1}, {"flag 1", 0, 1}, {"load 0", 0, 1}, {"call 1", 0, 1}, {"row 0", 0, 1},
		{"row 1", 1, 1}, {"row 2", 2, 1}, {"row 16", 16, 1}, {"call 2", 1, 1}, {"call 3", 2, 1}, {"call 4", 4, 1}, {"prim 1", 2, 1}, {"prim 8", 2, 1}, {"prim 14", 1, 1}, {"keep 1", 1, 0},
	} {
		for n := 98; n <= 101; n++ {
			want := noFault
			at := n + 1
			if n == 101 {
				want = sureAt(impl.SureStack, 0, 100)
			} else if n-p.pops+p.pushes > 100 {
				want = sureAt(impl.SureStack, 0, n)
			}
			keeps := n - p.pops + p.pushes
			text := strings.Repeat("push 1, ", n) + p.text + strings.Repeat(", keep 0", keeps) + ", push 1, back 0"
			m := imageOf(t, "fun a.f int int 2: "+text+funs)
			if got := checkSure(t, p.text, m); got != want {
				t.Errorf("%s on %d values: %v; want %v", p.text, n, got, want)
			}
			if rows, ok := impl.SureStacks(m, 0); ok && len(rows[at]) != keeps {
				t.Errorf("%s on %d values: %v", p.text, n, rows[at])
			}
		}
	}
	// Each primitive, on as many values as there may be.
	for i, word := range insPrims {
		args, _ := plainPrim(word)
		stack := append(slices.Repeat([]int{2}, 100-len(args)), args...)
		checkOne(t, 0, 0, "fun a.f - int 1: %sprim %d%s, push 1, back 0", pushing(stack...), i+1, strings.Repeat(", keep 0", 101-len(args)))
		checkOne(t, impl.SureStack, 100, "fun a.f - int 1: %spush 1, prim %d, back 0", pushing(stack...), i+1)
	}
	// Once it is full it may still go on, and be full again.
	full := strings.Repeat("push 1, ", 100)
	checkOne(t, 0, 0, "fun a.f - int 1: %skeep 0, load 0, jump 103%s, back 0", full, strings.Repeat(", prim 1", 99))
	checkOne(t, 0, 0, "fun a.f - int 1: %sprim 8, unless 102%s, back 0", full, strings.Repeat(", prim 1", 97))
	checkOne(t, impl.SureStack, 103, "fun a.f - int 1: %skeep 0, load 0, jump 103, load 0%s, back 0", full, strings.Repeat(", prim 1", 99))
	checkOne(t, impl.SureStack, 200, "fun a.f - int 1: %s%sback 0", full, strings.Repeat("keep 0, load 0, ", 50))
}

// All instructions that push know what they push: each is told with the kind that it has.
func TestSurePushes(t *testing.T) {
	for a, word := range []string{"int", "bool", "row"} {
		m := imageOf(t, "fun a.f "+word+" int 1: load 0, back 0")
		checkAhead(t, "load", m, 1, []int{a + 1})
		m = imageOf(t, "fun a.f - int 0: call 1, back 0; fun a.g - "+word+" 0: "+pushing(a+1)+"back 0")
		checkAhead(t, "call", m, 1, []int{a + 1})
		checkAhead(t, "two", imageOf(t, "fun a.f - int 1: "+pushing(a+1)+"push 5, prim 14, back 0"), 3, []int{a + 1, 1})
	}
	for _, a := range []string{"0", "1", "-1", "99999999999999999", "-99999999999999999"} {
		checkAhead(t, "push", imageOf(t, "fun a.f - int 1: push "+a+", back 0"), 1, []int{1})
	}
	for _, a := range []string{"0", "1"} {
		checkAhead(t, "flag", imageOf(t, "fun a.f - int 1: flag "+a+", back 0"), 1, []int{2})
	}
}
