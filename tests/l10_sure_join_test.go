package tests

import (
	"fmt"
	"slices"
	"strings"
	"testing"

	"loop.example/smithy/impl"
)

// wayState is where one way through the code is, with what is there by that way alone: kinds are letters.
type wayState struct {
	at           int
	stack, slots string
}

// everyWay walks along each way through a function of an image that has a text. It tells the stack that all
// ways have ahead of each instruction; not so, if one goes wrong, if two have other stacks at one instruction,
// or load other kinds by one, or an instruction is on none.
func everyWay(m impl.LinkImage, number int) ([]string, bool) {
	fun := m.Funs[number]
	if len(fun.Args) > fun.Slots {
		return nil, false
	}
	stacks, loads := map[int]string{}, map[int]string{}
	work := []wayState{{0, "", lettersOf(fun.Args...) + strings.Repeat("?", fun.Slots-len(fun.Args))}}
	seen := map[wayState]bool{work[0]: true}
	for ; len(work) > 0; work = work[1:] {
		way := work[0]
		if way.at >= len(fun.Code) {
			return nil, false
		}
		if known, ok := stacks[way.at]; ok && known != way.stack {
			return nil, false
		}
		stacks[way.at] = way.stack
		step := plainStepOf(m, fun, way.at)
		if !step.right {
			return nil, false
		}
		if ins := fun.Code[way.at]; ins.Op == impl.CodeLoad {
			step.gives = way.slots[ins.A : ins.A+1]
			if known, ok := loads[way.at]; step.gives == "?" || ok && known != step.gives {
				return nil, false
			}
			loads[way.at] = step.gives
		} else if ins.Op == impl.CodeBack && way.stack != lettersOf(fun.Type) {
			return nil, false
		}
		left, found := len(way.stack)-len(step.wants), ""
		if left >= 0 {
			way.stack, found = way.stack[:left], way.stack[left:]
		}
		if found != step.wants && (step.wants != "*" || left < 0) {
			return nil, false
		} else if step.wants == "*" {
			a := fun.Code[way.at].A
			way.slots = way.slots[:a] + found + way.slots[a+1:]
		}
		if way.stack += step.gives; len(way.stack) > 100 {
			return nil, false
		}
		for _, way.at = range step.onward {
			if !seen[way] {
				seen[way] = true
				work = append(work, way)
			}
		}
	}
	var all []string
	for at := range fun.Code {
		stack, ok := stacks[at]
		if !ok {
			return nil, false
		}
		all = append(all, stack)
	}
	return all, true
}

// checkWays holds SureStacks of each function against a walk along each way, and tells whether all are right.
func checkWays(t *testing.T, what string, m impl.LinkImage) bool {
	t.Helper()
	all := true
	for number := range m.Funs {
		want, wantOk := everyWay(m, number)
		got, ok := impl.SureStacks(m, number)
		var letters []string
		for _, row := range got {
			letters = append(letters, lettersOf(row...))
		}
		if ok != wantOk || !slices.Equal(letters, want) {
			t.Fatalf("%s: SureStacks(%s, %d) = %q, %v; by the ways %q, %v", what, plainImageText(m), number, letters, ok, want, wantOk)
		}
		all = all && ok
	}
	return all
}

// checkJoins looks through images, by each way too.
func checkJoins(t *testing.T, list []sureCase) {
	t.Helper()
	checkCases(t, list)
	for _, c := range list {
		if got := checkWays(t, c.text, imageOf(t, c.text)); got != (c.fault == noFault) {
			t.Errorf("%s: %v by the ways", c.text, got)
		}
	}
}

func TestSureJoins(t *testing.T) {
	join := func(at int) impl.SureFault { return sureAt(impl.SureJoin, 0, at) }
	checkJoins(t, []sureCase{
		// The same; other heights; other kinds; by falling through, and by `jump`.
		{"fun a.f - int 0: flag 1, unless 4, push 1, jump 5, push 2, back 0", noFault},
		{"fun a.f - int 0: flag 1, unless 4, push 1, jump 5, flag 0, back 0", join(4)},
		{"fun a.f - int 0: flag 1, unless 4, flag 1, jump 5, push 1, back 0", join(4)},
		{"fun a.f - int 0: flag 1, unless 3, push 1, push 2, back 0", join(2)},
		{"fun a.f - int 0: flag 1, unless 4, push 1, push 2, prim 1, back 0", join(3)},
		{"fun a.f - int 0: flag 1, unless 5, push 1, jump 6, back 0, push 2, push 2, back 0", sureAt(impl.SureEnd, 0, 4)},
		{"fun a.f - int 0: flag 1, unless 4, push 1, jump 6, push 2, push 3, back 0", join(5)},
		{"fun a.f - int 0: flag 1, unless 5, push 1, push 1, jump 6, push 2, back 0", join(5)},
		// The one kind below, the other on top.
		{"fun a.f - int 1: flag 1, unless 5, push 1, flag 1, jump 7, push 1, flag 0, keep 0, back 0", noFault},
		{"fun a.f - int 1: flag 1, unless 5, push 1, flag 1, jump 7, flag 1, push 1, keep 0, back 0", join(6)},
		{"fun a.f - int 1: flag 1, unless 5, push 1, flag 1, jump 7, row 0, flag 1, keep 0, back 0", join(6)},
		{"fun a.f - int 1: flag 1, unless 5, push 1, flag 1, jump 7, push 1, push 1, keep 0, back 0", join(6)},
		// An `unless` that goes on at one place by both ways.
		{"fun a.f - int 0: flag 1, unless 2, push 1, back 0", noFault},
		{"fun a.f - int 0: push 1, flag 1, unless 3, back 0", noFault},
		{"fun a.f - int 0: flag 1, unless 2, flag 0, unless 4, push 1, back 0", noFault},
		// Such a one that meets a way that was there already.
		{"fun a.f - int 0: flag 1, unless 4, flag 1, unless 4, push 1, back 0", noFault},
		{"fun a.f - int 0: push 1, flag 1, unless 7, push 1, prim 1, flag 1, unless 7, back 0", noFault},
		{"fun a.f - int 1: push 1, flag 1, unless 6, keep 0, flag 1, unless 6, push 1, back 0", join(5)},
		{"fun a.f - int 0: push 1, flag 1, unless 6, push 1, flag 1, unless 6, back 0", join(5)},
		{"fun a.f - int 0: push 1, flag 1, unless 7, prim 14, push 1, flag 1, unless 7, back 0", join(6)},
		{"fun a.f - int 1: push 1, flag 1, unless 7, keep 0, flag 1, flag 1, unless 7, back 0", join(6)},
		// An `unless` whose operand meets, whose next one meets.
		{"fun a.f - int 1: flag 1, unless 6, flag 1, unless 6, flag 1, jump 6, push 1, back 0", join(5)},
		{"fun a.f - int 0: flag 1, unless 5, push 1, flag 1, unless 5, push 1, back 0", join(4)},
		{"fun a.f - int 0: flag 1, unless 5, push 1, flag 1, unless 6, push 1, back 0", join(4)},
		{"fun a.f - int 0: flag 1, unless 5, push 1, flag 1, unless 7, back 0, push 1, back 0", join(4)},
		// Several ways: the one that is other is told, where it meets the others.
		{"fun a.f - int 0: flag 1, unless 4, push 1, jump 9, flag 1, unless 8, push 1, jump 9, push 1, back 0", noFault},
		{"fun a.f - int 0: flag 1, unless 4, push 1, jump 9, flag 1, unless 8, push 1, jump 9, flag 1, back 0", join(8)},
		{"fun a.f - int 0: flag 1, unless 4, push 1, jump 9, flag 1, unless 8, flag 1, jump 9, push 1, back 0", join(7)},
		{"fun a.f - int 0: flag 1, unless 4, flag 1, jump 9, flag 1, unless 8, push 1, jump 9, push 1, back 0", join(7)},
		{"fun a.f - int 0: flag 1, unless 4, push 1, back 0, flag 1, unless 8, push 1, jump 9, push 1, back 0", noFault},
		// Ways that do not meet may have what they like.
		{"fun a.f - int 1: flag 1, unless 6, flag 1, keep 0, push 1, back 0, push 1, push 1, prim 1, back 0", noFault},
		{"fun a.f - int 0: flag 1, unless 5, push 1, jump 4, back 0, push 1, push 1, prim 1, back 0", noFault},
		// All ways go wrong behind where they meet.
		{"fun a.f - int 0: flag 1, unless 4, flag 1, jump 5, flag 1, back 0", sureAt(impl.SureKind, 0, 5)},
		{"fun a.f - int 0: flag 1, unless 2, back 0", sureAt(impl.SureStack, 0, 2)},
	})
}

// Ways with each stacks of up to two values, that meet by `jump`: the first that has another than the first is told.
func TestSureJoinEvery(t *testing.T) {
	var all [][]int
	for n := range 3 {
		everyTypes(n, func(kinds []int) { all = append(all, kinds) })
	}
	met, not := 0, 0
	var look func(ways [][]int)
	look = func(ways [][]int) {
		if len(ways) > 1 {
			text, end := "", 0
			for i, kinds := range ways {
				if i < len(ways)-1 {
					end += 2
				}
				end += len(kinds) + 1
			}
			want, at := noFault, 0
			for i, kinds := range ways {
				if i < len(ways)-1 {
					text += fmt.Sprintf("flag 1, unless %d, ", at+len(kinds)+3)
					at += 2
				}
				at += len(kinds) + 1
				text += fmt.Sprintf("%sjump %d, ", pushing(kinds...), end)
				if want == noFault && !slices.Equal(kinds, ways[0]) {
					want = sureAt(impl.SureJoin, 0, at-1)
				}
			}
			if want == noFault {
				met++
			} else {
				not++
			}
			text = "fun a.f - int 1: " + text + strings.Repeat("keep 0, ", len(ways[0])) + "push 1, back 0"
			if got := checkSure(t, "ways", imageOf(t, text)); got != want {
				t.Errorf("%v: %v; want %v", ways, got, want)
			}
		}
		if len(ways) < 3 {
			for _, kinds := range all {
				look(append(slices.Clone(ways), kinds))
			}
		}
	}
	look(nil)
	if met < 26 || not < 2000 {
		t.Error(met, not)
	}
}

// What is known of a slot where ways meet.
func TestSureJoinSlots(t *testing.T) {
	kind := func(at int) impl.SureFault { return sureAt(impl.SureKind, 0, at) }
	checkJoins(t, []sureCase{
		// Kept by none, by the one way alone, by the other alone, by both.
		{"fun a.f - int 1: flag 1, unless 3, jump 3, load 0, back 0", kind(3)},
		{"fun a.f - int 1: flag 1, unless 4, push 1, keep 0, load 0, back 0", kind(4)},
		{"fun a.f - int 1: flag 1, unless 3, jump 5, push 1, keep 0, load 0, back 0", kind(5)},
		{"fun a.f - int 1: flag 1, unless 5, push 1, keep 0, jump 7, push 2, keep 0, load 0, back 0", noFault},
		{"fun a.f - int 1: flag 1, unless 5, push 1, keep 0, jump 7, flag 1, keep 0, load 0, back 0", kind(7)},
		{"fun a.f - bool 1: flag 1, unless 5, push 1, keep 0, jump 7, flag 1, keep 0, load 0, back 0", kind(7)},
		{"fun a.f - int 2: flag 1, unless 5, push 1, keep 0, jump 7, push 1, keep 1, load 0, back 0", kind(7)},
		{"fun a.f - int 2: flag 1, unless 5, push 1, keep 0, jump 7, push 1, keep 1, load 1, back 0", kind(7)},
		// That they are not the same is nothing wrong where it is not loaded, or is kept again.
		{"fun a.f - int 1: flag 1, unless 5, push 1, keep 0, jump 7, flag 1, keep 0, push 1, back 0", noFault},
		{"fun a.f - int 1: flag 1, unless 5, push 1, keep 0, jump 7, flag 1, keep 0, push 1, keep 0, load 0, back 0", noFault},
		{"fun a.f - bool 1: flag 1, unless 5, push 1, keep 0, jump 7, row 0, keep 0, flag 1, keep 0, load 0, back 0", noFault},
		// Kept ahead of both, and by one again, with that kind, with another.
		{"fun a.f - int 1: push 1, keep 0, flag 1, unless 6, push 2, keep 0, load 0, back 0", noFault},
		{"fun a.f - int 1: push 1, keep 0, flag 1, unless 6, flag 1, keep 0, load 0, back 0", kind(6)},
		{"fun a.f int int 1: flag 1, unless 4, flag 1, keep 0, load 0, back 0", kind(4)},
		{"fun a.f int int 1: flag 1, unless 4, push 1, keep 0, load 0, back 0", noFault},
		{"fun a.f int int 1: flag 1, unless 4, row 0, keep 0, push 1, back 0", noFault},
		// It is known by each way still, as long as they have not met.
		{"fun a.f int int 1: flag 1, unless 8, flag 1, keep 0, load 0, unless 8, push 1, back 0, load 0, back 0", kind(8)},
		{"fun a.f int int 1: flag 1, unless 8, flag 1, keep 0, load 0, unless 6, push 1, back 0, load 0, back 0", noFault},
		// Where it is not known any more, a further way that knows it turns nothing.
		{"fun a.f - int 1: flag 1, unless 4, flag 1, unless 9, push 1, keep 0, flag 1, unless 9, jump 9, load 0, back 0", kind(9)},
		{"fun a.f int int 1: flag 1, unless 10, flag 1, unless 7, flag 1, keep 0, jump 10, push 1, keep 0, jump 10, load 0, back 0", kind(10)},
		// By both ways of one `unless`, and by one that was there already.
		{"fun a.f - int 1: flag 1, unless 6, push 1, keep 0, flag 1, unless 6, load 0, back 0", kind(6)},
		{"fun a.f - int 1: push 1, keep 0, flag 1, unless 8, push 1, keep 0, flag 1, unless 8, load 0, back 0", noFault},
		// The last of a thousand.
		{"fun a.f - int 1000: flag 1, unless 5, push 1, keep 999, jump 7, push 2, keep 999, load 999, back 0", noFault},
		{"fun a.f - int 1000: flag 1, unless 5, push 1, keep 999, jump 7, flag 1, keep 999, load 999, back 0", kind(7)},
		{"fun a.f - int 1000: flag 1, unless 4, push 1, keep 999, load 999, back 0", kind(4)},
	})
}

// Up to three ways, each of which keeps each kind, or none, in a slot that was kept or was not.
func TestSureJoinKept(t *testing.T) {
	known, not := 0, 0
	keep := func(kind int) string {
		if kind == 0 {
			return "push 7, keep 1, "
		}
		return pushing(kind) + "keep 0, "
	}
	for n := 1; n <= 3; n++ {
		everyTypes(n+1, func(list []int) {
			for none := range 1 << (n + 1) {
				kinds := slices.Clone(list)
				for i := range kinds {
					if none>>i&1 == 1 {
						kinds[i] = 0
					}
				}
				first, ways := kinds[0], kinds[1:]
				text := keep(first)
				for i := range n - 1 {
					text += fmt.Sprintf("flag 1, unless %d, %sjump %d, ", 2+5*(i+1), keep(ways[i]), 2+5*n-3)
				}
				text += keep(ways[n-1])
				end, kind := 2+5*n-3, 0
				has := map[int]bool{}
				for _, way := range ways {
					if kind = way; way == 0 {
						kind = first
					}
					has[kind] = true
				}
				want := sureAt(impl.SureKind, 0, end)
				if len(has) == 1 && kind != 0 {
					want = noFault
					known++
				} else {
					not++
				}
				text = fmt.Sprintf("fun a.f - %s 2: %sload 0, back 0", []string{"int", "int", "bool", "row"}[kind], text)
				if got := checkSure(t, "ways", imageOf(t, text)); got != want {
					t.Errorf("%s: %v; want %v", text, got, want)
				}
			}
		})
	}
	if known < 100 || not < 500 {
		t.Error(known, not)
	}
}

// everyCode hands on all codes of less than so many instructions of a few, and of so many, if the last one is
// `back`; but not those of which the beginning is wrong already.
func everyCode(t *testing.T, most int, call func(code []impl.CodeIns) impl.SureFault) {
	few := codeOf(t, "push 1, flag 1, load 0, keep 0, prim 1, prim 9, call 0, call 1, row 1, back 0")
	for place := 1; place < most; place++ {
		few = append(few, impl.CodeIns{Op: impl.CodeJump, A: place}, impl.CodeIns{Op: impl.CodeUnless, A: place})
	}
	var grow func(code []impl.CodeIns)
	grow = func(code []impl.CodeIns) {
		fault := call(code)
		if len(code) == most || fault.Code != 0 && fault.Code != impl.SureEnd {
			return
		}
		if fault.Code == impl.SureEnd && len(code) > 0 {
			// More instructions mend nothing but that there is none to go on with.
			ins := code[fault.At]
			onward := fault.At + 1
			if ins.Op == impl.CodeJump || ins.Op == impl.CodeUnless {
				onward = ins.A
			}
			if ins.Op == impl.CodeBack || onward < len(code) && ins.Op != impl.CodeUnless {
				return
			}
		}
		for _, ins := range few {
			if len(code) < most-1 || ins.Op == impl.CodeBack {
				grow(append(slices.Clone(code), ins))
			}
		}
	}
	grow(nil)
}

// All that is short: what is wrong by the other way, and by a walk along each way.
func TestSureEvery(t *testing.T) {
	m := imageOf(t, "fun a.f bool int 1; fun a.g - bool 0: flag 1, back 0")
	var count [8]int
	everyCode(t, 5, func(code []impl.CodeIns) impl.SureFault {
		m.Funs[0].Code = code
		fault := checkSure(t, "every", m)
		if got := checkWays(t, "every", m); got != (fault.Code == 0) {
			t.Fatalf("%s: %v by the ways", plainImageText(m), got)
		}
		count[fault.Code]++
		return fault
	})
	for code, n := range count {
		if n < 50 && code != impl.SureForm && code != impl.SureMain {
			t.Error(code, n)
		}
	}
}
