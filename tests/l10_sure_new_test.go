package tests

import (
	"math"
	"math/rand"
	"slices"
	"strings"
	"sync"
	"testing"

	"loop.example/smithy/impl"
)

// someImage is an image without a fault, or one that has been turned, or one whose parts fit together by chance alone.
func someImage(r *rand.Rand) impl.LinkImage {
	m := shapedImage(r)
	switch r.Intn(5) {
	case 0:
		m = turnedCode(r, m)
	case 1:
		m = turnedImage(r, m)
	case 2:
		m = randomImage(r)
	}
	return m
}

// The answers are the same at every call, and from several goroutines.
func TestSureAgain(t *testing.T) {
	type answer struct {
		fault  impl.SureFault
		stacks [][][]int
		oks    []bool
	}
	r := rand.New(rand.NewSource(72))
	const whole = "fun a.f int int 2: load 0, unless 4, push 1, jump 5, push 2, back 0"
	for range 150 {
		m := someImage(r)
		ask := func() answer {
			a := answer{fault: impl.SureImage(m)}
			for number := -1; number <= len(m.Funs); number++ {
				rows, ok := impl.SureStacks(m, number)
				a.stacks, a.oks = append(a.stacks, rows), append(a.oks, ok)
			}
			return a
		}
		all := make([]answer, 8)
		var group sync.WaitGroup
		for i := range all {
			group.Go(func() { all[i] = ask() })
		}
		group.Wait()
		want := checkSure(t, "again", m)
		// Nor does what was asked in between show.
		other := someImage(r)
		impl.SureImage(other)
		impl.SureStacks(other, 0)
		for _, a := range append(all, ask()) {
			if a.fault != want || !slices.Equal(a.oks, all[0].oks) || !slices.EqualFunc(a.stacks, all[0].stacks, sameRows) {
				t.Fatalf("%s: %v, then %v", plainImageText(m), all[0], a)
			}
		}
		if got := checkSure(t, "a fault", imageOf(t, whole)); got != sureAt(impl.SureKind, 0, 1) {
			t.Fatal(got)
		}
	}
}

// spansOfRows is where rows lie, and the list of them, spare room included.
func spansOfRows(rows [][]int) []span {
	all := []span{spanOf(rows)}
	for _, row := range rows {
		all = append(all, spanOf(row))
	}
	return all
}

// spoilRows writes over rows, and over the list of them, spare room included.
func spoilRows(rows [][]int) {
	for _, row := range rows[:cap(rows)] {
		spoilInts(row)
	}
	for i := range rows[:cap(rows)] {
		rows[:cap(rows)][i] = []int{-9}
	}
}

// Nothing is written into an image or behind its ends, and no two rows of one answer, or of two, share memory.
func TestSureNew(t *testing.T) {
	r := rand.New(rand.NewSource(73))
	lists, full := 0, 0
	for range 250 {
		plain := someImage(r)
		want, stacks := plainSure(plain)
		m := roomyImage(plain)
		before := wideImage(m)
		if got := impl.SureImage(m); got != want {
			t.Fatalf("%s: %v; want %v", plainImageText(plain), got, want)
		}
		given := spansOfImage(m)
		for number := range m.Funs {
			a, ok := impl.SureStacks(m, number)
			b, _ := impl.SureStacks(m, number)
			rows, wantOk := stacks[number]
			if ok != wantOk || !sameRows(a, rows) || !sameRows(b, rows) {
				t.Fatalf("what is behind an end counts: %v, %v; want %v", a, ok, rows)
			}
			all := append(spansOfRows(a), spansOfRows(b)...)
			for i, s := range all {
				for _, o := range slices.Concat(all[:i], given) {
					if s.meets(o) {
						t.Fatalf("two lists of %v share memory", a)
					}
				}
				if s.from < s.to {
					full++
				}
			}
			lists += len(all)
			// A row that grows turns no other.
			for _, row := range a {
				_ = append(row, -7)
			}
			if !sameRows(a, rows) {
				t.Fatal("a row that grows is written into another one")
			}
			if spoilRows(a); !sameRows(b, rows) {
				t.Fatal("another answer was written into")
			}
			if again, _ := impl.SureStacks(m, number); !sameRows(again, rows) {
				t.Fatal("what was written into an answer shows")
			}
		}
		if !sameImage(wideImage(m), before) {
			t.Fatal("an image was written into")
		}
	}
	if lists < 5000 || full < 4000 {
		t.Error(lists, full)
	}
}

// Lists of an image that share memory are as others.
func TestSureShared(t *testing.T) {
	code := codeOf(t, "push 1, keep 0, load 0, back 0, back 0")
	args := []int{1, 1, 2}
	m := impl.LinkImage{Funs: []impl.LinkFun{
		{Mod: "a", Name: "f", Args: args[:1], Type: args[2] - 1, Slots: 1, Code: code[:4]},
		{Mod: "a", Name: "g", Args: args[:2], Type: 1, Slots: 2, Code: code[2:4]},
		{Mod: "a", Name: "h", Args: args, Type: 1, Slots: 3, Code: code[2:]},
		{Mod: "a", Name: "k", Args: args[2:], Type: 1, Slots: 1, Code: code[2:4]},
	}}
	if got := checkSure(t, "shared", m); got != sureAt(impl.SureEnd, 2, 2) {
		t.Error(got)
	}
	m.Funs[2].Code = code[:4]
	if got := checkSure(t, "shared", m); got != sureAt(impl.SureKind, 3, 1) {
		t.Error(got)
	}
	if !slices.Equal(args, []int{1, 1, 2}) || !slices.Equal(code, codeOf(t, "push 1, keep 0, load 0, back 0, back 0")) {
		t.Error(args, code)
	}
}

// Whatever a call is given, it answers.
func TestSureAnything(t *testing.T) {
	r := rand.New(rand.NewSource(74))
	var count [8]int
	for range 800 {
		m := someImage(r)
		for range r.Intn(4) {
			m = turnedImage(r, m)
		}
		if len(m.Funs) > 0 && r.Intn(3) == 0 {
			f := &m.Funs[r.Intn(len(m.Funs))]
			f.Code = append(slices.Clone(f.Code), impl.CodeIns{Op: r.Intn(12), A: someInt(r)}, impl.CodeIns{Op: impl.CodeBack})
		}
		count[checkSure(t, "anything", m).Code]++
		for range 3 {
			if number := someInt(r); number >= len(m.Funs) {
				if rows, ok := impl.SureStacks(m, number); ok || len(rows) > 0 {
					t.Fatal(number, rows, ok)
				}
			}
		}
	}
	for code, n := range count {
		if n < 10 && code != impl.SureJoin {
			t.Error(code, n)
		}
	}
	huge := slices.Repeat([]impl.CodeIns{{Op: math.MinInt, A: math.MaxInt}}, 5000)
	for _, m := range []impl.LinkImage{
		{Mains: []int{0}}, {Mains: []int{math.MinInt}}, {Funs: []impl.LinkFun{{}}}, {Funs: make([]impl.LinkFun, 3000)}, {Mains: make([]int, 3000)},
		{Funs: []impl.LinkFun{{Mod: "a", Name: "f", Type: 1, Code: huge}}}, {Funs: []impl.LinkFun{{Mod: "a", Name: "f", Type: 1, Slots: math.MaxInt, Code: huge[:3]}}},
		{Funs: []impl.LinkFun{{Mod: strings.Repeat("a", 1<<20), Name: "f", Type: 1}}}, {Funs: []impl.LinkFun{{Mod: "a", Name: "f", Type: math.MinInt, Args: make([]int, 5000)}}},
		{Funs: []impl.LinkFun{{Mod: "a", Name: "f", Type: 1, Slots: 2000, Code: []impl.CodeIns{{Op: impl.CodeLoad, A: 1500}}}}},
		{Funs: []impl.LinkFun{{Mod: "a", Name: "f", Type: 1, Slots: 1, Code: []impl.CodeIns{{Op: impl.CodeLoad, A: -1}}}}},
		{Funs: []impl.LinkFun{{Mod: "a", Name: "f", Type: 1, Slots: 1, Code: []impl.CodeIns{{Op: impl.CodeJump, A: math.MaxInt}}}}},
	} {
		if got := checkSure(t, "nothing", m); got != sureAt(impl.SureForm, 0, 0) {
			t.Error(got)
		}
	}
}
