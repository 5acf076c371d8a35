package tests

import (
	"math/rand"
	"runtime"
	"slices"
	"strings"
	"sync"
	"testing"
	"unsafe"

	"loop.example/smithy/impl"
)

// answers are all that is told of nodes.
type answers struct {
	ok                   bool
	order, round, behind []string
}

func answersOf(nodes []impl.GraphNode, names []string) answers {
	return answers{impl.GraphOk(nodes), impl.GraphOrder(nodes), impl.GraphRound(nodes), impl.GraphBehind(nodes, names)}
}

func (a answers) same(b answers) bool {
	return a.ok == b.ok && slices.Equal(a.order, b.order) && slices.Equal(a.round, b.round) && slices.Equal(a.behind, b.behind)
}

func (a answers) lists() [][]string { return [][]string{a.order, a.round, a.behind} }

// everyOrder calls with a list in each of its orders.
func everyOrder(in []string, call func([]string)) {
	if len(in) == 0 {
		call(nil)
	}
	for i := range in {
		rest := slices.Delete(slices.Clone(in), i, i+1)
		everyOrder(rest, func(out []string) { call(append([]string{in[i]}, out...)) })
	}
}

// copied is nodes in memory of their own.
func copied(nodes []impl.GraphNode) []impl.GraphNode {
	out := make([]impl.GraphNode, len(nodes))
	for i, n := range nodes {
		out[i] = impl.GraphNode{Name: n.Name, Uses: slices.Clone(n.Uses)}
	}
	return out
}

// The uses of one node in each order, those of all others as they are.
func TestGraphUsesEveryOrder(t *testing.T) {
	r := rand.New(rand.NewSource(3))
	for range 300 {
		nodes := randomGraph(r)
		names := someOf(r, nodes)
		want := answersOf(nodes, names)
		place := r.Intn(len(nodes))
		everyOrder(nodes[place].Uses, func(uses []string) {
			turned := copied(nodes)
			turned[place].Uses = uses
			if got := answersOf(turned, names); !got.same(want) {
				t.Fatalf("%q: %v, %q: %v", nodes, want, turned, got)
			}
		})
	}
}

// The uses of all nodes in other orders, and one that is there once more.
func TestGraphUsesTwice(t *testing.T) {
	r := rand.New(rand.NewSource(4))
	twice := 0
	for range 4000 {
		nodes := randomGraph(r)
		names := someOf(r, nodes)
		want := answersOf(nodes, names)
		turned := copied(nodes)
		for i := range turned {
			if n := len(turned[i].Uses); n > 0 && n < impl.GraphMaxUses && r.Intn(2) == 0 {
				turned[i].Uses = append(turned[i].Uses, turned[i].Uses[r.Intn(n)])
				twice++
			}
			uses := turned[i].Uses
			r.Shuffle(len(uses), func(a, b int) { uses[a], uses[b] = uses[b], uses[a] })
		}
		if got := answersOf(turned, names); !got.same(want) {
			t.Fatalf("%q: %v, %q: %v", nodes, want, turned, got)
		}
	}
	if twice < 1000 {
		t.Error(twice)
	}
}

// The order of names, and a name that is there twice, do not show either.
func TestGraphBehindNames(t *testing.T) {
	r := rand.New(rand.NewSource(5))
	for range 3000 {
		nodes := randomGraph(r)
		names := someOf(r, nodes)
		want := impl.GraphBehind(nodes, names)
		turned := append(slices.Clone(names), names...)
		r.Shuffle(len(turned), func(a, b int) { turned[a], turned[b] = turned[b], turned[a] })
		if got := impl.GraphBehind(nodes, turned); !slices.Equal(got, want) {
			t.Fatalf("%q: %q behind %q, %q behind %q", nodes, want, names, got, turned)
		}
		// What is behind several is what is behind one of them.
		var each []string
		for _, name := range names {
			each = append(each, impl.GraphBehind(nodes, []string{name})...)
		}
		slices.Sort(each)
		if each = slices.Compact(each); !slices.Equal(each, want) {
			t.Fatalf("%q: %q behind %q, %q behind one of them", nodes, want, names, each)
		}
	}
}

// What is not in the order is behind what is round, or behind what is no node.
func TestGraphTogether(t *testing.T) {
	r := rand.New(rand.NewSource(6))
	for range 3000 {
		nodes := randomGraph(r)
		bad := impl.GraphRound(nodes)
		for _, n := range nodes {
			for _, use := range n.Uses {
				if !slices.ContainsFunc(nodes, func(n impl.GraphNode) bool { return n.Name == use }) {
					bad = append(bad, use)
				}
			}
		}
		all := slices.Sorted(slices.Values(append(impl.GraphOrder(nodes), impl.GraphBehind(nodes, bad)...)))
		if len(all) != len(nodes) {
			t.Fatalf("%q: %q", nodes, all)
		}
		for i, n := range nodes {
			if all[i] != n.Name {
				t.Fatalf("%q: %q", nodes, all)
			}
		}
	}
}

// No answer hangs on which goroutine comes first.
func TestGraphAgain(t *testing.T) {
	r := rand.New(rand.NewSource(7))
	for _, workers := range []int{1, 2, runtime.NumCPU()} {
		before := runtime.GOMAXPROCS(workers)
		for range 60 {
			nodes := randomGraph(r)
			names := someOf(r, nodes)
			want := answersOf(nodes, names)
			for range 60 {
				if got := answersOf(nodes, names); !got.same(want) {
					t.Errorf("%q: %v, then %v", nodes, want, got)
				}
			}
		}
		runtime.GOMAXPROCS(before)
	}
}

// Calls at the same time, with the same nodes, do not come in each other's way.
func TestGraphAtOnce(t *testing.T) {
	r := rand.New(rand.NewSource(8))
	for range 40 {
		nodes := randomGraph(r)
		names := someOf(r, nodes)
		want := answersOf(nodes, names)
		got := make([]answers, 16)
		var group sync.WaitGroup
		for i := range got {
			group.Go(func() { got[i] = answersOf(nodes, names) })
		}
		group.Wait()
		for _, g := range got {
			if !g.same(want) {
				t.Fatalf("%q: %v, then %v", nodes, want, g)
			}
		}
	}
}

// No goroutine is left behind when a call has answered.
func TestGraphJoined(t *testing.T) {
	r := rand.New(rand.NewSource(9))
	before := runtime.NumGoroutine()
	for range 1000 {
		nodes := randomGraph(r)
		answersOf(nodes, someOf(r, nodes))
	}
	// One that has told that it is done may still be on its way out.
	for range 100000 {
		if runtime.NumGoroutine() <= before {
			return
		}
		runtime.Gosched()
	}
	t.Error(before, runtime.NumGoroutine())
}

// roomyNames is names with spare room, and something in it.
func roomyNames(names []string) []string {
	return append(slices.Clone(names), "room", "a", "b")[:len(names)]
}

func roomyGraph(nodes []impl.GraphNode) []impl.GraphNode {
	out := append(copied(nodes), node("room", "a"), node("\xff\xff\xff"))[:len(nodes)]
	for i := range out {
		out[i].Uses = roomyNames(out[i].Uses)
	}
	return out
}

// wideGraph is all that is in nodes and in their room, in memory of its own.
func wideGraph(nodes []impl.GraphNode) []impl.GraphNode {
	out := copied(nodes[:cap(nodes)])
	for i, n := range nodes[:cap(nodes)] {
		out[i].Uses = slices.Clone(n.Uses[:cap(n.Uses)])
	}
	return out
}

func sameGraph(a, b []impl.GraphNode) bool {
	return slices.EqualFunc(a, b, func(a, b impl.GraphNode) bool { return a.Name == b.Name && slices.Equal(a.Uses, b.Uses) })
}

func TestGraphArguments(t *testing.T) {
	r := rand.New(rand.NewSource(10))
	for range 3000 {
		nodes := randomGraph(r)
		if r.Intn(5) == 0 {
			nodes = append(nodes, node("", "a"))
		}
		names := someOf(r, nodes)
		want := answersOf(nodes, names)
		nodes, names = roomyGraph(nodes), roomyNames(names)
		wide, wideNames := wideGraph(nodes), slices.Clone(names[:cap(names)])
		if got := answersOf(nodes, names); !got.same(want) {
			t.Fatal("what is behind an end counts")
		}
		if !sameGraph(wideGraph(nodes), wide) || !slices.Equal(names[:cap(names)], wideNames) {
			t.Fatal("an argument was written into")
		}
	}
}

// fill writes over a list and its room.
func fill(list []string) {
	list = list[:cap(list)]
	for i := range list {
		list[i] = "spoiled"
	}
}

func shareRoom(a, b []string) bool {
	if cap(a) == 0 || cap(b) == 0 {
		return false
	}
	p, q := uintptr(unsafe.Pointer(unsafe.SliceData(a))), uintptr(unsafe.Pointer(unsafe.SliceData(b)))
	const size = unsafe.Sizeof("")
	return p < q+uintptr(cap(b))*size && q < p+uintptr(cap(a))*size
}

func TestGraphNew(t *testing.T) {
	r := rand.New(rand.NewSource(11))
	told := 0
	for range 1500 {
		nodes := roomyGraph(randomGraph(r))
		names := roomyNames(someOf(r, nodes))
		wide := wideGraph(nodes)
		got, other := answersOf(nodes, names), answersOf(nodes, names)
		given := slices.Clone(names[:cap(names)])
		lists := [][]string{names}
		for _, n := range nodes {
			given = append(append(given, n.Name), n.Uses[:cap(n.Uses)]...)
			lists = append(lists, n.Uses)
		}
		mine, others := got.lists(), append(lists, other.lists()...)
		for i, list := range mine {
			for _, b := range append(others, mine[:i]...) {
				if shareRoom(list, b) {
					t.Fatal("an answer shares room")
				}
			}
			for k, name := range list {
				told++
				if slices.ContainsFunc(append(slices.Clone(given), list[:k]...), func(b string) bool { return overlap(name, b) }) {
					t.Fatal("a name shares memory")
				}
			}
			fill(list)
		}
		if again := answersOf(nodes, names); !again.same(other) || !sameGraph(wideGraph(nodes), wide) {
			t.Fatal("what was written into an answer shows")
		}
	}
	if told < 3000 {
		t.Error(told)
	}
}

// Whatever is given, there is an answer; where it is not ok the answers are empty.
func TestGraphAnything(t *testing.T) {
	shared := []string{"a", "b", "a", "b"}
	many := make([]impl.GraphNode, 100000)
	for i := range many {
		many[i] = impl.GraphNode{Name: strings.Repeat("x", i%50), Uses: shared}
	}
	huge := strings.Split(strings.Repeat("a,b,", 50000), ",")
	for i, nodes := range [][]impl.GraphNode{nil, {}, {{}}, {{}, {}}, many, many[:8], many[:9], {{Name: "a", Uses: huge}}, {{Name: "a", Uses: shared}, {Name: "b", Uses: shared}}} {
		for _, names := range [][]string{nil, {}, {""}, shared, huge, {strings.Repeat("long", 100000)}} {
			if ok := checkGraph(t, nodes, names...); ok != (i < 3 || i == 5 || i == 8) {
				t.Error(i, ok)
			}
		}
	}
	// Nodes that stand on one list, and names that are that list.
	if got := impl.GraphBehind([]impl.GraphNode{{Name: "a", Uses: shared}, {Name: "b", Uses: shared}, {Name: "c"}}, shared); !slices.Equal(got, []string{"a", "b"}) {
		t.Error(got)
	}
	r := rand.New(rand.NewSource(12))
	for range 3000 {
		var nodes []impl.GraphNode
		for range r.Intn(11) {
			n := impl.GraphNode{Name: randomWord(r)}
			for range r.Intn(6) {
				n.Uses = append(n.Uses, randomWord(r))
			}
			nodes = append(nodes, n)
		}
		if r.Intn(2) == 0 {
			slices.SortFunc(nodes, func(a, b impl.GraphNode) int { return strings.Compare(a.Name, b.Name) })
		}
		checkGraph(t, nodes, randomWord(r), randomWord(r))
	}
}
