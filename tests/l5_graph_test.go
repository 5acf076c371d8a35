package tests

import (
	"math/rand"
	"slices"
	"strings"
	"testing"

	"loop.example/smithy/impl"
)

func TestGraphLimits(t *testing.T) {
	if impl.GraphMax != 8 || impl.GraphMaxUses != 4 {
		t.Error(impl.GraphMax, impl.GraphMaxUses)
	}
}

func node(name string, uses ...string) impl.GraphNode {
	return impl.GraphNode{Name: name, Uses: uses}
}

func plainGraphOk(nodes []impl.GraphNode) bool {
	for i, a := range nodes {
		if i >= 8 || len(a.Uses) > 4 {
			return false
		}
		for _, b := range nodes[i+1:] {
			if strings.Compare(a.Name, b.Name) >= 0 {
				return false
			}
		}
	}
	return true
}

// plainWays tells who uses what by some way: pairs are joined until none is new.
func plainWays(nodes []impl.GraphNode) map[[2]string]bool {
	ways := map[[2]string]bool{}
	for _, n := range nodes {
		for _, use := range n.Uses {
			ways[[2]string{n.Name, use}] = true
		}
	}
	for more := true; more; {
		var fresh [][2]string
		for a := range ways {
			for b := range ways {
				if joined := [2]string{a[0], b[1]}; a[1] == b[0] && !ways[joined] {
					fresh = append(fresh, joined)
				}
			}
		}
		for _, way := range fresh {
			ways[way] = true
		}
		more = len(fresh) > 0
	}
	return ways
}

// plainOrder goes through the nodes from the first on for each that it takes.
func plainOrder(nodes []impl.GraphNode) []string {
	var order []string
	if !plainGraphOk(nodes) {
		return order
	}
	for range nodes {
		for _, n := range nodes {
			missing := slices.ContainsFunc(n.Uses, func(use string) bool { return !slices.Contains(order, use) })
			if !missing && !slices.Contains(order, n.Name) {
				order = append(order, n.Name)
				break
			}
		}
	}
	return order
}

func plainRound(nodes []impl.GraphNode) []string {
	var round []string
	if !plainGraphOk(nodes) {
		return round
	}
	ways := plainWays(nodes)
	for _, n := range nodes {
		if ways[[2]string{n.Name, n.Name}] {
			round = append(round, n.Name)
		}
	}
	return round
}

func plainBehind(nodes []impl.GraphNode, names []string) []string {
	var told []string
	if !plainGraphOk(nodes) {
		return told
	}
	ways := plainWays(nodes)
	for _, n := range nodes {
		is := slices.Contains(names, n.Name)
		for _, name := range names {
			is = is || ways[[2]string{n.Name, name}]
		}
		if is {
			told = append(told, n.Name)
		}
	}
	return told
}

// checkPromise holds the order against the promise, not against how it is made.
func checkPromise(t *testing.T, nodes []impl.GraphNode) {
	t.Helper()
	order, ways := impl.GraphOrder(nodes), plainWays(nodes)
	isNode := func(name string) bool {
		return slices.ContainsFunc(nodes, func(n impl.GraphNode) bool { return n.Name == name })
	}
	in := 0
	for _, n := range nodes {
		free := !ways[[2]string{n.Name, n.Name}]
		for way := range ways {
			if way[0] == n.Name && (!isNode(way[1]) || ways[[2]string{way[1], way[1]}]) {
				free = false
			}
		}
		place := slices.Index(order, n.Name)
		if free != (place >= 0) {
			t.Fatalf("%q of %q: in the order %q", n.Name, nodes, order)
		}
		if !free {
			continue
		}
		in++
		for _, use := range n.Uses {
			if p := slices.Index(order, use); p < 0 || p >= place {
				t.Fatalf("%q of %q stands ahead of %q in %q", n.Name, nodes, use, order)
			}
		}
	}
	if in != len(order) {
		t.Fatalf("%q of %q", order, nodes)
	}
}

// checkGraph holds all answers of nodes against the plain ones; it tells whether they are ok.
func checkGraph(t *testing.T, nodes []impl.GraphNode, names ...string) bool {
	t.Helper()
	ok := plainGraphOk(nodes)
	if impl.GraphOk(nodes) != ok {
		t.Fatalf("GraphOk of %q is not %v", nodes, ok)
	}
	if got, want := impl.GraphOrder(nodes), plainOrder(nodes); !slices.Equal(got, want) {
		t.Fatalf("GraphOrder of %q: %q, not %q", nodes, got, want)
	}
	if got, want := impl.GraphRound(nodes), plainRound(nodes); !slices.Equal(got, want) {
		t.Fatalf("GraphRound of %q: %q, not %q", nodes, got, want)
	}
	if got, want := impl.GraphBehind(nodes, names), plainBehind(nodes, names); !slices.Equal(got, want) {
		t.Fatalf("GraphBehind of %q and %q: %q, not %q", nodes, names, got, want)
	}
	if ok {
		checkPromise(t, nodes)
	}
	return ok
}

// told is what is asked of nodes, names being parted by spaces.
type told struct {
	what   string
	nodes  []impl.GraphNode
	order  string
	round  string
	names  string
	behind string
}

func (c told) check(t *testing.T) {
	t.Helper()
	if !impl.GraphOk(c.nodes) {
		t.Errorf("%s: not ok", c.what)
	}
	if got := strings.Join(impl.GraphOrder(c.nodes), " "); got != c.order {
		t.Errorf("%s: the order is %q", c.what, got)
	}
	if got := strings.Join(impl.GraphRound(c.nodes), " "); got != c.round {
		t.Errorf("%s: round are %q", c.what, got)
	}
	if got := strings.Join(impl.GraphBehind(c.nodes, strings.Fields(c.names)), " "); got != c.behind {
		t.Errorf("%s: behind %q are %q", c.what, c.names, got)
	}
	checkGraph(t, c.nodes, strings.Fields(c.names)...)
}

func TestGraphOrdinary(t *testing.T) {
	for _, c := range []told{
		{"one", []impl.GraphNode{node("a")}, "a", "", "a", "a"},
		{"who use nobody", []impl.GraphNode{node("a"), node("b"), node("c")}, "a b c", "", "b", "b"},
		{"a chain down", []impl.GraphNode{node("a", "b"), node("b", "c"), node("c", "d"), node("d")}, "d c b a", "", "c", "a b c"},
		{"a chain up", []impl.GraphNode{node("a"), node("b", "a"), node("c", "b"), node("d", "c")}, "a b c d", "", "b c", "b c d"},
		{"a tree", []impl.GraphNode{node("a", "b", "c"), node("b", "d", "e"), node("c", "f"), node("d"), node("e"), node("f")}, "d e b f c a", "", "d f", "a b c d f"},
		{"two that use one", []impl.GraphNode{node("a", "c"), node("b", "c"), node("c")}, "c a b", "", "a", "a"},
		{"two ways to one", []impl.GraphNode{node("a", "b", "c"), node("b", "d"), node("c", "d"), node("d")}, "d b c a", "", "b", "a b"},
		{"two parts", []impl.GraphNode{node("a", "d"), node("b", "c"), node("c"), node("d")}, "c b d a", "", "c", "b c"},
		// What has become free is taken ahead of what was so before, where it is first.
		{"the first at each time", []impl.GraphNode{node("a", "c"), node("b", "e"), node("c"), node("d"), node("e")}, "c a d e b", "", "e d", "b d e"},
		{"several uses, free by the last", []impl.GraphNode{node("a", "b", "c", "d"), node("b"), node("c"), node("d"), node("e")}, "b c d a e", "", "c e", "a c e"},
	} {
		c.check(t)
	}
}

func TestGraphEdges(t *testing.T) {
	two := []impl.GraphNode{node("a", "b"), node("b", "a"), node("c", "d"), node("d", "c"), node("e", "a", "d"), node("f", "e"), node("g"), node("h", "g")}
	joined := []impl.GraphNode{node("a", "b"), node("b", "a", "c"), node("c", "d"), node("d", "c"), node("e", "b"), node("f", "d"), node("g", "e", "f")}
	for _, c := range []told{
		{"no node", nil, "", "", "", ""},
		{"no node, and names", []impl.GraphNode{}, "", "", "a b", ""},
		{"one that uses itself", []impl.GraphNode{node("a", "a")}, "", "a", "a", "a"},
		{"one that uses itself, beside others", []impl.GraphNode{node("a"), node("b", "a", "b"), node("c", "a"), node("d", "b")}, "a c", "b", "b", "b d"},
		{"a use that is no node", []impl.GraphNode{node("a", "x")}, "", "", "x", "a"},
		{"a use that is no node, far away", []impl.GraphNode{node("a", "b"), node("b", "c"), node("c", "x"), node("d")}, "d", "", "x", "a b c"},
		{"a use that is no node, among others", []impl.GraphNode{node("a"), node("b", "a", "x"), node("c", "a")}, "a c", "", "x c", "b c"},
		{"two rounds, the first", two, "g h", "a b c d", "a", "a b e f"},
		{"two rounds, the second", two, "g h", "a b c d", "c", "c d e f"},
		{"two rounds, both", two, "g h", "a b c d", "b d", "a b c d e f"},
		{"two rounds, what is behind", two, "g h", "a b c d", "e", "e f"},
		{"two rounds, what is beside", two, "g h", "a b c d", "g", "g h"},
		{"a round behind a round, the first", joined, "", "a b c d", "a", "a b e g"},
		{"a round behind a round, the second", joined, "", "a b c d", "d", "a b c d e f g"},
		{"rounds that meet", []impl.GraphNode{node("a", "b"), node("b", "a", "c"), node("c", "b"), node("d", "c")}, "", "a b c", "a", "a b c d"},
		{"between two rounds", []impl.GraphNode{node("a", "a", "b"), node("b", "c"), node("c", "c")}, "", "a c", "b", "a b"},
		{"who uses a round, and is used", []impl.GraphNode{node("a", "b"), node("b", "c"), node("c", "c"), node("d", "a")}, "", "c", "a", "a d"},
		{"all in one round", []impl.GraphNode{node("a", "b"), node("b", "c"), node("c", "d"), node("d", "e"), node("e", "f"), node("f", "g"), node("g", "h"), node("h", "a")}, "", "a b c d e f g h", "e", "a b c d e f g h"},
		{"all in one round, the other way", []impl.GraphNode{node("a", "h"), node("b", "a"), node("c", "b"), node("d", "c"), node("e", "d"), node("f", "e"), node("g", "f"), node("h", "g")}, "", "a b c d e f g h", "b", "a b c d e f g h"},
		{"twice among the uses", []impl.GraphNode{node("a", "b", "b"), node("b"), node("c", "a", "b", "a", "b")}, "b a c", "", "a", "a c"},
		{"twice and no node", []impl.GraphNode{node("a", "x", "x"), node("b")}, "b", "", "x", "a"},
		{"twice itself", []impl.GraphNode{node("a", "a", "a"), node("b")}, "b", "a", "b", "b"},
		{"four times", []impl.GraphNode{node("a", "b", "b", "b", "b"), node("b")}, "b a", "", "b", "a b"},
		{"no names", []impl.GraphNode{node("a", "b"), node("b", "b")}, "", "b", "", ""},
		{"names that are no node", []impl.GraphNode{node("a", "b"), node("b")}, "b a", "", "c x", ""},
		{"names that are no node, and one that is", []impl.GraphNode{node("a", "b"), node("b")}, "b a", "", "x a c", "a"},
		{"a name twice", []impl.GraphNode{node("a", "b"), node("b"), node("c")}, "b a c", "", "b b", "a b"},
		{"names in any order", []impl.GraphNode{node("a"), node("b"), node("c"), node("d", "a")}, "a b c d", "", "c a", "a c d"},
		{"names of all", []impl.GraphNode{node("a"), node("b"), node("c")}, "a b c", "", "c b a", "a b c"},
	} {
		c.check(t)
	}
}

// Names are any texts, held against each other byte by byte.
func TestGraphNames(t *testing.T) {
	empty := []impl.GraphNode{node("", "b"), node("a", ""), node("b")}
	if got := impl.GraphOrder(empty); !slices.Equal(got, []string{"b", "", "a"}) {
		t.Errorf("%q", got)
	}
	if got := impl.GraphBehind(empty, []string{""}); !slices.Equal(got, []string{"", "a"}) {
		t.Errorf("%q", got)
	}
	if got := impl.GraphBehind([]impl.GraphNode{node("a", ""), node("b")}, []string{""}); !slices.Equal(got, []string{"a"}) {
		t.Errorf("the empty text is no node here: %q", got)
	}
	if got := impl.GraphRound([]impl.GraphNode{node("", "")}); !slices.Equal(got, []string{""}) {
		t.Errorf("%q", got)
	}
	if got := impl.GraphOrder([]impl.GraphNode{node("a", "")}); len(got) != 0 {
		t.Errorf("%q", got)
	}
	long := strings.Repeat("a name ", 20000)
	all := []string{"", "\x00", "\x00\x00", " ", "(", "A", "a", "a\x00", "a ", "ab", "ac", "b", "z", "\x7f", "\x80", "é", "é\n", "\xff", "\xff\xff", long, long + "a", long + "b"}
	for _, a := range all {
		for _, b := range all {
			for _, uses := range [][2]string{{a, b}, {b, a}, {a, a}, {b, b}} {
				nodes := []impl.GraphNode{node(a, uses[0]), node(b, uses[1])}
				if ok := checkGraph(t, nodes, a); ok != (a < b) {
					t.Fatalf("%q %q: %v", a, b, ok)
				}
			}
			checkGraph(t, []impl.GraphNode{node(a, b)}, b)
			checkGraph(t, []impl.GraphNode{node(a), node(b, a)}, a, b)
		}
	}
}

// of is n nodes, each using the one ahead.
func of(n int) []impl.GraphNode {
	var nodes []impl.GraphNode
	for i := range n {
		nodes = append(nodes, node(string(rune('a'+i))))
		if i > 0 {
			nodes[i].Uses = []string{nodes[i-1].Name}
		}
	}
	return nodes
}

func TestGraphBounds(t *testing.T) {
	for n := range 12 {
		nodes := of(n)
		if ok := checkGraph(t, nodes, "a"); ok != (n <= impl.GraphMax) {
			t.Fatal(n, ok)
		}
		want := n
		if n > impl.GraphMax {
			want = 0
		}
		if len(impl.GraphOrder(nodes)) != want || len(impl.GraphBehind(nodes, []string{"a"})) != want {
			t.Fatal(n)
		}
		// A greater number is not ok for what stands at its beginning.
		if n > 0 {
			nodes[0].Uses = []string{"a"}
			if round := impl.GraphRound(nodes); len(round) != min(want, 1) {
				t.Fatal(n, round)
			}
		}
	}
	full := []string{"b", "c", "d", "e"}
	for n := range 7 {
		for place := range 3 {
			for _, name := range []string{"", "x"} {
				nodes := []impl.GraphNode{node("a", "a"), node("f"), node("g")}
				nodes[place].Uses = append(slices.Clone(full), name, name, name)[:n]
				if ok := checkGraph(t, nodes, "a", "b"); ok != (n <= impl.GraphMaxUses) {
					t.Fatal(n, place, ok)
				}
			}
		}
	}
	// One name more than four times is as many uses, too.
	if impl.GraphOk([]impl.GraphNode{node("a", "b", "b", "b", "b", "b"), node("b")}) {
		t.Error("a use that is named five times")
	}
}

// One that uses all others, each with uses of its own: no work list is longer.
func TestGraphFan(t *testing.T) {
	nodes := of(impl.GraphMax)
	for i := range nodes {
		nodes[i].Uses = nil
		for k := range impl.GraphMaxUses {
			nodes[i].Uses = append(nodes[i].Uses, "none"+string(rune('a'+i))+string(rune('a'+k)))
		}
	}
	nodes[0].Uses = []string{"b", "c", "d", "e"}
	nodes[1].Uses = []string{"f", "g", "h", "none"}
	for _, n := range nodes[1:] {
		for _, use := range n.Uses {
			checkGraph(t, nodes, use)
			if got := impl.GraphBehind(nodes, []string{use}); !slices.Contains(got, "a") || slices.Contains(got, "b") != strings.Contains("bfgh", n.Name) {
				t.Fatal(use, got)
			}
		}
	}
}

// As many nodes as may be, with as many uses: a work list has to hold them all.
func TestGraphFull(t *testing.T) {
	nodes := of(impl.GraphMax)
	for i := range nodes {
		nodes[i].Uses = nil
		for k := range impl.GraphMaxUses {
			nodes[i].Uses = append(nodes[i].Uses, "none"+string(rune('a'+i))+string(rune('a'+k)))
		}
	}
	for _, n := range nodes {
		if got := impl.GraphBehind(nodes, n.Uses[3:]); !slices.Equal(got, []string{n.Name}) {
			t.Fatal(got)
		}
	}
	for i := range nodes {
		nodes[i].Uses[0] = nodes[(i+1)%len(nodes)].Name
	}
	checkGraph(t, nodes, nodes[3].Uses[3])
	if got := impl.GraphBehind(nodes, []string{nodes[3].Uses[3]}); len(got) != impl.GraphMax {
		t.Fatal(got)
	}
	for i := range nodes {
		for k := range nodes[i].Uses {
			nodes[i].Uses[k] = nodes[(i+k+1)%len(nodes)].Name
		}
	}
	checkGraph(t, nodes, "a")
	for i := range nodes {
		nodes[i].Uses = nil
		for k := max(0, i-4); k < i; k++ {
			nodes[i].Uses = append(nodes[i].Uses, nodes[k].Name)
		}
	}
	checkGraph(t, nodes, "d")
	if got := strings.Join(impl.GraphOrder(nodes), ""); got != "abcdefgh" {
		t.Fatal(got)
	}
}

func TestGraphWrong(t *testing.T) {
	for what, nodes := range map[string][]impl.GraphNode{
		"descending":                   {node("b"), node("a")},
		"the last two descending":      {node("a"), node("c"), node("b")},
		"the first two descending":     {node("b"), node("a"), node("c")},
		"two with one name":            {node("a"), node("a")},
		"two with one name, apart":     {node("a"), node("b"), node("a")},
		"two without a name":           {node(""), node("")},
		"the empty text not first":     {node("a"), node("")},
		"the longer ahead":             {node("aa"), node("a")},
		"bytes as if below 0":          {node("\xff"), node("a")},
		"two that are the same":        {node("a", "b"), node("a", "b")},
		"two that use one another":     {node("b", "a"), node("a", "b")},
		"too many uses":                {node("a", "a", "a", "a", "a", "a")},
		"too many uses, of the last":   {node("a"), node("b", "a", "b", "c", "d", "e")},
		"too many":                     of(9),
		"far too many":                 of(26),
		"too many, and not ascending":  append(of(8), node("a")),
		"too many nodes and uses":      append(of(8), node("z", "a", "b", "c", "d", "e")),
		"descending by letters' sizes": {node("a"), node("B")},
	} {
		if impl.GraphOk(nodes) {
			t.Errorf("%s: ok", what)
		}
		if a, b, c := impl.GraphOrder(nodes), impl.GraphRound(nodes), impl.GraphBehind(nodes, []string{"a", "b", ""}); len(a)+len(b)+len(c) != 0 {
			t.Errorf("%s: %q %q %q", what, a, b, c)
		}
		checkGraph(t, nodes, "a")
	}
}

// Each graph of three nodes, and of fewer, with each set of uses and of names.
func TestGraphEvery(t *testing.T) {
	known := []string{"a", "b", "c", "x"}
	subset := func(bits int) []string {
		var out []string
		for i, name := range known {
			if bits>>i&1 == 1 {
				out = append(out, name)
			}
		}
		return out
	}
	for bits := range 16 * 16 * 16 {
		nodes := []impl.GraphNode{node("a", subset(bits&15)...), node("b", subset(bits>>4&15)...), node("c", subset(bits>>8)...)}
		checkGraph(t, nodes)
		for n := range 3 {
			checkGraph(t, nodes[:n], "a", "x")
		}
		for names := 1; names < 16; names += 1 + bits%3 {
			got, want := impl.GraphBehind(nodes, subset(names)), plainBehind(nodes, subset(names))
			if !slices.Equal(got, want) {
				t.Fatalf("GraphBehind of %q and %q: %q, not %q", nodes, subset(names), got, want)
			}
		}
	}
}

// randomGraph is nodes that are mostly ok: sparse or dense, with rounds or without.
func randomGraph(r *rand.Rand) []impl.GraphNode {
	all := []string{"", "\x00", "a", "aa", "ab", "b", "ba", "c", "d", "e\xff", "z", "\x80"}
	r.Shuffle(len(all), func(i, j int) { all[i], all[j] = all[j], all[i] })
	n := 1 + r.Intn(impl.GraphMax)
	mine := slices.Sorted(slices.Values(all[:n]))
	ranks := r.Perm(n)
	loose, downward := r.Intn(3) == 0, r.Intn(3) > 0
	var nodes []impl.GraphNode
	for i, name := range mine {
		var uses []string
		for range r.Intn(impl.GraphMaxUses + 1) {
			k := r.Intn(n)
			switch {
			case loose && r.Intn(6) == 0:
				uses = append(uses, all[r.Intn(len(all))])
			case !downward || ranks[k] < ranks[i]:
				uses = append(uses, mine[k])
			}
		}
		nodes = append(nodes, node(name, uses...))
	}
	return nodes
}

// someOf is names of nodes, of uses and of none.
func someOf(r *rand.Rand, nodes []impl.GraphNode) []string {
	var names []string
	for range r.Intn(4) {
		n := nodes[r.Intn(len(nodes))]
		names = append(names, append(slices.Clone(n.Uses), n.Name, "none")[r.Intn(len(n.Uses)+2)])
	}
	return names
}

func TestGraphRandom(t *testing.T) {
	r := rand.New(rand.NewSource(1))
	ordered, parted, rounds := 0, 0, 0
	for range 6000 {
		nodes := randomGraph(r)
		if !checkGraph(t, nodes, someOf(r, nodes)...) {
			t.Fatal(nodes)
		}
		switch len(impl.GraphOrder(nodes)) {
		case len(nodes):
			ordered++
		case 0:
		default:
			parted++
		}
		rounds += len(impl.GraphRound(nodes))
	}
	if ordered < 500 || parted < 500 || rounds < 500 {
		t.Error(ordered, parted, rounds)
	}
}

// Nodes that are mostly not ok.
func TestGraphRandomWrong(t *testing.T) {
	r := rand.New(rand.NewSource(2))
	count := 0
	for range 4000 {
		nodes := randomGraph(r)
		switch r.Intn(4) {
		case 0:
			i, j := r.Intn(len(nodes)), r.Intn(len(nodes))
			nodes[i], nodes[j] = nodes[j], nodes[i]
		case 1:
			nodes[r.Intn(len(nodes))].Name = nodes[r.Intn(len(nodes))].Name
		case 2:
			i := r.Intn(len(nodes))
			for len(nodes[i].Uses) < 3+r.Intn(3) {
				nodes[i].Uses = append(nodes[i].Uses, nodes[0].Name)
			}
		case 3:
			for len(nodes) < 7+r.Intn(3) {
				nodes = append(nodes, node("\xff"+strings.Repeat("\xff", len(nodes)), nodes[0].Name))
			}
		}
		if !checkGraph(t, nodes, someOf(r, nodes)...) {
			count++
		}
	}
	if count < 1000 {
		t.Error(count)
	}
}
