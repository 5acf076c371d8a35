package tests

import (
	"math"
	"math/rand"
	"slices"
	"strings"
	"sync"
	"testing"

	"loop.example/smithy/impl"
)

// randomImage is an image that has a text, whether or not its parts fit together.
func randomImage(r *rand.Rand) impl.LinkImage {
	var m impl.LinkImage
	for range r.Intn(1 + r.Intn(73)) {
		f := randomFun(r, randomName(r))
		if r.Intn(4) == 0 {
			f.Name = "main"
		}
		m.Funs = append(m.Funs, impl.LinkFun{Mod: randomName(r), Name: f.Name, Args: f.Args, Type: f.Type, Slots: f.Slots, Code: f.Code})
	}
	for range r.Intn(9) {
		if len(m.Funs) > 0 {
			m.Mains = append(m.Mains, r.Intn(len(m.Funs)))
		}
	}
	return m
}

// turnedImage is an image with one part turned, in memory of its own; many have no text.
func turnedImage(r *rand.Rand, m impl.LinkImage) impl.LinkImage {
	m = settledImage(m)
	if len(m.Funs) == 0 || r.Intn(6) == 0 {
		m.Mains = append(m.Mains, someInt(r))
		return m
	}
	i, j := r.Intn(len(m.Funs)), r.Intn(len(m.Funs))
	f := &m.Funs[i]
	switch r.Intn(11) {
	case 0:
		f.Mod = randomWrongName(r)
	case 1:
		f.Name = randomWrongName(r)
	case 2:
		f.Args = append(f.Args, r.Intn(5))
	case 3:
		f.Type = r.Intn(6) - 1
	case 4:
		f.Slots = someInt(r)
	case 5:
		f.Code = append(f.Code, impl.CodeIns{Op: r.Intn(13) - 1, A: someInt(r)})
	case 6:
		if len(f.Code) > 0 {
			f.Code[r.Intn(len(f.Code))].A = someInt(r)
		}
	case 7:
		m.Funs[i], m.Funs[j] = m.Funs[j], m.Funs[i]
	case 8:
		m.Funs = slices.Insert(m.Funs, i, m.Funs[j])
	case 9:
		m.Funs = slices.Delete(m.Funs, i, i+1)
	case 10:
		if len(m.Mains) > 0 {
			m.Mains[r.Intn(len(m.Mains))] = i + r.Intn(3) - 1
		}
	}
	return m
}

// P22: what is written of an image that has a text is read as it; two have one text just if they are the same.
func TestLinkReadBack(t *testing.T) {
	r := rand.New(rand.NewSource(62))
	right, wrong, same := 0, 0, 0
	for range 2500 {
		m := randomImage(r)
		checkImage(t, "random", m, true)
		other := turnedImage(r, m)
		want := plainImageOk(other)
		if checkImage(t, "turned", other, want); !want {
			wrong++
			continue
		}
		right++
		if impl.LinkText(other) == impl.LinkText(m) != sameImage(m, other) {
			t.Fatalf("the texts of %v and %v", m, other)
		} else if sameImage(m, other) {
			same++
		}
	}
	if right < 500 || wrong < 500 || same < 50 {
		t.Error(right, wrong, same)
	}
}

// P22: texts of images in which something is turned.
func TestLinkReadRandom(t *testing.T) {
	r := rand.New(rand.NewSource(63))
	parts := []string{"\n", " ", ".", ",", "-", "0", "1", "7", "int", "row", "a", "image\n", "fun a.f - int 0\n", "push 1\n", "back 0\n", "main 0\n", "main 1\n", "", "", "\x00", "\xff", "\r"}
	read, not := 0, 0
	for range 6000 {
		text := impl.LinkText(randomImage(r))
		for range r.Intn(3) {
			i := r.Intn(len(text) + 1)
			j := i + r.Intn(min(8, len(text)-i)+1)
			text = text[:i] + parts[r.Intn(len(parts))] + text[j:]
		}
		if checkImageRead(t, text) {
			read++
		} else {
			not++
		}
	}
	if read < 1000 || not < 1000 {
		t.Error(read, not)
	}
}

// The answers are the same at every call, and from several goroutines.
func TestLinkAgain(t *testing.T) {
	type answer struct {
		fault, made impl.LinkFault
		image, read impl.LinkImage
		number      int
		text        string
		found, ok   bool
	}
	r := rand.New(rand.NewSource(64))
	for range 200 {
		parts := randomParts(r, 8, nil)
		if r.Intn(2) == 0 {
			parts = turnedParts(r, parts)
		}
		mod, name := freeName(r), freeName(r)
		if len(parts) > 0 {
			mod = parts[r.Intn(len(parts))].Name
		}
		all := make([]answer, 8)
		var group sync.WaitGroup
		for i := range all {
			group.Go(func() {
				a := &all[i]
				a.number, a.found = impl.LinkFind(parts, mod, name)
				a.fault = impl.LinkCheck(parts)
				a.image, a.made = impl.LinkMake(parts)
				a.text = impl.LinkText(a.image)
				a.read, a.ok = impl.LinkRead(a.text)
			})
		}
		group.Wait()
		m, fault := checkLink(t, "again", parts)
		number, found := checkFound(t, "again", parts, mod, name)
		for _, a := range all {
			if a.fault != fault || a.made != fault || !sameImage(a.image, m) || a.number != number || a.found != found || a.text != impl.LinkText(m) || !a.ok || !sameImage(a.read, m) {
				t.Fatalf("%v: %v, then %v", parts, all[0], a)
			}
		}
		// Nor does what was asked in between show.
		impl.LinkMake(linkExample(t))
		impl.LinkRead("image\nfun a.f - int 0\nmain")
		if again, _ := impl.LinkMake(parts); !sameImage(again, m) || !checkImageRead(t, imageText) {
			t.Fatal("another answer")
		}
	}
}

// roomyParts are parts whose lists all have spare room, with something in it.
func roomyParts(parts []impl.LinkPart) []impl.LinkPart {
	out := append(slices.Clone(parts), impl.LinkPart{Name: "room"}, impl.LinkPart{})[:len(parts)]
	for i := range out {
		out[i].Obj = roomyObj(out[i].Obj)
	}
	return out
}

// wideParts are parts with all lists as long as their room is, in memory of their own.
func wideParts(parts []impl.LinkPart) []impl.LinkPart {
	out := slices.Clone(parts[:cap(parts)])
	for i := range out {
		out[i].Obj = wideObj(out[i].Obj)
	}
	return out
}

func sameParts(a, b []impl.LinkPart) bool {
	return slices.EqualFunc(a, b, func(p, q impl.LinkPart) bool { return p.Name == q.Name && sameObj(p.Obj, q.Obj) })
}

// roomyImage is an image whose lists all have spare room, with something in it.
func roomyImage(m impl.LinkImage) impl.LinkImage {
	out := impl.LinkImage{
		Funs:  append(slices.Clone(m.Funs), impl.LinkFun{Name: "room"}, impl.LinkFun{Slots: 7})[:len(m.Funs)],
		Mains: roomyInts(m.Mains),
	}
	for i := range out.Funs {
		f := &out.Funs[i]
		f.Args = roomyInts(f.Args)
		f.Code = append(slices.Clone(f.Code), impl.CodeIns{Op: 77}, impl.CodeIns{A: 78})[:len(f.Code)]
	}
	return out
}

// wideImage is an image with all its lists as long as their room is, in memory of its own.
func wideImage(m impl.LinkImage) impl.LinkImage {
	out := impl.LinkImage{Funs: slices.Clone(m.Funs[:cap(m.Funs)]), Mains: slices.Clone(m.Mains[:cap(m.Mains)])}
	for i := range out.Funs {
		f := &out.Funs[i]
		f.Args = slices.Clone(f.Args[:cap(f.Args)])
		f.Code = slices.Clone(f.Code[:cap(f.Code)])
	}
	return out
}

// spansOfImage is where the lists of an image lie, spare room included.
func spansOfImage(m impl.LinkImage) []span {
	all := []span{spanOf(m.Funs), spanOf(m.Mains)}
	for _, f := range m.Funs {
		all = append(all, spanOf(f.Args), spanOf(f.Code))
	}
	return all
}

// imageTexts are the texts of an image.
func imageTexts(m impl.LinkImage) []string {
	var all []string
	for _, f := range m.Funs {
		all = append(all, f.Mod, f.Name)
	}
	return all
}

// spoilImage writes over all lists of an image, spare room included.
func spoilImage(m impl.LinkImage) {
	for _, f := range m.Funs {
		spoilInts(f.Args)
		for i := range f.Code[:cap(f.Code)] {
			f.Code[:cap(f.Code)][i] = impl.CodeIns{Op: -9, A: -9}
		}
	}
	spoilInts(m.Mains)
	for i := range m.Funs[:cap(m.Funs)] {
		m.Funs[:cap(m.Funs)][i] = impl.LinkFun{Mod: "spoiled", Slots: -9}
	}
}

// apart says that no two lists of two images, or of one of them and others, share memory.
func apart(t *testing.T, a, b impl.LinkImage, others ...span) int {
	t.Helper()
	all := append(spansOfImage(a), spansOfImage(b)...)
	for i, s := range all {
		for _, o := range slices.Concat(all[:i], others) {
			if s.meets(o) {
				t.Fatal("two lists share memory")
			}
		}
	}
	return len(all)
}

// textsApart says that no text of some shares memory with one of others.
func textsApart(t *testing.T, some, others []string) {
	t.Helper()
	for _, text := range some {
		for _, other := range others {
			if overlap(text, other) {
				t.Fatalf("%q shares memory", text)
			}
		}
	}
}

// Nothing is written into parts or behind their ends, and every image is new memory.
func TestLinkMakeNew(t *testing.T) {
	r := rand.New(rand.NewSource(65))
	lists := 0
	for range 300 {
		plain := randomParts(r, 8, nil)
		if r.Intn(4) == 0 {
			plain = turnedParts(r, plain)
		}
		want, wantFault := checkLink(t, "plain", plain)
		parts := roomyParts(plain)
		before := wideParts(parts)
		a, fault := impl.LinkMake(parts)
		b, _ := impl.LinkMake(parts)
		if impl.LinkCheck(parts) != wantFault || fault != wantFault || !sameImage(a, want) || !sameImage(b, want) {
			t.Fatal("what is behind an end counts")
		}
		if _, ok := impl.LinkFind(parts, "room", ""); ok {
			t.Fatal("what is behind an end is found")
		}
		var given []span
		var names []string
		for _, p := range parts {
			given = append(given, spansOf(p.Obj)...)
			names = append(append(names, p.Name), objTexts(p.Obj)...)
		}
		lists += apart(t, a, b, given...)
		textsApart(t, imageTexts(a), append(names, imageTexts(b)...))
		if spoilImage(a); !sameImage(b, want) || !sameParts(wideParts(parts), before) {
			t.Fatal("an argument or another answer was written into")
		}
		if again, _ := impl.LinkMake(parts); !sameImage(again, want) {
			t.Fatal("what was written into an answer shows")
		}
	}
	if lists < 5000 {
		t.Error(lists)
	}
}

// Nothing is written into an image or behind its ends, and every text, and what is read of it, is new memory.
func TestLinkReadNew(t *testing.T) {
	r := rand.New(rand.NewSource(66))
	lists := 0
	for range 200 {
		plain := randomImage(r)
		if r.Intn(4) == 0 {
			plain = turnedImage(r, plain)
		}
		m := roomyImage(plain)
		before := wideImage(m)
		text, again := impl.LinkText(m), impl.LinkText(m)
		if text != again || text != impl.LinkText(plain) || !sameImage(wideImage(m), before) {
			t.Fatal("an image was written into, or what is behind an end counts")
		}
		textsApart(t, []string{text}, append(imageTexts(m), again))
		if text == "" {
			continue
		}
		a, _ := impl.LinkRead(text)
		b, _ := impl.LinkRead(text)
		lists += apart(t, a, b)
		textsApart(t, imageTexts(a), append(imageTexts(b), text))
		if spoilImage(a); !sameImage(b, plain) || impl.LinkText(b) != text {
			t.Fatal("another answer was written into")
		}
		if c, ok := impl.LinkRead(text); !ok || !sameImage(c, plain) {
			t.Fatal("what was written into an answer shows")
		}
	}
	if lists < 5000 {
		t.Error(lists)
	}
}

// Whatever a call is given, it answers.
func TestLinkAnything(t *testing.T) {
	r := rand.New(rand.NewSource(67))
	for range 2000 {
		var parts []impl.LinkPart
		for range r.Intn(12) {
			p := impl.LinkPart{Name: []string{"", "a", "b", randomWrongName(r), randomName(r), "\xff"}[r.Intn(6)], Obj: randomObj(r)}
			for range r.Intn(3) {
				p.Obj = turnedObj(r, p.Obj)
			}
			if r.Intn(4) == 0 {
				p.Obj = impl.CodeObj{Refs: []impl.CodeRef{{Mod: randomWrongName(r), Name: randomWrongName(r)}}, Funs: []impl.CodeFun{{Name: randomWrongName(r), Args: []int{someInt(r)}, Type: someInt(r), Slots: someInt(r), Code: []impl.CodeIns{{Op: someInt(r), A: someInt(r)}, {Op: impl.CodeCall, A: -someInt(r)}}}}}
			}
			parts = append(parts, p)
		}
		checkLink(t, "anything", parts)
		for _, mod := range []string{"", "a", "b", randomWrongName(r)} {
			checkFound(t, "anything", parts, mod, randomWrongName(r))
			checkFound(t, "anything", parts, mod, "main")
		}
		m := randomImage(r)
		for range r.Intn(5) {
			m = turnedImage(r, m)
		}
		checkImage(t, "anything", m, plainImageOk(m))
	}
	const signs = "image\nfun a.f own-,int 0123pushback\x00\xff"
	for range 20000 {
		text := make([]byte, r.Intn(40))
		for i := range text {
			text[i] = signs[r.Intn(len(signs))]
		}
		checkImageRead(t, string(text))
		checkImageRead(t, "image\n"+string(text))
		checkImageRead(t, "image\nfun a.f - int 0\n"+string(text))
	}
	for _, m := range []impl.LinkImage{{Funs: []impl.LinkFun{{}}}, {Mains: []int{0}}, {Mains: []int{math.MinInt}}, {Funs: []impl.LinkFun{{Mod: "a", Name: "f", Type: 1, Code: []impl.CodeIns{{Op: math.MinInt, A: math.MaxInt}}}}}} {
		checkImage(t, "nothing", m, false)
	}
	far := impl.CodeObj{Funs: []impl.CodeFun{{Name: "f", Type: 1, Code: []impl.CodeIns{{Op: impl.CodeCall, A: math.MaxInt}, {Op: impl.CodeCall, A: math.MinInt}}}}}
	checkLink(t, "far", []impl.LinkPart{{Name: "a", Obj: far}})
	checkLink(t, "long", []impl.LinkPart{{Name: strings.Repeat("a", 1<<20)}, {Name: "a", Obj: impl.CodeObj{Funs: make([]impl.CodeFun, 2000)}}})
}
