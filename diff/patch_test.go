package diff_test

import (
	"slices"
	"strings"
	"testing"

	"fanlight/api"
	"fanlight/diff"
	"fanlight/dom"
)

type wanted struct {
	name  string
	state dom.State
	tree  api.Tree
	want  []dom.Patch
}

// mustBe holds the patches of each against those that are written out, and all that follows.
func mustBe(t *testing.T, l []wanted) {
	t.Helper()
	for _, c := range l {
		for _, s := range []dom.State{c.state, full(c.state)} {
			for _, x := range []api.Tree{c.tree, fullTree(c.tree)} {
				if got, err := diff.Diff(s, x); !slices.Equal(got, c.want) || err != api.OK {
					t.Errorf("P12.1: Diff, %s: %s, %v, want %s", c.name, tellPatches(got), err, tellPatches(c.want))
				}
			}
		}
		mustTurn(t, c.name, c.state, c.tree)
	}
}

func rooted(kids ...api.Tree) dom.State {
	return build(part("p", kids...))
}

func TestRoot(t *testing.T) {
	whole := having(api.Tree{Tag: "p", Key: "k", Kids: []api.Tree{
		words("x"), having(key("a", words("y"), part("b")), "m", "1", "n", ""), words(""),
	}}, "a", "1", "b", "2")
	wholeFrom := func(id int) []dom.Patch {
		return []dom.Patch{
			create(id, "p", "k"), set(id, "a", "1"), set(id, "b", "2"),
			createText(id+1, "x"), hang(id+1, id, 0),
			create(id+2, "i", "a"), hang(id+2, id, 1), set(id+2, "m", "1"), set(id+2, "n", ""),
			createText(id+3, "y"), hang(id+3, id+2, 0), create(id+4, "b", ""), hang(id+4, id+2, 1),
			createText(id+5, ""), hang(id+5, id, 2), root(id),
		}
	}
	loose := []dom.Node{el(3, 0, "p", 5), text(5, 3, "x"), text(9, 0, "x")}
	mustBe(t, []wanted{
		{"no nodes", dom.New(), part("p"), []dom.Patch{create(1, "p", ""), root(1)}},
		{"no nodes, a higher Next", display(0, 700), part("p"), []dom.Patch{create(700, "p", ""), root(700)}},
		{"no nodes, a whole tree", dom.New(), whole, wholeFrom(1)},
		{"no Root, loose ones that would fit", display(0, 20, loose...), part("p", words("x")), []dom.Patch{create(20, "p", ""), createText(21, "x"), hang(21, 20, 0), root(20)}},
		{"no Root, a whole tree", display(0, 20, loose...), whole, wholeFrom(20)},
		{"a root that fits", build(part("p")), part("p"), nil},
		{"a root that fits, loose ones", display(3, 20, loose...), part("p", words("y")), []dom.Patch{reword(5, "y")}},
		{"a root that fits by Key", build(key("k")), key("k"), nil},
		{"another Tag", build(part("p")), part("b"), []dom.Patch{away(1), create(2, "b", ""), root(2)}},
		{"another Key", build(key("k")), key("m"), []dom.Patch{away(1), create(2, "i", "m"), root(2)}},
		{"no Key any more", build(key("k")), part("i"), []dom.Patch{away(1), create(2, "i", ""), root(2)}},
		{"a Key from now on", build(part("i")), key("k"), []dom.Patch{away(1), create(2, "i", "k"), root(2)}},
		{"another Tag, kids that would fit", build(part("p", words("x"), key("k"))), part("b", words("x"), key("k")), []dom.Patch{
			away(1), create(4, "b", ""), createText(5, "x"), hang(5, 4, 0), create(6, "i", "k"), hang(6, 4, 1), root(4)}},
		{"another Tag, one with the old root's tree within", build(part("p", words("x"))), part("b", part("p", words("x"))), []dom.Patch{
			away(1), create(3, "b", ""), create(4, "p", ""), hang(4, 3, 0), createText(5, "x"), hang(5, 4, 0), root(3)}},
		{"another Tag, a whole tree", build(part("b", words("x"))), whole, append([]dom.Patch{away(1)}, wholeFrom(3)...)},
		{"another Tag, a loose one that would fit", display(3, 20, append(loose, el(12, 0, "b"))...), part("b"), []dom.Patch{away(3), create(20, "b", ""), root(20)}},
		{"a root with a high number", display(9, 10, text(2, 9, "x"), el(9, 0, "p", 2)), part("p", words("y")), []dom.Patch{reword(2, "y")}},
	})
}

func TestTexts(t *testing.T) {
	long := strings.Repeat("x", 128)
	mustBe(t, []wanted{
		{"another Text", rooted(words("x")), part("p", words("y")), []dom.Patch{reword(2, "y")}},
		{"the same Text", rooted(words("x")), part("p", words("x")), nil},
		{"an empty Text", rooted(words("x")), part("p", words("")), []dom.Patch{reword(2, "")}},
		{"no empty Text any more", rooted(words("")), part("p", words("x")), []dom.Patch{reword(2, "x")}},
		{"two empty Texts", rooted(words("")), part("p", words("")), nil},
		{"a long Text, another at last", rooted(words(long)), part("p", words(long[1:]+"y")), []dom.Patch{reword(2, long[1:]+"y")}},
		{"Texts that are no runes", rooted(words("\xff")), part("p", words("\xfe")), []dom.Patch{reword(2, "\xfe")}},
		{"two in another order are reworded", rooted(words("x"), words("y")), part("p", words("y"), words("x")), []dom.Patch{reword(2, "y"), reword(3, "x")}},
		{"two, of which the second is another", rooted(words("x"), words("y")), part("p", words("x"), words("z")), []dom.Patch{reword(3, "z")}},
		{"the last is taken away, not the one that is gone", rooted(words("x"), words("y")), part("p", words("y")), []dom.Patch{away(3), reword(2, "y")}},
		{"one more, ahead", rooted(words("x")), part("p", words("y"), words("x")), []dom.Patch{createText(3, "x"), hang(3, 1, 1), reword(2, "y")}},
		{"a text in the place of an element", rooted(part("b")), part("p", words("x")), []dom.Patch{away(2), createText(3, "x"), hang(3, 1, 0)}},
		{"an element in the place of a text", rooted(words("")), part("p", part("b")), []dom.Patch{away(2), create(3, "b", ""), hang(3, 1, 0)}},
	})
}

func TestAttributes(t *testing.T) {
	one := func(words ...string) dom.State { return build(having(part("p"), words...)) }
	tree := func(words ...string) api.Tree { return having(part("p"), words...) }
	var all []dom.Patch
	others := api.Tree{Tag: "p"}
	for _, a := range manyAttrs(named) {
		all = append(all, unset(1, a.Name))
	}
	for _, a := range manyAttrs(named) {
		others.Attrs = append(others.Attrs, api.Attr{Name: a.Name + "x", Value: "2"})
		all = append(all, set(1, a.Name+"x", "2"))
	}
	mustBe(t, []wanted{
		{"none and none", one(), tree(), nil},
		{"the same", one("a", "1", "b", ""), tree("a", "1", "b", ""), nil},
		{"one gone", one("a", "1"), tree(), []dom.Patch{unset(1, "a")}},
		{"an empty one gone", one("a", ""), tree(), []dom.Patch{unset(1, "a")}},
		{"one new", one(), tree("a", "1"), []dom.Patch{set(1, "a", "1")}},
		{"an empty one new", one(), tree("a", ""), []dom.Patch{set(1, "a", "")}},
		{"one changed", one("a", "1"), tree("a", "2"), []dom.Patch{set(1, "a", "2")}},
		{"one changed to nothing", one("a", "1"), tree("a", ""), []dom.Patch{set(1, "a", "")}},
		{"one changed from nothing", one("a", ""), tree("a", "1"), []dom.Patch{set(1, "a", "1")}},
		{"another Name, the same Value", one("a", "1"), tree("b", "1"), []dom.Patch{unset(1, "a"), set(1, "b", "1")}},
		{"Values put about", one("a", "1", "b", "2"), tree("a", "2", "b", "1"), []dom.Patch{set(1, "a", "2"), set(1, "b", "1")}},
		{"gone, new, changed and the same", one("a", "1", "b", "2", "c", "3", "e", "5", "g", "7"), tree("a", "1", "b", "9", "d", "4", "e", "5", "f", "6"),
			[]dom.Patch{unset(1, "c"), unset(1, "g"), set(1, "b", "9"), set(1, "d", "4"), set(1, "f", "6")}},
		{"all gone are ahead of all new", one("b", "1", "d", "1"), tree("a", "1", "c", "1"), []dom.Patch{unset(1, "b"), unset(1, "d"), set(1, "a", "1"), set(1, "c", "1")}},
		{"16 others", build(api.Tree{Tag: "p", Attrs: manyAttrs(named)}), others, all},
		{"attributes of a kid", rooted(having(key("k"), "a", "1")), part("p", having(key("k"), "b", "2")), []dom.Patch{unset(2, "a"), set(2, "b", "2")}},
		{"attributes ahead of kids", build(having(part("p", words("x")), "a", "1")), having(part("p", part("b")), "b", "2"),
			[]dom.Patch{unset(1, "a"), set(1, "b", "2"), away(2), create(3, "b", ""), hang(3, 1, 0)}},
	})
}

func TestKidsWithoutAPair(t *testing.T) {
	mustBe(t, []wanted{
		{"all gone", rooted(words("x"), key("a", words("y")), part("b")), part("p"), []dom.Patch{away(2), away(3), away(5)}},
		{"in order of the node's kids, not of numbers", display(1, 9, el(1, 0, "p", 7, 3, 5), text(3, 1, "x"), el(5, 1, "b"), el(7, 1, "b")), part("p"), []dom.Patch{away(7), away(3), away(5)}},
		{"some gone", rooted(keys("abcde")...), part("p", keys("bd")...), []dom.Patch{away(2), away(4), away(6)}},
		{"one Key and another Tag", rooted(key("k")), part("p", api.Tree{Tag: "b", Key: "k"}), []dom.Patch{away(2), create(3, "b", "k"), hang(3, 1, 0)}},
		{"one Tag and another Key", rooted(key("k")), part("p", key("m")), []dom.Patch{away(2), create(3, "i", "m"), hang(3, 1, 0)}},
		{"one Tag and no Key any more", rooted(key("k")), part("p", part("i")), []dom.Patch{away(2), create(3, "i", ""), hang(3, 1, 0)}},
		{"one Tag and a Key from now on", rooted(part("i")), part("p", key("k")), []dom.Patch{away(2), create(3, "i", "k"), hang(3, 1, 0)}},
		{"a kid deeper is none of the node's", rooted(part("b", key("k"))), part("p", key("k")), []dom.Patch{away(2), create(4, "i", "k"), hang(4, 1, 0)}},
		{"all taken away ahead of what is made and hung", rooted(keys("abc")...), part("p", keys("cxb")...),
			[]dom.Patch{away(2), hang(4, 1, 0), create(5, "i", "x"), hang(5, 1, 1)}},
	})
}

// TestKidsThatFitTwice: the first that has no pair yet, in the order of the kids of both.
func TestKidsThatFitTwice(t *testing.T) {
	twins := func(n int) dom.State {
		s := display(1, n+2, el(1, 0, "p"))
		for i := range n {
			s.Nodes[0].Kids = append([]int{i + 2}, s.Nodes[0].Kids...)
			s.Nodes = append(s.Nodes, keyed(el(i+2, 1, "i"), "k"))
		}
		return s
	}
	var rest []dom.Patch
	for i := range fan - 1 {
		rest = append(rest, away(fan-i))
	}
	mustBe(t, []wanted{
		{"two with one Key, the first counts", twins(2), part("p", key("k")), []dom.Patch{away(2)}},
		{"32 with one Key, the first counts", twins(fan), part("p", key("k")), rest},
		{"two with one Key, a new one ahead", twins(2), part("p", words("x"), key("k")), []dom.Patch{away(2), createText(4, "x"), hang(4, 1, 0)}},
		{"elements of one Tag, by their order", rooted(part("b", words("x")), part("b", words("y"))), part("p", part("b", words("y")), part("b", words("x"))), []dom.Patch{reword(3, "y"), reword(5, "x")}},
		{"elements of one Tag, one less", rooted(part("b", words("x")), part("i"), part("b", words("y"))), part("p", part("b", words("y"))), []dom.Patch{away(4), away(5), reword(3, "y")}},
		{"elements of one Tag, one more", rooted(part("b", words("x"))), part("p", part("b", words("y")), part("b", words("x"))), []dom.Patch{
			create(4, "b", ""), hang(4, 1, 1), createText(5, "x"), hang(5, 4, 0), reword(3, "y")}},
		{"elements with and without a Key", rooted(part("i"), key("k"), part("i")), part("p", key("k"), part("i"), part("i")), []dom.Patch{hang(3, 1, 0)}},
		{"texts between elements", rooted(words("x"), key("a"), words("y"), key("b"), words("z")), part("p", key("a"), words("x"), key("b"), words("y")), []dom.Patch{away(6), hang(3, 1, 0), hang(5, 1, 2)}},
	})
}

func TestKidsInAnotherOrder(t *testing.T) {
	from := func(letters string) dom.State { return rooted(keys(letters)...) }
	to := func(letters string) api.Tree { return part("p", keys(letters)...) }
	mustBe(t, []wanted{
		{"the example", from("abc"), to("cab"), []dom.Patch{hang(4, 1, 0)}},
		{"the same order", from("abcdef"), to("abcdef"), nil},
		{"two", from("ab"), to("ba"), []dom.Patch{hang(3, 1, 0)}},
		{"the first to the end", from("abcd"), to("bcda"), []dom.Patch{hang(2, 1, 3)}},
		{"the first into the middle", from("abcd"), to("bcad"), []dom.Patch{hang(2, 1, 2)}},
		{"the last into the middle", from("abcd"), to("abdc"), []dom.Patch{hang(5, 1, 2)}},
		{"the other way round", from("abc"), to("cba"), []dom.Patch{hang(4, 1, 0), hang(3, 1, 1)}},
		{"four the other way round", from("abcd"), to("dcba"), []dom.Patch{hang(5, 1, 0), hang(4, 1, 1), hang(3, 1, 2)}},
		{"of two that are as long the first stays", from("xyab"), to("axby"), []dom.Patch{hang(4, 1, 0), hang(5, 1, 2)}},
		{"two runs as long", from("abcd"), to("cdab"), []dom.Patch{hang(4, 1, 0), hang(5, 1, 1)}},
		{"the second run is longer", from("abcde"), to("cdeab"), []dom.Patch{hang(2, 1, 4), hang(3, 1, 4)}},
		{"one that is still to be hung is counted ahead", from("zabc"), to("abxcz"), []dom.Patch{create(6, "i", "x"), hang(6, 1, 3), hang(2, 1, 4)}},
		{"one that is still to be hung is counted behind, not ahead", from("azbc"), to("xabcz"), []dom.Patch{create(6, "i", "x"), hang(6, 1, 0), hang(3, 1, 4)}},
		{"itself is not counted ahead", from("zyab"), to("aybz"), []dom.Patch{hang(4, 1, 0), hang(2, 1, 3)}},
		{"two still to be hung between", from("ayzb"), to("axbyz"), []dom.Patch{create(6, "i", "x"), hang(6, 1, 1), hang(5, 1, 2)}},
		{"one hung behind one that was made", from("abc"), to("xcyab"), []dom.Patch{create(5, "i", "x"), hang(5, 1, 0), hang(4, 1, 1), create(6, "i", "y"), hang(6, 1, 2)}},
		{"some gone, the rest in another order", from("abcdef"), to("feb"), []dom.Patch{away(2), away(4), away(5), hang(7, 1, 0), hang(6, 1, 1)}},
		{"those gone are not counted", from("xaybz"), to("bna"), []dom.Patch{away(2), away(4), away(6), hang(5, 1, 0), create(7, "i", "n"), hang(7, 1, 1)}},
		{"16 the other way round", from("abcdefghijklmnop"), to("ponmlkjihgfedcba"), backwards(16)},
	})
}

// backwards hangs all but the first of n kids, from the last on, each behind the other.
func backwards(n int) []dom.Patch {
	var l []dom.Patch
	for i := range n - 1 {
		l = append(l, hang(n+1-i, 1, i))
	}
	return l
}

func TestKidsThatAreMade(t *testing.T) {
	inner := having(key("n", having(part("b", words("1")), "x", "2"), words("3"), key("m")), "a", "4", "c", "5")
	innerFrom := func(id, at int) []dom.Patch {
		return []dom.Patch{
			create(id, "i", "n"), hang(id, 1, at), set(id, "a", "4"), set(id, "c", "5"),
			create(id+1, "b", ""), hang(id+1, id, 0), set(id+1, "x", "2"), createText(id+2, "1"), hang(id+2, id+1, 0),
			createText(id+3, "3"), hang(id+3, id, 1), create(id+4, "i", "m"), hang(id+4, id, 2),
		}
	}
	between := func(at int) api.Tree { return part("p", slices.Insert(keys("ab"), at, inner)...) }
	two := between(1)
	two.Kids = append(two.Kids, words("end"))
	high := rooted(keys("ab")...)
	high.Next = 100
	mustBe(t, []wanted{
		{"the first of all", build(part("p")), part("p", inner), innerFrom(2, 0)},
		{"ahead", rooted(keys("ab")...), between(0), innerFrom(4, 0)},
		{"between", rooted(keys("ab")...), between(1), innerFrom(4, 1)},
		{"behind", rooted(keys("ab")...), between(2), innerFrom(4, 2)},
		{"from Next on", high, between(1), innerFrom(100, 1)},
		{"two, the second's numbers behind all of the first's", rooted(keys("ab")...), two, append(innerFrom(4, 1), createText(9, "end"), hang(9, 1, 3))},
		{"a loose one that would fit is left", display(1, 4, el(1, 0, "p"), text(2, 0, "x"), keyed(el(3, 0, "i"), "a")), part("p", key("a"), words("x")), []dom.Patch{
			create(4, "i", "a"), hang(4, 1, 0), createText(5, "x"), hang(5, 1, 1)}},
		{"in a kid with a pair", rooted(part("b")), part("p", part("b", words("x"))), []dom.Patch{createText(3, "x"), hang(3, 2, 0)}},
	})
}

// TestPatchesOfPairs: they stand behind all patches of their parents' kids, in the order of the tree's kids.
func TestPatchesOfPairs(t *testing.T) {
	mustBe(t, []wanted{
		{"in the order of the tree's kids", rooted(key("a", words("1")), key("b", words("2"))), part("p", key("b", words("y")), key("a", words("x"))),
			[]dom.Patch{hang(4, 1, 0), reword(5, "y"), reword(3, "x")}},
		{"behind what is made and hung", rooted(key("a", words("1")), key("b", words("2")), words("3")), part("p", words("z"), key("b", words("y")), part("u", words("n")), key("a", words("x"))),
			[]dom.Patch{hang(6, 1, 0), hang(4, 1, 1), create(7, "u", ""), hang(7, 1, 2), createText(8, "n"), hang(8, 7, 0), reword(6, "z"), reword(5, "y"), reword(3, "x")}},
		{"a pair's all ahead of the next pair's", rooted(key("a", part("b", words("1"))), key("c", words("2"))), part("p", having(key("a", part("b", words("x")), words("n")), "t", "1"), key("c", words("y"))),
			[]dom.Patch{set(2, "t", "1"), createText(7, "n"), hang(7, 2, 1), reword(4, "x"), reword(6, "y")}},
		{"new numbers in the order of the patches", rooted(key("a"), key("b")), part("p", key("a", words("1")), key("n", words("2")), key("b", words("3"))),
			[]dom.Patch{create(4, "i", "n"), hang(4, 1, 1), createText(5, "2"), hang(5, 4, 0), createText(6, "1"), hang(6, 2, 0), createText(7, "3"), hang(7, 3, 0)}},
		{"what is gone deeper is taken away later", rooted(key("a", words("1"), part("b"))), part("p", key("n"), key("a")),
			[]dom.Patch{create(5, "i", "n"), hang(5, 1, 0), away(3), away(4)}},
		{"only the deepest", build(down(deepest, words("x"))), down(deepest, words("y")), []dom.Patch{reword(8, "y")}},
		{"one deeper", build(down(deepest-1, words("x"))), down(deepest, words("x")), []dom.Patch{away(7), create(8, "p", ""), hang(8, 6, 0), createText(9, "x"), hang(9, 8, 0)}},
	})
}
