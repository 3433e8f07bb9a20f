package tree_test

import (
	"html"
	"strings"
	"testing"

	"fanlight/api"
	"fanlight/tree"
)

func TestPrint(t *testing.T) {
	both := with("a", "1", "key", "v", "z", "")
	both.Key = "k"
	for _, c := range []struct {
		tree api.Tree
		want string
	}{
		{el("p", text("a<b")), "<p>a&lt;b</p>"},
		{el("p"), "<p></p>"},
		{el("abcdefghijklmnop"), "<abcdefghijklmnop></abcdefghijklmnop>"},
		{keyed("p", "k"), `<p key="k"></p>`},
		{with("a", "1"), `<p a="1"></p>`},
		{with("a", ""), `<p a=""></p>`},
		{with("a", "1", "b", "2"), `<p a="1" b="2"></p>`},
		{with("key", ""), `<p key=""></p>`},
		{both, `<p key="k" a="1" key="v" z=""></p>`},
		{el("p", text("")), "<p></p>"},
		{el("p", text("a"), text("b")), "<p>ab</p>"},
		{el("p", el("b"), el("i", text("x")), text("y")), "<p><b></b><i>x</i>y</p>"},
		{el("p", text("y"), el("b", el("i", text("x")))), "<p>y<b><i>x</i></b></p>"},
		{el("p", text("&<>\"")), "<p>&amp;&lt;&gt;&quot;</p>"},
		{keyed("p", "&<>\""), `<p key="&amp;&lt;&gt;&quot;"></p>`},
		{with("a", "&<>\""), `<p a="&amp;&lt;&gt;&quot;"></p>`},
		{el("p", text("&amp;&lt;")), "<p>&amp;amp;&amp;lt;</p>"},
		{el("p", text("&&")), "<p>&amp;&amp;</p>"},
		{el("p", text("it's; a=b/c\n\t\r\x00")), "<p>it's; a=b/c\n\t\r\x00</p>"},
		{with("a", "it's; a=b/c\n\t\r\x00"), "<p a=\"it's; a=b/c\n\t\r\x00\"></p>"},
		{keyed("p", "\xff\x80\xc3<"), "<p key=\"\xff\x80\xc3&lt;\"></p>"},
		{el("p", text("\xc3<\xff&\x80")), "<p>\xc3&lt;\xff&amp;\x80</p>"},
		{el("p", text("é\u2028\ufffd")), "<p>é\u2028\ufffd</p>"},
		{el("amp", text("amp lt gt quot")), "<amp>amp lt gt quot</amp>"},
		{down(3, keyed("i", "x", text("\""))), `<p><p><i key="x">&quot;</i></p></p>`},
		{el("div", el("ul", keyed("li", "", text("a"))), el("p", text("1"))), "<div><ul><li>a</li></ul><p>1</p></div>"},
	} {
		for _, x := range []api.Tree{c.tree, bare(c.tree), full(c.tree)} {
			if s, err := tree.Print(x); s != c.want || err != api.OK {
				t.Errorf("P9.2: Print(%s): %q, %v, want %q", tell(x), s, err, c.want)
			}
		}
	}
}

// TestPrintOfEachOctet: four are told by a name, all others are themselves.
func TestPrintOfEachOctet(t *testing.T) {
	names := map[string]string{"&": "&amp;", "<": "&lt;", ">": "&gt;", "\"": "&quot;"}
	for octet := range 256 {
		s := string([]byte{byte(octet)})
		want, named := names[s]
		if !named {
			want = s
		}
		x := keyed("p", "["+s, text("["+s+"]"+s))
		x.Attrs = []api.Attr{{Name: "a", Value: s + "]"}}
		told := `<p key="[` + want + `" a="` + want + `]">[` + want + "]" + want + "</p>"
		if got, err := tree.Print(x); got != told || err != api.OK {
			t.Errorf("P9.2: Print with the octet %#x: %q, %v, want %q", octet, got, err, told)
		}
	}
}

// TestPrintOfGreatTrees: the greatest texts, and the greatest tree, whole.
func TestPrintOfGreatTrees(t *testing.T) {
	quotes := strings.Repeat("\"", written)
	x := manyAttrs(fan)
	want := "<p"
	for i := range x.Attrs {
		x.Attrs[i].Value = quotes
		want += " " + x.Attrs[i].Name + `="` + strings.Repeat("&quot;", written) + `"`
	}
	x.Kids = manyKids(fan).Kids
	want += ">"
	for i := range x.Kids {
		x.Kids[i] = text(quotes)
		want += strings.Repeat("&quot;", written)
	}
	if s, err := tree.Print(x); s != want+"</p>" || err != api.OK {
		t.Errorf("P9.2: Print of long texts: %d octets, %v, want %d", len(s), err, len(want)+4)
	}
	if s, err := tree.Texts(x); s != strings.Repeat(quotes, fan) || err != api.OK {
		t.Errorf("P9.2: Texts of long texts: %d octets, %v", len(s), err)
	}
	if s, err := tree.Print(ofNodes(most)); s != "<p>"+strings.Repeat("<p></p>", 15)+"</p>" || err != api.OK {
		t.Errorf("P9.2: Print of 256 nodes: %q, %v", s, err)
	}
	if s, err := tree.Print(down(deepest, text("x"))); s != strings.Repeat("<p>", 7)+"x"+strings.Repeat("</p>", 7) || err != api.OK {
		t.Errorf("P9.2: Print of 8 within each other: %q, %v", s, err)
	}
}

func TestTexts(t *testing.T) {
	for _, c := range []struct {
		tree api.Tree
		want string
	}{
		{el("p"), ""},
		{el("p", el("b")), ""},
		{el("p", text("")), ""},
		{el("p", text("a")), "a"},
		{el("p", text("a"), text(""), text("b")), "ab"},
		{el("p", text("a"), el("b", text("c"), el("i", text("d"))), text("e")), "acde"},
		{el("p", el("b", el("i", text("d")), text("c")), text("a")), "dca"},
		{el("p", text("a<b&\">")), "a<b&\">"},
		{el("p", text("\xff\x00é")), "\xff\x00é"},
		{el("p", text(" a "), text(" b ")), " a  b "},
		{keyed("p", "k", with("a", "v")), ""},
		{down(deepest, text("x")), "x"},
	} {
		for _, x := range []api.Tree{c.tree, bare(c.tree), full(c.tree)} {
			if s, err := tree.Texts(x); s != c.want || err != api.OK {
				t.Errorf("P9.2: Texts(%s): %q, %v, want %q", tell(x), s, err, c.want)
			}
		}
	}
	for _, x := range may() {
		nodes, _ := inOrder(x, 1)
		want := ""
		for _, n := range nodes {
			want += n.Text
		}
		if s, err := tree.Texts(x); s != want || err != api.OK {
			t.Errorf("P9.2: Texts(%s): %q, %v, want %q", tell(x), s, err, want)
		}
	}
}

// plain is what a print can tell of a tree: texts side by side as one, none that are empty, a Key as an attribute named key ahead of the others.
func plain(t api.Tree) api.Tree {
	p := api.Tree{Tag: t.Tag}
	if t.Key != "" {
		p.Attrs = append(p.Attrs, api.Attr{Name: "key", Value: t.Key})
	}
	p.Attrs = append(p.Attrs, t.Attrs...)
	for _, kid := range t.Kids {
		switch last := len(p.Kids) - 1; {
		case kid.Tag != "":
			p.Kids = append(p.Kids, plain(kid))
		case kid.Text == "":
		case last >= 0 && p.Kids[last].Tag == "":
			p.Kids[last].Text += kid.Text
		default:
			p.Kids = append(p.Kids, text(kid.Text))
		}
	}
	return p
}

// reader reads a print back; what it does not find where it is due it tells by a panic.
type reader struct {
	rest string
}

func (r *reader) due(s string) {
	rest, ok := strings.CutPrefix(r.rest, s)
	if !ok {
		panic(s + " is due ahead of " + r.rest)
	}
	r.rest = rest
}

// until takes what stands ahead of the first of the octets.
func (r *reader) until(octets string) string {
	n := strings.IndexAny(r.rest, octets)
	if n < 0 {
		panic("none of " + octets + " stands in " + r.rest)
	}
	s := r.rest[:n]
	r.rest = r.rest[n:]
	return s
}

func (r *reader) element() api.Tree {
	r.due("<")
	t := el(r.until(" >"))
	for strings.HasPrefix(r.rest, " ") {
		r.due(" ")
		name := r.until("=")
		r.due(`="`)
		t.Attrs = append(t.Attrs, api.Attr{Name: name, Value: html.UnescapeString(r.until(`"<>`))})
		r.due(`"`)
	}
	r.due(">")
	for !strings.HasPrefix(r.rest, "</") {
		if strings.HasPrefix(r.rest, "<") {
			t.Kids = append(t.Kids, r.element())
		} else {
			t.Kids = append(t.Kids, text(html.UnescapeString(r.until(`"<>`))))
		}
	}
	r.due("</" + t.Tag + ">")
	return t
}

// TestPrintsAreReadBack: a print tells all of its tree but for what the chapter names, so trees with unlike plain forms have unlike prints.
func TestPrintsAreReadBack(t *testing.T) {
	r := chanceOf(93)
	l := may()
	for range 3000 {
		l = append(l, r.tree())
	}
	for _, x := range l {
		s, _ := tree.Print(x)
		read := reader{s}
		if got := read.element(); tell(got) != tell(plain(x)) || read.rest != "" {
			t.Fatalf("P9.3: Print(%s) is %q, which reads %s, and %q", tell(x), s, tell(got), read.rest)
		}
	}
}

// smallTrees are all elements of a few words, up to two kids each, and one more level of them.
func smallTrees() []api.Tree {
	var heads []api.Tree
	for _, tag := range []string{"a", "aa", "b"} {
		for _, key := range []string{"", "a", "\"", "&quot;"} {
			for _, attrs := range [][]api.Attr{nil, {{Name: "a", Value: ""}}, {{Name: "a", Value: "a"}}, {{Name: "key", Value: "a"}}, {{Name: "a", Value: "a"}, {Name: "key", Value: "\""}}, {{Name: "a", Value: "\" key=\"\""}}} {
				heads = append(heads, api.Tree{Tag: tag, Key: key, Attrs: attrs})
			}
		}
	}
	l := append([]api.Tree(nil), heads...)
	var kids []api.Tree
	for _, s := range []string{"", "a", "aa", "<", "&lt;", "<a></a>"} {
		kids = append(kids, text(s))
	}
	kids = append(kids, heads[0], heads[1], heads[6], el("a", text("a")), el("a", el("a")), el("aa"))
	for _, x := range kids {
		l = append(l, el("a", x), el("b", x), el("a", el("a", x)))
		for _, y := range kids {
			l = append(l, el("a", x, y), el("a", el("a", x), y), el("a", x, el("a", y)), el("a", el("a", x, y)))
		}
	}
	return l
}

// TestPrintsAreUnlike: two prints are alike just if the trees are one, but for what the chapter names.
func TestPrintsAreUnlike(t *testing.T) {
	seen := map[string]string{}
	alike := map[string]string{}
	for _, x := range append(smallTrees(), may()...) {
		s, err := tree.Print(x)
		if err == api.ErrTwice {
			continue
		}
		told := tell(plain(x))
		if was, there := seen[s]; there && was != told {
			t.Errorf("P9.3: the trees %s and %s have one print: %q", was, told, s)
		}
		if was, there := alike[told]; there && was != s {
			t.Errorf("P9.3: the tree %s has two prints: %q, %q", told, was, s)
		}
		seen[s], alike[told] = told, s
	}
	if len(seen) < 400 {
		t.Errorf("the test's own trees have only %d prints", len(seen))
	}
}

// TestPrintsThatAreAlike: what the chapter names: texts side by side, empty ones, and attributes named key.
func TestPrintsThatAreAlike(t *testing.T) {
	for name, pair := range map[string][2]api.Tree{
		"texts side by side":  {el("p", text("a"), text("b")), el("p", text("ab"))},
		"an empty text":       {el("p", text("")), el("p")},
		"empty texts between": {el("p", text(""), el("b"), text("")), el("p", el("b"))},
		"attributes of key":   {keyed("p", "k"), with("key", "k")},
	} {
		a, _ := tree.Print(pair[0])
		b, _ := tree.Print(pair[1])
		if a != b || a == "" || tree.Same(pair[0], pair[1]) {
			t.Errorf("P9.2: Print, %s: %q and %q", name, a, b)
		}
	}
}
