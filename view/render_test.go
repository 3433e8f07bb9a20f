package view_test

import (
	"slices"
	"strconv"
	"testing"

	"fanlight/api"
	"fanlight/expr"
	"fanlight/tree"
	"fanlight/view"
)

// TestExample: the chapter's example.
func TestExample(t *testing.T) {
	ul := el("ul", each(get("l"), el("li", txt(item()))))
	mustPrint(t, "the example", ul, record("l", texts("a b c")), "<ul><li>a</li><li>b</li><li>c</li></ul>")
	mustPrint(t, "the example", ul, record("l", list()), "<ul></ul>")
	mustPrint(t, "the example", ul, record("l", list(text("a<b"), number(-4), truth(true), nothing())), "<ul><li>a&lt;b</li><li>-4</li><li>true</li><li></li></ul>")
	mustRefuse(t, "the example without l", ul, record("k", list()), 99, api.ErrNone)
	mustRefuse(t, "the example, l is no list", ul, record("l", text("a")), 99, api.ErrType)
	mustRefuse(t, "the example, l has a list", ul, record("l", list(text("a"), list())), 99, api.ErrType)
}

// TestWhatIsHandedIn: which of the errors of template, state and fuel is told.
func TestWhatIsHandedIn(t *testing.T) {
	p := el("p")
	bad := []struct {
		x   view.Template
		err api.Errno
	}{{p, api.OK}, {txt(none()), api.ErrState}, {inside(9, p), api.ErrDeep}, {manyAttrs(17), api.ErrCount}, {keyed("p", ofSize(65)), api.ErrCount}}
	states := append(faultyValuesAndLoop(), faultyValue{nothing(), api.OK}, faultyValue{record(""), api.OK})
	for _, b := range bad {
		for _, s := range states {
			for _, fuel := range []int{-1 << 63, -2, -1, 0, 1, 2, 4095, 4096, 4097, 4098, 1 << 32, 1<<63 - 1} {
				want := api.OK
				switch {
				case b.err != api.OK:
					want = b.err
				case s.err != api.OK:
					want = s.err
				case fuel < 0 || fuel > 4096:
					want = api.ErrRange
				case fuel == 0:
					want = api.ErrFuel
				}
				x, err := view.Render(b.x, s.v, fuel)
				if err != want || isNone(x) != (want != api.OK) {
					t.Errorf("P17.2, P4: Render of %s with %s and fuel %d: %s, %v, want %v", tellTemplate(b.x), tell(s.v), fuel, tellTree(x), err, want)
				}
			}
		}
	}
	for _, fuel := range []int{-1, 4097} {
		mustRefuse(t, "an expression that fails", keyed("p", op(opNot, num(1))), nothing(), fuel, api.ErrRange)
	}
}

// TestStatesOfEachKind: a state needs not be a record.
func TestStatesOfEachKind(t *testing.T) {
	for _, v := range slices.Concat(ofEachKind()...) {
		mustPrint(t, "a template that reads nothing", el("p", txt(str("x"))), v, "<p>x</p>")
		want := "<p>false</p>"
		if v.Kind == kindText && v.Text == "k" {
			want = "<p>true</p>"
		}
		mustPrint(t, "a template that reads all", el("p", txt(op(opSame, state(), str("k")))), v, want)
	}
	for _, v := range []api.Value{deep(8, nothing()), ofParts(512), wideRecord(32), numbers(32), text(repeat("x", 128))} {
		mustPrint(t, "a template with a great state", el("p", txt(op(opSame, state(), state()))), v, "<p>true</p>")
	}
}

// TestKeys: a word of at most 16 octets; nothing, and an empty one, are no Key.
func TestKeys(t *testing.T) {
	mustMake(t, "an element without a Key", keyed("p", none()), nothing(), api.Tree{Tag: "p"})
	for n := range 129 {
		for _, octet := range []string{"k", "\x00", "\xff", "<"} {
			s := repeat(octet, n)
			for _, x := range []view.Template{keyed("p", str(s)), keyed("p", state())} {
				if n <= 16 {
					mustMake(t, "a Key of "+strconv.Itoa(n)+" octets", x, text(s), api.Tree{Tag: "p", Key: s})
				} else {
					mustRefuse(t, "a Key of "+strconv.Itoa(n)+" octets", x, text(s), 99, api.ErrLong)
					mustRefuse(t, "a kid's Key of "+strconv.Itoa(n)+" octets", el("p", each(op(opList, yes(), no()), x)), text(s), 99, api.ErrLong)
				}
			}
		}
	}
	mustMake(t, "a Key of 16 octets, 8 letters", keyed("p", str(repeat("é", 8))), nothing(), api.Tree{Tag: "p", Key: repeat("é", 8)})
	mustRefuse(t, "a Key of 18 octets, 9 letters", keyed("p", str(repeat("é", 9))), nothing(), 99, api.ErrLong)
	mustPrint(t, "Keys of each kind", el("p", keyed("a", none()), keyed("b", yes()), keyed("c", num(-12)), keyed("d", str("x")), keyed("e", get("k"))), record("k", number(3)),
		`<p><a></a><b key="true"></b><c key="-12"></c><d key="x"></d><e key="3"></e></p>`)
	mustMake(t, "a Key of 16 digits", keyed("p", num(1<<53)), nothing(), api.Tree{Tag: "p", Key: "9007199254740992"})
	mustMake(t, "a Key of 16 octets, a sign", keyed("p", num(-999999999999999)), nothing(), api.Tree{Tag: "p", Key: "-999999999999999"})
	mustRefuse(t, "a Key of 17 octets, a sign", keyed("p", num(-1<<53)), nothing(), 99, api.ErrLong)
	for _, e := range []expr.Expr{op(opList), num(0.5), op(opDiv, num(0), num(0)), op(opDiv, num(1), num(0)), num(1 << 54)} {
		mustRefuse(t, "a Key of no word", keyed("p", e), nothing(), 99, api.ErrType)
	}
	for _, f := range failings() {
		mustRefuse(t, "a Key that fails", keyed("p", f.e), nothing(), 99, f.err)
	}
}

// TestAttributes: words in the order of their Names, however the template orders them.
func TestAttributes(t *testing.T) {
	orders := [][]int{{0, 1, 2, 3}}
	for len(orders) < 24 {
		orders = append(orders, nextOrder(orders[len(orders)-1]))
	}
	all := []string{"a", "aa", "b", "key"}
	for _, order := range orders {
		x := el("p")
		for _, i := range order {
			x.Attrs = append(x.Attrs, view.Attr{Name: all[i], Expr: num(float64(i))})
		}
		mustPrint(t, "attributes in the order "+tellTemplate(x), x, nothing(), `<p a="0" aa="1" b="2" key="3"></p>`)
	}
	back := manyAttrs(16)
	want := api.Tree{Tag: "p"}
	for i := range back.Attrs {
		back.Attrs[i].Expr = num(float64(i))
		want.Attrs = append(want.Attrs, api.Attr{Name: back.Attrs[i].Name, Value: strconv.Itoa(i)})
	}
	mustMake(t, "16 attributes", back, nothing(), want)
	slices.Reverse(back.Attrs)
	mustMake(t, "16 attributes backwards", back, nothing(), want)
	mustPrint(t, "attributes of each kind", with("p", "e d c b a", none(), yes(), num(-1), str(`<"`), state()), text("s"), `<p a="s" b="&lt;&quot;" c="-1" d="true" e=""></p>`)
	for n := range 129 {
		mustMake(t, "an attribute's word of "+strconv.Itoa(n)+" octets", with("p", "a", state()), text(repeat("x", n)), api.Tree{Tag: "p", Attrs: []api.Attr{{Name: "a", Value: repeat("x", n)}}})
	}
	for _, e := range []expr.Expr{op(opList), num(0.5), op(opDiv, num(0), num(0)), num(1 << 54)} {
		mustRefuse(t, "an attribute of no word", with("p", "a b c", yes(), e, no()), nothing(), 99, api.ErrType)
	}
	keys := with("p", "key", str("v"))
	keys.Key = str("k")
	mustMake(t, "a Key and an attribute named key", keys, nothing(), api.Tree{Tag: "p", Key: "k", Attrs: []api.Attr{{Name: "key", Value: "v"}}})
}

// nextOrder is the order that follows, of all orders of some places.
func nextOrder(order []int) []int {
	next := slices.Clone(order)
	i := len(next) - 2
	for next[i] > next[i+1] {
		i--
	}
	j := len(next) - 1
	for next[j] < next[i] {
		j--
	}
	next[i], next[j] = next[j], next[i]
	slices.Reverse(next[i+1:])
	return next
}

// TestOrderWithinAnElement: its Key, its attributes in the template's order, its kids: the first error is told.
func TestOrderWithinAnElement(t *testing.T) {
	for _, first := range failings() {
		for _, second := range failings() {
			x := with("p", "z m a", yes(), yes(), yes())
			x.Kids = []view.Template{txt(second.e), txt(yes())}
			mustRefuse(t, "a text that fails", x, nothing(), 99, second.err)
			for i := range 3 {
				y := x
				y.Attrs = slices.Clone(x.Attrs)
				y.Attrs[i].Expr = first.e
				mustRefuse(t, "an attribute that fails, and a text", y, nothing(), 99, first.err)
				for j := i + 1; j < 3; j++ {
					y.Attrs[j].Expr = second.e
				}
				mustRefuse(t, "an attribute that fails, and others behind it", y, nothing(), 99, first.err)
				y.Key = second.e
				mustRefuse(t, "a Key that fails, and an attribute", y, nothing(), 99, second.err)
				y.Key = str(repeat("k", 17))
				mustRefuse(t, "a long Key, and an attribute that fails", y, nothing(), 99, api.ErrLong)
				y.Key = op(opList)
				mustRefuse(t, "a Key of no word, and an attribute that fails", y, nothing(), 99, api.ErrType)
			}
			mustRefuse(t, "two texts that fail", el("p", txt(first.e), txt(second.e)), nothing(), 99, first.err)
			mustRefuse(t, "a kid's kid that fails, and a kid", el("p", el("p", txt(first.e)), txt(second.e)), nothing(), 99, first.err)
			mustRefuse(t, "an Expr of If that fails", el("p", onlyIf(first.e, txt(second.e))), nothing(), 99, first.err)
			mustRefuse(t, "an Expr of Each that fails", el("p", each(first.e, txt(second.e))), nothing(), 99, first.err)
			mustRefuse(t, "kids of If that fail", el("p", onlyIf(yes(), txt(yes()), txt(first.e)), txt(second.e)), nothing(), 99, first.err)
			mustRefuse(t, "kids of Each that fail", el("p", each(op(opList, yes()), txt(yes()), txt(first.e)), txt(second.e)), nothing(), 99, first.err)
			mustRefuse(t, "kids of Each that fail", el("p", each(op(opList, yes(), first.e), txt(second.e))), nothing(), 99, first.err)
		}
	}
}

// TestTexts: the word, and nothing else.
func TestTexts(t *testing.T) {
	for _, kind := range []int{kindNothing, kindTruth, kindNumber, kindText} {
		for _, v := range ofEachKind()[kind] {
			want, err := slowWord(v)
			if err == api.OK {
				mustMake(t, "a text", el("p", txt(state()), txt(state())), v, api.Tree{Tag: "p", Kids: []api.Tree{{Text: want}, {Text: want}}})
			}
		}
	}
	mustMake(t, "texts side by side", el("p", txt(str("a")), txt(none()), txt(str("")), txt(str("b"))), nothing(), api.Tree{Tag: "p", Kids: []api.Tree{{Text: "a"}, {}, {}, {Text: "b"}}})
}

// TestKidsIf: with true, with false, and with what is no truth.
func TestKidsIf(t *testing.T) {
	x := el("p", txt(str("a")), onlyIf(state(), txt(str("b")), el("i"), txt(str("c"))), txt(str("d")))
	for kind, of := range ofEachKind() {
		for _, v := range of {
			switch {
			case kind != kindTruth:
				mustRefuse(t, "kids if "+tell(v), x, v, 99, api.ErrType)
				mustRefuse(t, "no kids if "+tell(v), el("p", onlyIf(state())), v, 99, api.ErrType)
			case v.Bits == 1:
				mustPrint(t, "kids if true", x, v, "<p>ab<i></i>cd</p>")
			default:
				mustPrint(t, "kids if false", x, v, "<p>ad</p>")
			}
		}
	}
	for _, f := range failings() {
		mustPrint(t, "kids that would fail, if false", el("p", onlyIf(no(), txt(f.e), keyed("p", f.e), with("p", "a", f.e), onlyIf(f.e), each(f.e))), nothing(), "<p></p>")
		mustRefuse(t, "kids that fail, if true", el("p", onlyIf(yes(), el("p", txt(f.e)))), nothing(), 99, f.err)
	}
	for mask := range 16 {
		is := func(i int) expr.Expr { return op(opSame, num(1), num(float64(mask>>i&1))) }
		want := ""
		if mask&1 == 1 {
			want += "a"
			if mask&2 == 2 {
				want += "b"
			}
			want += "c"
		}
		if mask&4 == 4 && mask&8 == 8 {
			want += "d"
		}
		mustPrint(t, "kids if within each other", el("p", onlyIf(is(0), txt(str("a")), onlyIf(is(1), txt(str("b"))), txt(str("c"))), onlyIf(is(2), onlyIf(is(3), txt(str("d"))))), nothing(), "<p>"+want+"</p>")
	}
	mustPrint(t, "no kids, if true", el("p", onlyIf(yes())), nothing(), "<p></p>")
}

// TestKidsForEach: with lists of each length, with what is no list.
func TestKidsForEach(t *testing.T) {
	x := el("p", txt(str("<")), each(state(), txt(item()), el("i", txt(item()))), txt(str(">")))
	want := ""
	for n := range 6 {
		mustPrint(t, "a list of "+strconv.Itoa(n), x, numbers(n), "<p>&lt;"+want+"&gt;</p>")
		want += strconv.Itoa(n) + "<i>" + strconv.Itoa(n) + "</i>"
	}
	for kind, of := range ofEachKind() {
		for _, v := range of {
			if kind != kindList {
				mustRefuse(t, "each of "+tell(v), x, v, 99, api.ErrType)
				mustRefuse(t, "each of "+tell(v)+", without kids", el("p", each(state())), v, 99, api.ErrType)
			}
		}
	}
	for n := range 33 {
		mustPrint(t, "a list of "+strconv.Itoa(n)+", without kids", el("p", each(state())), numbers(n), "<p></p>")
		if n <= 16 {
			mustMake(t, "a list of "+strconv.Itoa(n), el("p", each(state(), txt(none()))), numbers(n), api.Tree{Tag: "p", Kids: make([]api.Tree, n)})
		}
	}
	for _, f := range failings() {
		mustPrint(t, "kids that would fail, of no items", el("p", each(op(opList), txt(f.e), keyed("p", f.e), with("p", "a", f.e), onlyIf(f.e), each(f.e))), nothing(), "<p></p>")
		mustRefuse(t, "kids that fail", el("p", each(numbersOf(3), el("p", txt(f.e)))), nothing(), 99, f.err)
		last := op(opIf, op(opSame, item(), num(2)), f.e, item())
		mustRefuse(t, "kids that fail with the last item", el("p", each(numbersOf(3), txt(last))), nothing(), 99, f.err)
		mustPrint(t, "kids that would fail with an item more", el("p", each(numbersOf(2), txt(last))), nothing(), "<p>01</p>")
	}
}

// numbersOf is a list of n numbers, from 0 on: n is at most 8.
func numbersOf(n int) expr.Expr {
	e := op(opList)
	for i := range n {
		e.Args = append(e.Args, num(float64(i)))
	}
	return e
}

// TestItem: which it is within a list's kids, within a list's within those, and behind them.
func TestItem(t *testing.T) {
	isNothing := op(opSame, item(), none())
	rows := list(texts("a b"), list(), texts("c"))
	mustPrint(t, "Item within and behind", el("p",
		txt(isNothing),
		each(state(),
			txt(op(opLen, item())),
			each(item(), txt(item()), keyed("i", item(), txt(join(item(), str("!"))))),
			txt(op(opLen, item()))),
		txt(isNothing)), rows,
		`<p>true2a<i key="a">a!</i>b<i key="b">b!</i>2001c<i key="c">c!</i>1true</p>`)
	mustPrint(t, "Item in Keys, attributes, and If", el("p",
		each(state(), keyed("b", item(), onlyIf(op(opSame, item(), str("y")), txt(item()))), with("i", "q a", item(), join(item(), item())))), texts("x y"),
		`<p><b key="x"></b><i a="xx" q="x"></i><b key="y">y</b><i a="yy" q="y"></i></p>`)
	mustPrint(t, "Item behind a list without items", el("p", each(texted("a b"), each(op(opList), txt(yes())), txt(item()))), nothing(), "<p>ab</p>")
	mustPrint(t, "Item behind a list without kids", el("p", each(texted("a b"), each(numbersOf(3)), txt(item()))), nothing(), "<p>ab</p>")
	mustPrint(t, "Item behind an element that has a list", el("p", each(texted("a b"), el("i", each(numbersOf(2), txt(item()))), txt(item()))), nothing(), "<p><i>01</i>a<i>01</i>b</p>")
	mustPrint(t, "Item behind If that has a list", el("p", each(texted("a b"), onlyIf(yes(), each(numbersOf(2), txt(item()))), txt(item()))), nothing(), "<p>01a01b</p>")
	mustPrint(t, "Item behind expressions that have their own", el("p", each(texted("a b"), each(op(opMap, numbersOf(2), op(opAdd, item(), num(5))), txt(item())), txt(op(opLen, op(opFilter, numbersOf(3), op(opSame, item(), num(1))))), txt(item()))), nothing(), "<p>561a561b</p>")
	mustPrint(t, "Item of the list that Each goes through is the outer one", el("p", each(op(opList, numbersOf(2), numbersOf(3)), each(op(opMap, item(), op(opAdd, item(), num(1))), txt(item())), txt(str(";")))), nothing(), "<p>12;123;</p>")
	mustPrint(t, "lists thrice within each other", el("p", each(texted("a b"), each(texted("c d"), each(op(opList, item(), item()), txt(item())), txt(item())), txt(item()))), nothing(), "<p>cccdddacccdddb</p>")
	for _, x := range []view.Template{
		keyed("p", op(opSame, item(), none())), with("p", "key", op(opSame, item(), none())),
	} {
		mustPrint(t, "Item of the root", x, texts("a"), `<p key="true"></p>`)
	}
	mustPrint(t, "Item behind each of a list", el("p", each(state(), txt(item())), txt(item()), each(state(), txt(item())), keyed("i", item())), texts("a b"), "<p>abab<i></i></p>")
}

// texted is a list of the words of s.
func texted(s string) expr.Expr {
	e := op(opList)
	for _, x := range texts(s).Items {
		e.Args = append(e.Args, str(x.Text))
	}
	return e
}

// TestEventIsNothing: everywhere, and behind an Item.
func TestEventIsNothing(t *testing.T) {
	is := op(opSame, event(), none())
	x := with("p", "a", is)
	x.Key = is
	x.Kids = []view.Template{txt(is), onlyIf(is, txt(is)), each(op(opList, event(), is), txt(is), txt(event()))}
	mustMake(t, "a template that asks for the event", x, record("k", text("x")), api.Tree{Tag: "p", Key: "true", Attrs: []api.Attr{{Name: "a", Value: "true"}}, Kids: []api.Tree{{Text: "true"}, {Text: "true"}, {Text: "true"}, {}, {Text: "true"}, {}}})
	mustRefuse(t, "each of the event", el("p", each(event())), numbers(1), 99, api.ErrType)
	mustRefuse(t, "kids if the event", el("p", onlyIf(event())), truth(true), 99, api.ErrType)
}

// TestFuel: one for all parts, and each takes what its expressions take, an op 0 too.
func TestFuel(t *testing.T) {
	mustTake(t, "an element", el("p"), nothing(), 1)
	mustTake(t, "an element with a Key", keyed("p", op(opNot, yes())), nothing(), 2)
	for n := range 17 {
		mustTake(t, "an element with attributes", manyAttrs(n), nothing(), 1+n)
		mustTake(t, "an element with texts", el("p", manyKids(n)...), nothing(), 1+n)
		mustTake(t, "an element with elements", el("p", slices.Repeat([]view.Template{el("i", txt(none()))}, n)...), nothing(), 1+2*n)
		mustTake(t, "an element with a list's kids", el("p", each(state(), txt(item()))), numbers(n), 2+n)
	}
	for n := range 33 {
		mustTake(t, "a list without kids", el("p", each(state())), numbers(n), 2)
		mustTake(t, "a list with kids that are none", el("p", each(state(), onlyIf(no(), txt(none())))), numbers(n), 2+n)
	}
	mustTake(t, "kids if true", el("p", onlyIf(yes(), txt(none()), txt(none()))), nothing(), 4)
	mustTake(t, "kids if false", el("p", onlyIf(no(), txt(none()), txt(none()))), nothing(), 2)
	mustTake(t, "a list of no items", el("p", each(op(opList), txt(none()))), nothing(), 2)
	mustTake(t, "the example", el("ul", each(get("l"), el("li", txt(item())))), record("l", texts("a b c")), 1+2+3*2)
	for n := 1; n <= 64; n++ {
		mustTake(t, "a list of "+strconv.Itoa(n)+" parts", el("p", each(ofSize(n))), nothing(), 1+n)
	}
}

// fueled is a template that takes so much of fuel in its places, in their order: each at least 4.
func fueled(shares []int) view.Template {
	burnt := func(i int) expr.Expr { return burns(shares[i]) }
	list := func(i int) expr.Expr { return op(opList, burns(shares[i]-1)) }
	x := with("p", "c a b", burnt(1), burnt(2), burnt(3))
	x.Key = burnt(0)
	inner := with("i", "a", burnt(6))
	inner.Key = burnt(5)
	inner.Kids = []view.Template{txt(burnt(7))}
	x.Kids = []view.Template{
		txt(burnt(4)),
		inner,
		onlyIf(op(opNot, burns(shares[8]-1)), txt(burnt(9))),
		onlyIf(burnt(10), txt(yes())),
		each(list(11), txt(burnt(12)), onlyIf(burnt(13))),
		txt(burnt(14)),
	}
	return x
}

// TestAllFuel: 4096 and less, wherever the most of it is burnt: just enough may be, one less may not.
func TestAllFuel(t *testing.T) {
	v := record("l", numbers(32))
	want := `<p key="false" a="false" b="false" c="false">false<i key="false" a="false">false</i>falsefalsefalse</p>`
	for first := range 15 {
		shares := slices.Repeat([]int{4}, 15)
		mustTake(t, "shares of 4", fueled(shares), v, 4*15)
		left := api.MaxFuel - 4*15
		for i := first; left > 0; i++ {
			more := min(left, 800)
			shares[i%15] += more
			left -= more
		}
		mustPrint(t, "all of the fuel", fueled(shares), v, want)
		mustRefuse(t, "all of the fuel", fueled(shares), v, api.MaxFuel-1, api.ErrFuel)
		for at := range 15 {
			shares[at]++
			mustRefuse(t, "one more than all of the fuel", fueled(shares), v, api.MaxFuel, api.ErrFuel)
			shares[at] -= 2
			mustPrint(t, "one less than all of the fuel", fueled(shares), v, want)
			shares[at]++
		}
	}
}

// TestFuelAndOtherErrors: what comes first is told.
func TestFuelAndOtherErrors(t *testing.T) {
	for _, f := range failings() {
		for fuel := range 12 {
			want := f.err
			if fuel < 1+5+f.parts {
				want = api.ErrFuel
			}
			mustRefuse(t, "a text that fails behind 6 of fuel", el("p", txt(burns(5)), txt(f.e)), nothing(), fuel, want)
			if fuel >= 1+f.parts {
				mustRefuse(t, "a text that fails ahead of others", el("p", txt(f.e), txt(burns(20))), nothing(), fuel, f.err)
			}
		}
	}
	twice := el("p", keyed("i", yes()), keyed("i", yes()), txt(none()))
	mustRefuse(t, "two kids of one Key", twice, nothing(), 4, api.ErrTwice)
	mustRefuse(t, "two kids of one Key, and too little fuel", twice, nothing(), 3, api.ErrFuel)
	mustRefuse(t, "a long Key, all fuel taken", keyed("p", str(repeat("k", 17))), nothing(), 1, api.ErrLong)
	mustRefuse(t, "a Key of no word, all fuel taken", keyed("p", op(opList)), nothing(), 1, api.ErrType)
	mustRefuse(t, "kids if what is no truth, all fuel taken", el("p", onlyIf(none(), txt(none()))), nothing(), 2, api.ErrType)
	mustRefuse(t, "each of what is no list, all fuel taken", el("p", each(none(), txt(none()))), nothing(), 2, api.ErrType)
}

// TestBurns: the expressions of these tests may be, and burn what they say.
func TestBurns(t *testing.T) {
	for n := 3; n <= 900; n++ {
		x := el("p", txt(burns(n)))
		mustCheck(t, "the test's own expression that burns "+strconv.Itoa(n), x, api.OK)
		if n%50 < 3 {
			mustTake(t, "the test's own expression", x, record("l", numbers(32)), 1+n)
		}
	}
}

// TestTooManyKids: 16 may be, of however many parts they come.
func TestTooManyKids(t *testing.T) {
	for n := range 33 {
		for _, x := range []view.Template{
			el("p", each(state(), txt(item()))),
			el("p", each(state(), onlyIf(yes(), el("i")))),
			el("p", el("q", each(state(), el("i", txt(item()))))),
			el("p", onlyIf(yes(), each(state(), keyed("i", item())))),
		} {
			if n <= 16 {
				made, err := view.Render(x, numbers(n), api.MaxFuel)
				if _, bad := tree.Print(made); err != api.OK || bad != api.OK || len(made.Kids) != n && len(made.Kids[0].Kids) != n {
					t.Errorf("P17.2: %d kids: %s, %v", n, tellTree(made), err)
				}
			} else {
				mustRefuse(t, strconv.Itoa(n)+" kids", x, numbers(n), api.MaxFuel, api.ErrState)
			}
		}
	}
	two := el("p", each(state(), txt(item()), el("i")), txt(none()))
	mustRefuse(t, "17 kids", two, numbers(8), api.MaxFuel, api.ErrState)
	two.Kids = two.Kids[:1]
	mustPrint(t, "16 kids", two, numbers(8), "<p>0<i></i>1<i></i>2<i></i>3<i></i>4<i></i>5<i></i>6<i></i>7<i></i></p>")
}

// TestTooManyNodes: 256 may be.
func TestTooManyNodes(t *testing.T) {
	wide := func(rows int, more ...view.Template) view.Template {
		return el("p", append([]view.Template{each(of(state(), "r"+strconv.Itoa(rows)), el("i", each(of(state(), "c"), txt(none()))))}, more...)...)
	}
	v := record("c r14 r15 r16", numbers(16), numbers(14), numbers(15), numbers(16))
	for _, c := range []struct {
		x     view.Template
		nodes int
	}{
		{wide(14), 239}, {wide(15), 256}, {wide(14, el("b", manyKids(16)...)), 256}, {wide(14, el("b", manyKids(15)...), txt(none())), 256},
		{wide(15, txt(none())), 257}, {wide(15, el("b")), 257}, {wide(14, el("b", manyKids(16)...), txt(none())), 257}, {wide(16), 273},
	} {
		made, err := view.Render(c.x, v, api.MaxFuel)
		nodes, _, _ := tree.Size(made)
		if c.nodes <= 256 && (err != api.OK || nodes != c.nodes) || c.nodes > 256 && (err != api.ErrCount || !isNone(made)) {
			t.Errorf("P17.2: Render of %d nodes: %d, %v", c.nodes, nodes, err)
		}
	}
	mustRefuse(t, "17 kids, each with 16", wide(16, txt(none())), v, api.MaxFuel, api.ErrState)
	mustRefuse(t, "1024 texts in one element", el("p", each(state(), each(state(), txt(none())))), numbers(32), api.MaxFuel, api.ErrState)
	mustRefuse(t, "more texts than there is fuel for", el("p", each(state(), each(state(), each(state(), txt(none()))))), numbers(32), api.MaxFuel, api.ErrFuel)
}

// TestEightDeep: a tree is never deeper than its template, which may be 8 deep.
func TestEightDeep(t *testing.T) {
	x, want := txt(str("x")), "x"
	for range 7 {
		x, want = el("p", x), "<p>"+want+"</p>"
	}
	mustPrint(t, "a template 8 deep", x, nothing(), want)
	mustPrint(t, "a template 8 deep, some of its parts no nodes", el("p", each(texted("a b"), onlyIf(yes(), each(texted("c d"), el("q", each(op(opList, item()), el("i", txt(item())))))))), nothing(),
		"<p><q><i>c</i></q><q><i>d</i></q><q><i>c</i></q><q><i>d</i></q></p>")
}

// TestTwoKidsOfOneKey: of one parent, and not none.
func TestTwoKidsOfOneKey(t *testing.T) {
	one := keyed("i", str("k"))
	for _, x := range []view.Template{
		el("p", one, one),
		el("p", one, txt(none()), el("b"), keyed("b", str("m")), keyed("b", str("k"))),
		el("p", each(numbersOf(2), one)),
		el("p", one, each(numbersOf(1), one)),
		el("p", onlyIf(yes(), one), onlyIf(yes(), one)),
		el("p", each(numbersOf(2), onlyIf(yes(), each(numbersOf(1), one)))),
		el("p", el("q", one, one)),
		el("p", keyed("i", yes()), keyed("i", str("true"))),
		el("p", each(op(opList, num(1), str("1")), keyed("i", item()))),
	} {
		mustRefuse(t, "two kids of one Key "+tellTemplate(x), x, nothing(), 99, api.ErrTwice)
	}
	for _, c := range []struct {
		x    view.Template
		want string
	}{
		{el("p", el("i"), el("i"), keyed("i", str("")), keyed("i", none())), "<p><i></i><i></i><i></i><i></i></p>"},
		{el("p", one, onlyIf(no(), one)), `<p><i key="k"></i></p>`},
		{el("p", each(numbersOf(1), one), each(numbersOf(0), one)), `<p><i key="k"></i></p>`},
		{el("p", each(numbersOf(3), keyed("i", item()))), `<p><i key="0"></i><i key="1"></i><i key="2"></i></p>`},
		{keyed("p", str("k"), keyed("i", str("k"), keyed("b", str("k")))), `<p key="k"><i key="k"><b key="k"></b></i></p>`},
		{el("p", el("q", one), el("q", one)), `<p><q><i key="k"></i></q><q><i key="k"></i></q></p>`},
		{el("p", each(numbersOf(2), el("q", one))), `<p><q><i key="k"></i></q><q><i key="k"></i></q></p>`},
		{el("p", one, keyed("i", str("kk")), keyed("i", str("K"))), `<p><i key="k"></i><i key="kk"></i><i key="K"></i></p>`},
	} {
		mustPrint(t, "Keys of "+tellTemplate(c.x), c.x, nothing(), c.want)
	}
}

// TestTheTreeIsCheckedLast: any error of a part's goes ahead of the tree's.
func TestTheTreeIsCheckedLast(t *testing.T) {
	twice := []view.Template{keyed("i", yes()), keyed("i", yes())}
	many := each(state(), txt(none()))
	for _, f := range failings() {
		mustRefuse(t, "two kids of one Key, then an error", el("p", append(slices.Clone(twice), txt(f.e))...), nothing(), 999, f.err)
		mustRefuse(t, "20 kids, then an error", el("p", many, txt(f.e)), numbers(20), 999, f.err)
	}
	mustRefuse(t, "two kids of one Key, then a long Key", el("p", append(slices.Clone(twice), keyed("i", str(repeat("k", 17))))...), nothing(), 999, api.ErrLong)
	mustRefuse(t, "two kids of one Key", el("p", twice...), nothing(), 999, api.ErrTwice)
	mustRefuse(t, "20 kids", el("p", many), numbers(20), 999, api.ErrState)
	mustRefuse(t, "20 kids, two of one Key", el("p", append(slices.Clone(twice), many)...), numbers(20), 999, api.ErrState)
	mustRefuse(t, "20 kids in a kid, two of one Key", el("p", append(slices.Clone(twice), el("q", many))...), numbers(20), 999, api.ErrTwice)
}
