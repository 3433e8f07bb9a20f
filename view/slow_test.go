package view_test

import (
	"regexp"
	"slices"
	"testing"

	"fanlight/api"
	"fanlight/eval"
	"fanlight/expr"
	"fanlight/tree"
	"fanlight/value"
	"fanlight/view"
)

var letters = regexp.MustCompile(`\A[a-z]{1,16}\z`)

// slowCheck gathers all faults of a template that ends, in the chapter's order, and takes the first.
func slowCheck(x view.Template) api.Errno {
	var all []api.Errno
	if x.What != whatElement {
		all = append(all, api.ErrState)
	}
	for i, path := range pathsOf(x, nil) {
		part := *at(&x, path)
		if len(path) == 8 {
			all = append(all, api.ErrDeep)
		}
		if i == 64 || len(part.Attrs) > 16 || len(part.Kids) > 16 {
			all = append(all, api.ErrCount)
		}
		if !slowMayBe(part) {
			all = append(all, api.ErrState)
		}
		all = append(all, expr.Check(part.Key), expr.Check(part.Expr))
		for _, a := range part.Attrs {
			all = append(all, expr.Check(a.Expr))
		}
	}
	return firstError(all...)
}

func firstError(all ...api.Errno) api.Errno {
	for _, err := range all {
		if err != api.OK {
			return err
		}
	}
	return api.OK
}

// slowMayBe tells whether a part may be by itself: what of it is not used is as if it were taken away.
func slowMayBe(part view.Template) bool {
	var names []string
	for _, a := range part.Attrs {
		if !letters.MatchString(a.Name) || slices.Contains(names, a.Name) {
			return false
		}
		names = append(names, a.Name)
	}
	used := view.Template{What: part.What}
	switch part.What {
	case whatElement:
		used.Tag, used.Key, used.Attrs, used.Kids = part.Tag, part.Key, part.Attrs, part.Kids
	case whatText:
		used.Expr = part.Expr
	case whatIf, whatEach:
		used.Expr, used.Kids = part.Expr, part.Kids
	default:
		return false
	}
	return tellFields(used) == tellFields(part) && (part.What != whatElement || letters.MatchString(part.Tag))
}

func tellFields(x view.Template) string {
	kids := make([]byte, len(x.Kids))
	x.Kids = nil
	return tellTemplate(x) + string(kids)
}

// slow renders by the chapter's words, one after the other.
type slow struct {
	state api.Value
	fuel  int
}

func slowRender(x view.Template, v api.Value, fuel int) (api.Tree, api.Errno) {
	if err := firstError(slowCheck(x), value.Check(v)); err != api.OK {
		return api.Tree{}, err
	}
	if fuel < 0 || fuel > 4096 {
		return api.Tree{}, api.ErrRange
	}
	s := &slow{v, fuel}
	made, err := s.part(x, nothing())
	if err == api.OK {
		err = tree.Check(made[0])
	}
	if err != api.OK {
		return api.Tree{}, err
	}
	return made[0], api.OK
}

func (s *slow) value(e expr.Expr, item api.Value) (api.Value, api.Errno) {
	v, left, err := eval.Eval(e, eval.Scope{State: s.state, Item: item}, s.fuel)
	s.fuel = left
	return v, err
}

func (s *slow) word(e expr.Expr, item api.Value) (string, api.Errno) {
	v, err := s.value(e, item)
	if err != api.OK {
		return "", err
	}
	return slowWord(v)
}

func (s *slow) part(x view.Template, item api.Value) ([]api.Tree, api.Errno) {
	if x.What == whatElement {
		made, err := s.element(x, item)
		return []api.Tree{made}, err
	}
	if x.What == whatText {
		word, err := s.word(x.Expr, item)
		return []api.Tree{{Text: word}}, err
	}
	v, err := s.value(x.Expr, item)
	if err != api.OK {
		return nil, err
	}
	if x.What == whatIf && v.Kind == kindTruth && v.Bits == 0 {
		return nil, api.OK
	}
	if x.What == whatIf && v.Kind == kindTruth {
		return s.parts(x.Kids, item)
	}
	if x.What == whatIf || v.Kind != kindList {
		return nil, api.ErrType
	}
	var all []api.Tree
	for _, inner := range v.Items {
		made, err := s.parts(x.Kids, inner)
		if err != api.OK {
			return nil, err
		}
		all = append(all, made...)
	}
	return all, api.OK
}

func (s *slow) parts(l []view.Template, item api.Value) ([]api.Tree, api.Errno) {
	var all []api.Tree
	for _, x := range l {
		made, err := s.part(x, item)
		if err != api.OK {
			return nil, err
		}
		all = append(all, made...)
	}
	return all, api.OK
}

func (s *slow) element(x view.Template, item api.Value) (api.Tree, api.Errno) {
	key, err := s.word(x.Key, item)
	if err != api.OK {
		return api.Tree{}, err
	}
	if len(key) > 16 {
		return api.Tree{}, api.ErrLong
	}
	words := map[string]string{}
	var names []string
	for _, a := range x.Attrs {
		word, err := s.word(a.Expr, item)
		if err != api.OK {
			return api.Tree{}, err
		}
		words[a.Name] = word
		names = append(names, a.Name)
	}
	slices.Sort(names)
	made := api.Tree{Tag: x.Tag, Key: key}
	for _, name := range names {
		made.Attrs = append(made.Attrs, api.Attr{Name: name, Value: words[name]})
	}
	made.Kids, err = s.parts(x.Kids, item)
	return made, err
}

// mustBeAsSlow holds what Render tells against the slow way, and answers that.
func mustBeAsSlow(t *testing.T, x view.Template, v api.Value, fuel int) (api.Tree, api.Errno) {
	t.Helper()
	want, werr := slowRender(x, v, fuel)
	made, err := view.Render(x, v, fuel)
	if err != werr || tellTree(made) != tellTree(want) || err != api.OK && !isNone(made) {
		t.Fatalf("P17.2: Render(%s, %s, %d): %s, %v, want %s, %v", tellTemplate(x), tell(v), fuel, tellTree(made), err, tellTree(want), werr)
	}
	if err == api.OK && tree.Check(made) != api.OK {
		t.Fatalf("P17.3: Render(%s, %s, %d): %s, which may not be", tellTemplate(x), tell(v), fuel, tellTree(made))
	}
	return made, err
}

// TestByChance: templates and states from a fixed rule, most of which can be rendered, held against the slow way; with fuel of all sizes, too.
func TestByChance(t *testing.T) {
	m := makerOf(17)
	told := map[api.Errno]int{}
	nodes, deepest := 0, 0
	for range 9000 {
		x, v := m.template(), m.state()
		if m.oneIn(60) {
			v = faultyValues()[m.Intn(len(faultyValues()))].v
		}
		if err := view.Check(x); err != api.OK {
			t.Fatalf("the template of the test may not be: %s: %v", tellTemplate(x), err)
		}
		made, err := mustBeAsSlow(t, x, v, 4096)
		told[err]++
		if err == api.OK {
			n, depth, _ := tree.Size(made)
			nodes, deepest = max(nodes, n), max(deepest, depth)
		}
		_, err = mustBeAsSlow(t, x, v, m.Intn(30))
		told[err]++
		_, err = mustBeAsSlow(t, x, v, m.Intn(4200)-50)
		told[err]++
	}
	for _, err := range []api.Errno{api.OK, api.ErrType, api.ErrNone, api.ErrBig, api.ErrLong, api.ErrTwice, api.ErrFuel, api.ErrState, api.ErrRange, api.ErrDeep, api.ErrCount, api.ErrWhole, api.ErrIndex} {
		if told[err] < 15 {
			t.Errorf("error %v was to be told only %d times", err, told[err])
		}
	}
	if told[api.OK] < 9000 || nodes < 100 || deepest < 6 {
		t.Errorf("only %d trees were to be told, of at most %d nodes, %d deep", told[api.OK], nodes, deepest)
	}
}

// TestCheckByChance: templates with a fault or two, held against the slow way.
func TestCheckByChance(t *testing.T) {
	m := makerOf(172)
	told := map[api.Errno]int{}
	for range 8000 {
		x := m.spoilt(m.template())
		want := slowCheck(x)
		told[want]++
		if err := view.Check(x); err != want {
			t.Fatalf("P17.1: Check(%s): %v, want %v", tellTemplate(x), err, want)
		}
		mustBeAsSlow(t, x, m.state(), m.Intn(4200)-50)
	}
	for _, err := range []api.Errno{api.OK, api.ErrState, api.ErrDeep, api.ErrCount} {
		if told[err] < 300 {
			t.Errorf("error %v was to be told only %d times", err, told[err])
		}
	}
}

// TestMoreFuelChangesNothing: what is told with some fuel is told with more.
func TestMoreFuelChangesNothing(t *testing.T) {
	m := makerOf(173)
	for range 400 {
		x, v := m.template(), m.state()
		full, err := view.Render(x, v, api.MaxFuel)
		if err == api.ErrFuel {
			continue
		}
		enough := false
		for fuel := range 60 {
			made, lerr := view.Render(x, v, fuel)
			if lerr == api.ErrFuel && enough || lerr != api.ErrFuel && (lerr != err || tellTree(made) != tellTree(full)) {
				t.Fatalf("P17.4: Render(%s, %s, %d): %s, %v, but with all fuel %s, %v", tellTemplate(x), tell(v), fuel, tellTree(made), lerr, tellTree(full), err)
			}
			enough = lerr != api.ErrFuel
		}
	}
}
