package pack_test

import (
	"slices"
	"testing"
	"unsafe"

	"fanlight/api"
	"fanlight/pack"
)

// span is memory, from its first octet to behind its last.
type span struct {
	from, to uintptr
}

func spanOf[T any](l []T) []span {
	if cap(l) == 0 {
		return nil
	}
	var one T
	from := uintptr(unsafe.Pointer(unsafe.SliceData(l)))
	return []span{{from, from + uintptr(cap(l))*unsafe.Sizeof(one)}}
}

func spanOfText(s string) []span {
	if s == "" {
		return nil
	}
	from := uintptr(unsafe.Pointer(unsafe.StringData(s)))
	return []span{{from, from + uintptr(len(s))}}
}

// listSpans are the memory of all lists of v, of each to its whole capacity.
func listSpans(v api.Value) []span {
	all := append(spanOf(v.Keys), spanOf(v.Items)...)
	for _, item := range v.Items {
		all = append(all, listSpans(item)...)
	}
	return all
}

// textSpans are the memory of all texts and keys of v.
func textSpans(v api.Value) []span {
	all := spanOfText(v.Text)
	for _, key := range v.Keys {
		all = append(all, spanOfText(key)...)
	}
	for _, item := range v.Items {
		all = append(all, textSpans(item)...)
	}
	return all
}

// overlap tells whether two of the spans lie in one memory.
func overlap(lists ...[]span) bool {
	all := slices.Concat(lists...)
	slices.SortFunc(all, func(a, b span) int { return int(a.from) - int(b.from) })
	for i := 1; i < len(all); i++ {
		if all[i].from < all[i-1].to {
			return true
		}
	}
	return false
}

// within tells whether one of the spans lies in the memory of b.
func within(b []byte, spans []span) bool {
	for _, s := range spans {
		if overlap(spanOf(b), []span{s}) {
			return true
		}
	}
	return false
}

// roomy is v with room behind the last of each list, into which a careless call could write.
func roomy(v api.Value) api.Value {
	v.Keys = append(make([]string, 0, len(v.Keys)+2), v.Keys...)
	items := make([]api.Value, 0, len(v.Items)+2)
	for _, item := range v.Items {
		items = append(items, roomy(item))
	}
	v.Items = items
	return v
}

// behind tells v and what lies behind the last of its lists.
func behind(v api.Value) string {
	v.Keys = v.Keys[:cap(v.Keys)]
	v.Items = v.Items[:cap(v.Items)]
	s := ""
	for _, item := range v.Items {
		s += behind(item)
	}
	return tell(v) + s
}

func TestEncodeSharesNothing(t *testing.T) {
	for _, w := range append(may(), some(100)...) {
		v := roomy(w)
		was := behind(v)
		b, _ := pack.Encode(v)
		c, _ := pack.Encode(v)
		if overlap(spanOf(b), spanOf(c)) || within(b, slices.Concat(listSpans(v), textSpans(v))) {
			t.Fatalf("P3.3: Encode(%s) shares memory", tell(w))
		}
		if behind(v) != was {
			t.Fatalf("P3.3: Encode(%s) has changed it to %s", was, behind(v))
		}
	}
}

func TestTakingSharesNothing(t *testing.T) {
	for _, w := range append(may(), some(100)...) {
		b := append([]byte(octetsOf(w)), "\x00behind"...)
		was := string(b)
		full := len(was) - len("\x00behind")
		x, _, _ := pack.Take(b)
		y, _, _ := pack.Take(b)
		z, _ := pack.Decode(b[:full])
		if overlap(listSpans(x), listSpans(y), listSpans(z)) {
			t.Fatalf("P3.3: answers for %x share memory", was)
		}
		for _, v := range []api.Value{x, y, z} {
			if within(b, slices.Concat(listSpans(v), textSpans(v))) {
				t.Fatalf("P3.3: an answer for %x lies in it", was)
			}
		}
		if string(b) != was {
			t.Fatalf("P3.3: taking has changed %x to %x", was, b)
		}
		told := tell(x)
		for i := range b {
			b[i] ^= 0xff
		}
		if tell(x) != told || tell(z) != told {
			t.Fatalf("P3.3: a change of the octets has changed the value %s", told)
		}
	}
}

// TestRefusingChangesNothing: neither octets nor values that are refused are changed.
func TestRefusingChangesNothing(t *testing.T) {
	for s := range refused() {
		b := []byte(s)
		pack.Take(b)
		pack.Decode(b)
		if string(b) != s {
			t.Errorf("P3.3: refusing has changed %x to %x", s, b)
		}
	}
	for _, w := range []api.Value{wide(33), record("b a", nothing(), nothing()), deep(9, text("x")), ofParts(513), list(record("a", truth(2)))} {
		v := roomy(w)
		was := behind(v)
		pack.Encode(v)
		if behind(v) != was {
			t.Errorf("P3.3: refusing has changed %s", was)
		}
	}
}

// TestSharedListsBecomeTheirOwn: a list that lies twice in one value is two lists in what is read back.
func TestSharedListsBecomeTheirOwn(t *testing.T) {
	inner := list(text("a"), text("b"))
	b, _ := pack.Encode(list(inner, inner))
	v, err := pack.Decode(b)
	if err != api.OK || overlap(listSpans(v)) {
		t.Errorf("P3.3: two lists of one answer share memory (%v)", err)
	}
}
