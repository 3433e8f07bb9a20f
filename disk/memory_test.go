package disk_test

import (
	"slices"
	"testing"
	"unsafe"

	"fanlight/api"
	"fanlight/disk"
)

// span is memory, from its first octet to behind its last.
type span struct {
	from, to uintptr
}

// spanOf is the memory of l, to its whole capacity.
func spanOf[T any](l []T) []span {
	if cap(l) == 0 {
		return nil
	}
	var one T
	from := uintptr(unsafe.Pointer(unsafe.SliceData(l)))
	return []span{{from, from + uintptr(cap(l))*unsafe.Sizeof(one)}}
}

// spansOf are the memory of s's lists, and of the lists within them.
func spansOf(s disk.State) []span {
	spans := append(spanOf(s.Sectors), spansOfWrites(s.Cache)...)
	for _, sector := range s.Sectors {
		spans = append(spans, spanOf(sector)...)
	}
	return spans
}

func spansOfWrites(l []api.Write) []span {
	spans := spanOf(l)
	for _, w := range l {
		spans = append(spans, spanOf(w.Data)...)
	}
	return spans
}

// overlap tells whether two of the spans lie in one memory.
func overlap(lists ...[]span) bool {
	spans := slices.Concat(lists...)
	slices.SortFunc(spans, func(a, b span) int { return int(a.from) - int(b.from) })
	for i := 1; i < len(spans); i++ {
		if spans[i].from < spans[i-1].to {
			return true
		}
	}
	return false
}

// room is what stands behind every list that is handed in, where a careless call could write.
const room = "room behind it"

func roomy(b []byte) []byte {
	return append(slices.Clone(b), room...)[:len(b)]
}

func roomyWrites(l []api.Write) []api.Write {
	var roomier []api.Write
	for _, w := range l {
		roomier = append(roomier, api.Write{Flush: w.Flush, Sector: w.Sector, Data: roomy(w.Data)})
	}
	return append(roomier, api.Write{Sector: 17, Data: []byte(room)})[:len(l)]
}

func roomyState(s disk.State) disk.State {
	var sectors [][]byte
	for _, sector := range s.Sectors {
		sectors = append(sectors, roomy(sector))
	}
	return disk.State{Sectors: append(sectors, []byte(room))[:len(s.Sectors)], Cache: roomyWrites(s.Cache)}
}

// behind tells s and what lies in the rooms behind its lists.
func behind(s disk.State) string {
	whole := disk.State{}
	for _, sector := range s.Sectors[:cap(s.Sectors)] {
		whole.Sectors = append(whole.Sectors, sector[:cap(sector)])
	}
	return tell(whole) + behindWrites(s.Cache)
}

func behindWrites(l []api.Write) string {
	var whole []api.Write
	for _, w := range l[:cap(l)] {
		whole = append(whole, api.Write{Flush: w.Flush, Sector: w.Sector, Data: w.Data[:cap(w.Data)]})
	}
	return tellWrites(whole)
}

// scribble turns every octet of s, and its lists, into something else.
func scribble(s disk.State) {
	for _, sector := range s.Sectors {
		invert(sector)
	}
	scribbleWrites(s.Cache)
	for i := range s.Sectors {
		s.Sectors[i] = nil
	}
}

func scribbleWrites(l []api.Write) {
	for i, w := range l {
		invert(w.Data)
		l[i] = api.Write{Flush: true, Sector: -7}
	}
}

func invert(b []byte) {
	for i := range b {
		b[i] ^= 0xff
	}
}

// mustBeAlone holds that two answers of one call share nothing with each other, nor with the arguments, that these have stayed, and that a change of them does not come through.
func mustBeAlone(t *testing.T, name string, given disk.State, l []api.Write, call func(disk.State, []api.Write) disk.State) {
	t.Helper()
	s, writes := roomyState(given), roomyWrites(l)
	was, wasWrites := behind(s), behindWrites(writes)
	a, b := call(s, writes), call(s, writes)
	if overlap(spansOf(a), spansOf(b), spansOf(s), spansOfWrites(writes)) {
		t.Fatalf("P5.6: %s of %s shares memory", name, short(given))
	}
	if behind(s) != was || behindWrites(writes) != wasWrites {
		t.Fatalf("P5.6: %s of %s has changed its arguments", name, short(given))
	}
	told := tell(a)
	scribble(s)
	scribbleWrites(writes)
	scribble(b)
	if tell(a) != told {
		t.Fatalf("P5.6: %s of %s: a change elsewhere has changed the answer", name, short(given))
	}
}

func TestStatesShareNothing(t *testing.T) {
	r := chanceOf(60)
	for _, s := range may() {
		n := len(s.Sectors)
		for _, l := range [][]api.Write{{barrier()}, {r.fits(n)}, {{Sector: -1, Data: octets("x")}}} {
			mustBeAlone(t, "Do", s, l, func(s disk.State, l []api.Write) disk.State {
				after, _ := disk.Do(s, l[0])
				return after
			})
		}
		for _, l := range [][]api.Write{nil, {r.fits(n), r.fits(n)}, {r.fits(n), barrier(), r.fits(n)}, {r.fits(n), barrier()}, {r.fits(n), {}, barrier()}, {{}}} {
			mustBeAlone(t, "Run", s, l, func(s disk.State, l []api.Write) disk.State {
				after, _, _ := disk.Run(s, l)
				return after
			})
		}
		for _, keep := range [][]int{nil, {1, 2, 3}, {most, most, most, most, most, most}} {
			mustBeAlone(t, "Crash", s, nil, func(s disk.State, _ []api.Write) disk.State {
				after, _ := disk.Crash(s, keep)
				return after
			})
		}
	}
}

func TestReadSharesNothing(t *testing.T) {
	for _, w := range may() {
		s := roomyState(w)
		was := behind(s)
		a, _ := disk.Read(s, 0, len(s.Sectors))
		b, _ := disk.Read(s, 0, len(s.Sectors))
		if overlap(spanOf(a), spanOf(b), spansOf(s)) {
			t.Fatalf("P5.6: Read of %s shares memory", short(w))
		}
		if behind(s) != was {
			t.Fatalf("P5.6: Read of %s has changed it", short(w))
		}
		told := string(a)
		scribble(s)
		invert(b)
		if string(a) != told {
			t.Fatalf("P5.6: Read of %s: a change elsewhere has changed the octets", short(w))
		}
	}
}

func TestPaddedSharesNothing(t *testing.T) {
	for n := range 200 {
		b := roomy(make([]byte, n))
		was := string(b[:cap(b)])
		p, q := disk.Padded(b), disk.Padded(b)
		if overlap(spanOf(p), spanOf(q), spanOf(b)) {
			t.Errorf("P5.6: Padded of %d octets shares memory", n)
		}
		if string(b[:cap(b)]) != was {
			t.Errorf("P5.6: Padded of %d octets has changed them", n)
		}
	}
}

func TestNewSharesNothing(t *testing.T) {
	a, _ := disk.New(100)
	b, _ := disk.New(100)
	if overlap(spansOf(a), spansOf(b)) {
		t.Error("P5.6: New shares memory")
	}
	a.Sectors[1][0] = 1
	_ = append(a.Sectors[1], 2)
	for i, sector := range append(a.Sectors[2:], b.Sectors...) {
		if sector[0] != 0 {
			t.Errorf("P5.6: a change of a sector of New has changed another, %d", i)
		}
	}
}

// TestArgumentsThatShare: sectors and writes that lie in one memory count as what they hold, and the answer parts them.
func TestArgumentsThatShare(t *testing.T) {
	one := octets("a")
	s := disk.State{Sectors: [][]byte{one, one, one}, Cache: []api.Write{{Sector: 1, Data: one}, write(0, "x"), {Sector: 2, Data: one}}}
	w := api.Write{Sector: 1, Data: one}
	for _, l := range [][]api.Write{{w, w}, {w, barrier(), w}, {w, barrier()}} {
		after, _, err := disk.Run(s, l)
		if err != api.OK || overlap(spansOf(after), spanOf(one)) {
			t.Errorf("P5.6: Run of what shares memory shares memory: %v", err)
		}
	}
	after, _ := disk.Do(s, barrier())
	if short(after) != "xaa" || letters(one) != "a" || overlap(spansOf(after), spanOf(one)) {
		t.Errorf("P5.6: a barrier where sectors share memory: %s, and what was handed in is %s", short(after), letters(one))
	}
	crashed, _ := disk.Crash(s, []int{1, 1})
	if short(crashed) != "xaa" || letters(one) != "a" || overlap(spansOf(crashed), spanOf(one)) {
		t.Errorf("P5.6: a crash where sectors share memory: %s, and what was handed in is %s", short(crashed), letters(one))
	}
	if b, _ := disk.Read(s, 0, 3); letters(b) != "xaa" || letters(one) != "a" {
		t.Errorf("P5.6: Read where sectors share memory: %s, and what was handed in is %s", letters(b), letters(one))
	}
}

// TestRefusalsChangeNothing: nor do states that may not be.
func TestRefusalsChangeNothing(t *testing.T) {
	for cause, w := range mayNot() {
		s := roomyState(w)
		was := behind(s)
		disk.Check(s)
		disk.Do(s, write(0, "x"))
		disk.Do(s, barrier())
		disk.Run(s, []api.Write{write(0, "x"), barrier()})
		disk.Read(s, 0, 1)
		disk.Crash(s, []int{1, 1, 1})
		if behind(s) != was {
			t.Errorf("P5.6: %s: a call that refused it has changed it", cause)
		}
	}
}

// TestKeepStays: nor is the list of a crash changed.
func TestKeepStays(t *testing.T) {
	keep := []int{5, -1, 2, 77}[:3]
	disk.Crash(holding("abc", write(0, "xyz"), write(1, "w"), write(2, "v"), write(0, "u")), keep)
	if !slices.Equal(keep[:4], []int{5, -1, 2, 77}) {
		t.Errorf("P5.6: Crash has changed keep: %v", keep[:4])
	}
}

// TestAnswersAreOnceForAll: P3: what is answered hangs on the arguments alone, not on calls ahead.
func TestAnswersAreOnceForAll(t *testing.T) {
	for _, s := range may() {
		first, _ := disk.Do(s, barrier())
		disk.Do(s, write(0, "z"))
		disk.Crash(s, []int{1})
		second, _ := disk.Do(s, barrier())
		if tell(first) != tell(second) {
			t.Errorf("P3: a barrier on %s is not the same twice", short(s))
		}
	}
}
