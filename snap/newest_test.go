package snap_test

import (
	"slices"
	"strings"
	"testing"

	"fanlight/api"
	"fanlight/snap"
)

func mustBeNewest(t *testing.T, promise, name, a, b string, want snap.Snap, wantPlace int, wantErr api.Errno) {
	t.Helper()
	got, place, err := snap.Newest([]byte(a), []byte(b))
	if err != wantErr || place != wantPlace || tell(got) != tell(want) {
		t.Fatalf("%s: Newest of %s: %s, place %d, %v, want %s, place %d, %v", promise, name, short(got), place, err, short(want), wantPlace, wantErr)
	}
}

// TestNewestOfTwo: whatever their Seqs and Data are, Epoch alone counts.
func TestNewestOfTwo(t *testing.T) {
	for _, c := range []struct{ older, newer int }{
		{4, 5}, {0, 1}, {0, last}, {last - 1, last}, {255, 256}, {1, 256}, {1<<32 - 1, 1 << 32}, {1 << 31, 1 << 32}, {5, 1 << 32}, {3, 1 << 39},
	} {
		for _, seqs := range [][2]int{{0, 0}, {2, 9}, {9, 2}, {0, last}, {last, 0}} {
			for _, n := range [][2]int{{0, 0}, {1, longest}, {longest, 0}, {50, 49}} {
				older, newer := snapOf(c.older, seqs[0], n[0]), snapOf(c.newer, seqs[1], n[1])
				mustBeNewest(t, "P7.1", "the newer behind", slotOf(older), slotOf(newer), newer, 1, api.OK)
				mustBeNewest(t, "P7.1", "the newer ahead", slotOf(newer), slotOf(older), newer, 0, api.OK)
			}
		}
	}
}

// TestNewestOfOneEpoch: the first counts, whatever else they hold.
func TestNewestOfOneEpoch(t *testing.T) {
	for _, epoch := range []int{0, 4, last} {
		for _, seqs := range [][2]int{{2, 2}, {2, 3}, {3, 2}, {0, last}} {
			for _, datas := range [][2]string{{"", ""}, {"a", "b"}, {"b", "a"}, {"a", ""}, {"", "a"}} {
				a := snap.Snap{Epoch: epoch, Seq: seqs[0], Data: []byte(datas[0])}
				b := snap.Snap{Epoch: epoch, Seq: seqs[1], Data: []byte(datas[1])}
				mustBeNewest(t, "P7.1", "one Epoch", slotOf(a), slotOf(b), a, 0, api.OK)
			}
		}
	}
	both := []byte(slot(4, 2, "x"))
	if s, place, err := snap.Newest(both, both); err != api.OK || place != 0 || tell(s) != tell(snap.Snap{Epoch: 4, Seq: 2, Data: []byte("x")}) {
		t.Errorf("P7.1: Newest of a slot and itself: %s, %d, %v", short(s), place, err)
	}
}

// TestNewestBesideOneThatIsNot: whatever is wrong with it, and however old the whole one is.
func TestNewestBesideOneThatIsNot(t *testing.T) {
	for _, f := range slices.Concat(faults(), greatFaults(), twoFaults()) {
		for _, s := range []snap.Snap{{}, snapOf(0, 9, 4), snapOf(5, 3, 100), snapOf(last, last, longest)} {
			mustBeNewest(t, "P7.1", "a whole one, and "+f.name, slotOf(s), f.slot, s, 0, api.OK)
			mustBeNewest(t, "P7.1", f.name+", and a whole one", f.slot, slotOf(s), s, 1, api.OK)
		}
	}
}

// TestNewestOfNone: whichever errors the slots have.
func TestNewestOfNone(t *testing.T) {
	all := slices.Concat(faults(), greatFaults()[:3], twoFaults()[:5])
	for _, f := range all {
		for _, g := range all {
			mustBeNewest(t, "P7.1", f.name+", and "+g.name, f.slot, g.slot, snap.Snap{}, 0, api.ErrNone)
		}
	}
}

func TestNewestOfNil(t *testing.T) {
	whole := []byte(slot(4, 2, "x"))
	want := snap.Snap{Epoch: 4, Seq: 2, Data: []byte("x")}
	for _, nothing := range [][]byte{nil, {}} {
		if s, place, err := snap.Newest(nothing, nil); err != api.ErrNone || place != 0 || !isZero(s) {
			t.Errorf("P1, P7.1: Newest(nil, nil): %s, %d, %v", short(s), place, err)
		}
		if s, place, err := snap.Newest(nothing, whole); err != api.OK || place != 1 || tell(s) != tell(want) {
			t.Errorf("P1, P7.1: Newest(nil, a slot): %s, %d, %v", short(s), place, err)
		}
		if s, place, err := snap.Newest(whole, nothing); err != api.OK || place != 0 || tell(s) != tell(want) {
			t.Errorf("P1, P7.1: Newest(a slot, nil): %s, %d, %v", short(s), place, err)
		}
	}
}

// torn is a slot whose first sectors are new, the others old.
func torn(newer, older string, n int) string {
	return newer[:n*sector] + older[n*sector:]
}

// mustBeOldOrNew asks, for each number of sectors that came through: the new snapshot just if all of its slot is there, else the old one of the other slot.
func mustBeOldOrNew(t *testing.T, name string, kept snap.Snap, under string, newer snap.Snap) {
	t.Helper()
	whole, other := slotOf(newer), slotOf(kept)
	for n := range sectors + 1 {
		mixed := torn(whole, under, n)
		want, place := kept, 0
		if mixed == whole {
			want, place = newer, 1
		}
		mustBeNewest(t, "P7.3", name, other, mixed, want, place, api.OK)
		mustBeNewest(t, "P7.3", name+", turned round", mixed, other, want, 1-place, api.OK)
	}
}

// TestOldOrNew: the slots by turns: the one of Epoch 5 is kept, the one of Epoch 4 is written over by that of Epoch 6.
func TestOldOrNew(t *testing.T) {
	kept := snapOf(5, 50, 700)
	for _, older := range []int{0, 1, 24, 25, 300, 3000, longest} {
		for _, newer := range []int{0, 1, 24, 25, 300, 3000, longest} {
			mustBeOldOrNew(t, "a slot written in part", kept, slotOf(snapOf(4, 40, older)), snapOf(6, 60, newer))
		}
	}
}

// TestOldOrNewOverWhatever: a slot of zeros, of ones, or one that was torn ahead is written over, too.
func TestOldOrNewOverWhatever(t *testing.T) {
	kept, newer := snapOf(5, 50, 8), snapOf(6, 60, 500)
	for _, under := range []string{
		padded(""), strings.Repeat("\xff", size), torn(slotOf(snapOf(6, 55, 900)), slotOf(snapOf(4, 40, 700)), 3), torn(slotOf(snapOf(6, 55, 30)), slotOf(snapOf(4, 40, 700)), 1),
		with(slotOf(newer), 0, strings.Repeat("\x00", 100)), bent(slotOf(newer), 300), slotOf(snapOf(4, 60, 501)), slotOf(snapOf(4, 60, 499)),
	} {
		mustBeOldOrNew(t, "whatever stood there, written over in part", kept, under, newer)
	}
}

// TestOldOrNewNearlyAlike: the new one differs from the old one by its Epoch and little else.
func TestOldOrNewNearlyAlike(t *testing.T) {
	alike := data(4, 2000)
	kept := snap.Snap{Epoch: 5, Seq: 50, Data: []byte(alike)}
	for _, d := range []string{alike, alike[:1999], alike + "\x00", bent(alike, 0), bent(alike, 1000), bent(alike, 1999), strings.Repeat("\x00", 2000)} {
		mustBeOldOrNew(t, "a slot nearly alike", kept, slot(4, 40, alike), snap.Snap{Epoch: 6, Seq: 60, Data: []byte(d)})
		mustBeOldOrNew(t, "a slot nearly alike, of one Seq", kept, slot(4, 40, alike), snap.Snap{Epoch: 6, Seq: 40, Data: []byte(d)})
	}
}

func TestOldOrNewByChance(t *testing.T) {
	r := chanceOf(73)
	for range 40 {
		epoch := 1 + r.Intn(last-1)
		of := func(epoch int) snap.Snap {
			return snap.Snap{Epoch: epoch, Seq: r.number(), Data: []byte(r.octets(r.length()))}
		}
		mustBeOldOrNew(t, "slots by chance", of(epoch), slotOf(of(epoch-1)), of(epoch+1))
	}
}

// TestNewestByChance: any two slots, whole or torn, against the chapter's words.
func TestNewestByChance(t *testing.T) {
	r := chanceOf(74)
	some := func() string {
		a, b := slotOf(r.snap()), slotOf(r.snap())
		switch r.Intn(3) {
		case 0:
			return torn(a, b, r.Intn(sectors+1))
		case 1:
			return bent(a, r.at())
		}
		return a
	}
	for range 1000 {
		a, b := some(), some()
		want, place, err := newest(a, b)
		mustBeNewest(t, "P7.1", "slots by chance", a, b, want, place, err)
	}
}
