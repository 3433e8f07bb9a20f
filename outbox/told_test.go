package outbox_test

import (
	"slices"
	"strconv"
	"testing"

	"fanlight/api"
	"fanlight/outbox"
)

// TestNumbersHangOnTheEventAlone: whatever else waits, and whatever came ahead.
func TestNumbersHangOnTheEventAlone(t *testing.T) {
	for _, seq := range []int{1, 2, 3, 255, 1 << 31, 1 << 35, lastSeq - 1, lastSeq} {
		for _, b := range may() {
			if b.Last >= seq || len(b.Items)+each > most {
				continue
			}
			after, err := outbox.Add(b, seq, effects(each))
			if err != api.OK || !slices.Equal(ids(after.Items[len(b.Items):]), run(32*seq, each)) {
				t.Fatalf("P8.4: Add of event %d to %s: %s, %v", seq, short(b), short(after), err)
			}
		}
	}
}

// history is a box, and what is to be of it, kept by hand: what waits, in order, and which numbers were acknowledged.
type history struct {
	t       *testing.T
	r       chance
	box     outbox.Box
	waiting []api.Item
	acked   []int
}

// add adds an event, often the next one, and sometimes one that finds no room.
func (h *history) add() {
	seq := h.box.Last + 1 + h.r.Intn(2)*h.r.Intn(5)
	l := h.r.effects(h.r.Intn(6) * h.r.Intn(7))
	for i := range l {
		l[i].Name = strconv.Itoa(seq) + "." + strconv.Itoa(i)
	}
	after, err := outbox.Add(h.box, seq, l)
	if len(h.waiting)+len(l) > most {
		if err != api.ErrFull || !isZero(after) {
			h.t.Fatalf("P8.1: Add of %d where %d wait: %s, %v", len(l), len(h.waiting), short(after), err)
		}
		return
	}
	if err != api.OK || after.Last != seq {
		h.t.Fatalf("P8.1: Add of event %d: %s, %v", seq, short(after), err)
	}
	h.box, h.waiting = after, added(outbox.Box{Items: h.waiting}, seq, l).Items
}

// ack acknowledges one that waits.
func (h *history) ack() {
	if len(h.waiting) == 0 {
		return
	}
	at := h.r.Intn(len(h.waiting))
	id := h.waiting[at].ID
	after, was, err := outbox.Ack(h.box, id)
	if err != api.OK || !was {
		h.t.Fatalf("P8.4: Ack of %d, which waits: %v, %v", id, was, err)
	}
	h.box = after
	h.waiting = slices.Delete(slices.Clone(h.waiting), at, at+1)
	h.acked = append(h.acked, id)
}

// again acknowledges one that was acknowledged before.
func (h *history) again() {
	if len(h.acked) == 0 {
		return
	}
	id := h.acked[h.r.Intn(len(h.acked))]
	after, was, err := outbox.Ack(h.box, id)
	if err != api.OK || was {
		h.t.Fatalf("P8.4: Ack of %d again: %v, %v", id, was, err)
	}
	h.box = after
}

// reload takes the box from its octets.
func (h *history) reload() {
	x, err := outbox.Encode(h.box)
	if err != api.OK {
		h.t.Fatalf("P8.3: Encode of %s: %v", short(h.box), err)
	}
	if h.box, err = outbox.Decode(x); err != api.OK {
		h.t.Fatalf("P8.3: Decode of Encode: %v", err)
	}
}

// mustHold asks that just what was not acknowledged is told, each under its number.
func (h *history) mustHold() {
	h.t.Helper()
	if err := outbox.Check(h.box); err != api.OK {
		h.t.Fatalf("P8.1: the box that follows: %v", err)
	}
	for _, n := range []int{most, h.r.Intn(most)} {
		told, err := outbox.Next(h.box, n)
		want := h.waiting[:min(n, len(h.waiting))]
		if err != api.OK || tellItems(told) != tellItems(want) {
			h.t.Fatalf("P8.4: Next of %d tells %v, %v, but %v wait", n, ids(told), err, ids(want))
		}
		for _, it := range told {
			if slices.Contains(h.acked, it.ID) {
				h.t.Fatalf("P8.4: %d was acknowledged, and is told again", it.ID)
			}
		}
	}
}

func TestWhatIsAcknowledgedIsNeverToldAgain(t *testing.T) {
	for seed := range 4 {
		r := chanceOf(int64(85 + seed))
		r.args = []api.Value{{}, text("x"), list(text("y"), record("a", api.Value{}))}
		h := &history{t: t, r: r, box: outbox.New()}
		for range 300 {
			switch r.Intn(8) {
			case 0, 1, 2:
				h.add()
			case 3, 4, 5:
				h.ack()
			case 6:
				h.again()
			case 7:
				h.reload()
			}
			h.mustHold()
		}
	}
}

// TestAFullBoxIsEmptied: 256 wait, in an order all are acknowledged, and as many find room again.
func TestAFullBoxIsEmptied(t *testing.T) {
	h := &history{t: t, r: chanceOf(89), box: outbox.New()}
	for seq := 1; seq <= most/each; seq++ {
		after, err := outbox.Add(h.box, seq, effects(each))
		if err != api.OK {
			t.Fatalf("P8.1: Add of event %d: %v", seq, err)
		}
		h.box, h.waiting = after, added(outbox.Box{Items: h.waiting}, seq, effects(each)).Items
	}
	if _, err := outbox.Add(h.box, 9, effects(1)); err != api.ErrFull {
		t.Errorf("P8.1: Add to a full box: %v", err)
	}
	for len(h.waiting) > 0 {
		h.ack()
		h.mustHold()
	}
	if h.box.Last != most/each || len(h.acked) != most {
		t.Errorf("P8.1: behind all acknowledgements: %s, %d of them", short(h.box), len(h.acked))
	}
	mustAdd(t, "an emptied box", h.box, 9, effects(each), added(outbox.Box{}, 9, effects(each)), api.OK)
}
