package snap_test

import (
	"encoding/binary"
	"fmt"
	"hash/crc32"
	"math"
	"math/rand"
	"strconv"
	"strings"

	"fanlight/api"
	"fanlight/snap"
)

const (
	size    = 8160 // octets of a slot
	sector  = 48
	sectors = 170 // of a slot
	longest = 8000
	around  = 24      // octets of a slot's frame beside Data: head, Epoch, Seq and sum
	last    = 1 << 40 // the greatest Epoch and Seq
)

// frame is a frame by layer 4's words, whose sum is the one of that polynomial.
func frame(kind byte, data string) string {
	n := len(data)
	b := append([]byte{kind, byte(n >> 16), byte(n >> 8), byte(n)}, data...)
	return sealed(string(b))
}

// sealed is s and its sum.
func sealed(s string) string {
	return string(binary.LittleEndian.AppendUint32([]byte(s), crc32.Checksum([]byte(s), crc32.MakeTable(crc32.Koopman))))
}

func number(n uint64) string {
	return string(binary.BigEndian.AppendUint64(nil, n))
}

// within is what stands in a snapshot's frame, whether it may be or not.
func within(epoch, seq uint64, data string) string {
	return number(epoch) + number(seq) + data
}

// padded is s with zeros behind it, up to a slot.
func padded(s string) string {
	return s + strings.Repeat("\x00", size-len(s))
}

// slot is a slot by the chapter's words, whether its snapshot may be or not.
func slot(epoch, seq uint64, data string) string {
	return padded(frame(3, within(epoch, seq, data)))
}

func slotOf(s snap.Snap) string {
	return slot(uint64(s.Epoch), uint64(s.Seq), string(s.Data))
}

// with is s with other octets from a place on.
func with(s string, at int, octets string) string {
	return s[:at] + octets + s[at+len(octets):]
}

// bent is s with one bit turned.
func bent(s string, at int) string {
	return with(s, at, string([]byte{s[at] ^ 1}))
}

// data is so many octets that no other snapshot has.
func data(epoch, n int) string {
	b := make([]byte, n)
	for i := range b {
		b[i] = byte(epoch*31 + i*7 + i/256 + 1)
	}
	return string(b)
}

func snapOf(epoch, seq, n int) snap.Snap {
	return snap.Snap{Epoch: epoch, Seq: seq, Data: []byte(data(epoch, n))}
}

// decoded is what Decode is to tell, by the words of the chapters 4 and 7 alone, one behind the other.
func decoded(b string) (snap.Snap, api.Errno) {
	if len(b) != size {
		return snap.Snap{}, api.ErrCount
	}
	n := int(b[1])<<16 + int(b[2])<<8 + int(b[3])
	switch {
	case b[0] == 0:
		return snap.Snap{}, api.ErrKind
	case n > 65536:
		return snap.Snap{}, api.ErrLong
	case n+8 > size:
		return snap.Snap{}, api.ErrShort
	case sealed(b[:n+4]) != b[:n+8]:
		return snap.Snap{}, api.ErrCorrupt
	case b[0] != 3:
		return snap.Snap{}, api.ErrKind
	case n < 16:
		return snap.Snap{}, api.ErrShort
	}
	epoch, seq := binary.BigEndian.Uint64([]byte(b[4:12])), binary.BigEndian.Uint64([]byte(b[12:20]))
	switch {
	case epoch > last || seq > last:
		return snap.Snap{}, api.ErrRange
	case n-16 > longest:
		return snap.Snap{}, api.ErrLong
	case strings.Trim(b[n+8:], "\x00") != "":
		return snap.Snap{}, api.ErrTail
	}
	return snap.Snap{Epoch: int(epoch), Seq: int(seq), Data: []byte(b[20 : n+4])}, api.OK
}

// newest is what Newest is to tell, by the chapter's words alone.
func newest(a, b string) (snap.Snap, int, api.Errno) {
	x, errX := decoded(a)
	y, errY := decoded(b)
	switch {
	case errX != api.OK && errY != api.OK:
		return snap.Snap{}, 0, api.ErrNone
	case errY != api.OK:
		return x, 0, api.OK
	case errX != api.OK:
		return y, 1, api.OK
	case y.Epoch > x.Epoch:
		return y, 1, api.OK
	}
	return x, 0, api.OK
}

// tell writes s out, so that two snapshots are one just if what is told is one; nil and empty Data are told alike.
func tell(s snap.Snap) string {
	return fmt.Sprintf("(%d %d %q)", s.Epoch, s.Seq, s.Data)
}

// short tells s by its length, for a person.
func short(s snap.Snap) string {
	return fmt.Sprintf("(epoch %d, seq %d, %d octets: %.20q)", s.Epoch, s.Seq, len(s.Data), s.Data)
}

// brief tells the first octets of a slot, for a person.
func brief(b string) string {
	return fmt.Sprintf("%d octets: %.32x", len(b), b)
}

func isZero(s snap.Snap) bool {
	return s.Epoch == 0 && s.Seq == 0 && len(s.Data) == 0
}

// chance makes snapshots from a fixed rule.
type chance struct {
	*rand.Rand
}

func chanceOf(seed int64) chance {
	return chance{rand.New(rand.NewSource(seed))}
}

// length is how many octets Data has: often few, and often the edges.
func (r chance) length() int {
	switch r.Intn(6) {
	case 0:
		return 0
	case 1:
		return longest
	case 2:
		return r.Intn(longest + 1)
	case 3:
		return sector*r.Intn(longest/sector) + r.Intn(3)
	}
	return r.Intn(100)
}

func (r chance) number() int {
	switch r.Intn(4) {
	case 0:
		return r.Intn(3)
	case 1:
		return last - r.Intn(3)
	case 2:
		return 1<<r.Intn(40) + r.Intn(2)
	}
	return r.Intn(last + 1)
}

// octets are some by chance, or of one kind alone.
func (r chance) octets(n int) string {
	switch r.Intn(4) {
	case 0:
		return strings.Repeat("\x00", n)
	case 1:
		return strings.Repeat("\xff", n)
	}
	b := make([]byte, n)
	r.Read(b)
	return string(b)
}

func (r chance) snap() snap.Snap {
	return snap.Snap{Epoch: r.number(), Seq: r.number(), Data: []byte(r.octets(r.length()))}
}

// numbers are those from 0 to 2^40: the edges, and such as could be mistaken for others.
func numbers() []int {
	return []int{0, 1, 2, 127, 128, 255, 256, 65535, 65536, 1<<24 + 5, 1<<31 - 1, 1 << 31, 1<<32 - 1, 1 << 32, 1<<32 + 1, 0x0102030405, 1 << 39, last - 1, last}
}

// outside are numbers that no Epoch and no Seq may be.
func outside() []int {
	return []int{-1, -2, -256, -last, -last - 1, -1 << 62, math.MinInt + 1, math.MinInt, last + 1, last + 2, 2 * last, 1 << 48, 1<<56 + 1, 1 << 62, math.MaxInt - 1, math.MaxInt}
}

// lengths are those that Data may have, the edges of sectors among them.
func lengths() []int {
	return []int{0, 1, 15, 16, 17, sector - around - 1, sector - around, sector - around + 1, 100, 2*sector - around, 255, 256, 4096, longest - 1, longest}
}

// may are snapshots that may be: the edges, and some by chance.
func may() []snap.Snap {
	l := []snap.Snap{{}, {Data: []byte{}}, {Epoch: 5}, {Seq: 5}, {Data: []byte("\x00")}, {Epoch: last, Seq: last, Data: []byte(strings.Repeat("\x00", longest))}}
	for i, n := range numbers() {
		l = append(l, snapOf(n, numbers()[len(numbers())-1-i], 9), snapOf(n, 0, i), snapOf(0, n, i))
	}
	for _, n := range lengths() {
		l = append(l, snapOf(4, 2, n))
	}
	// Data that could be taken for something else.
	for _, d := range []string{slot(1, 2, "x")[:27], frame(3, ""), strings.Repeat("\x00", 100), strings.Repeat("\xff", 100), "x\x00\x00\x00"} {
		l = append(l, snap.Snap{Epoch: 7, Seq: 8, Data: []byte(d)})
	}
	r := chanceOf(7)
	for range 60 {
		l = append(l, r.snap())
	}
	return l
}

// fault is a slot that Decode refuses.
type fault struct {
	name string
	slot string
	want api.Errno
}

// faults are slots that are refused, each for one cause.
func faults() []fault {
	x := slot(4, 2, "x")
	end := around + 1
	return []fault{
		{"nothing", "", api.ErrCount},
		{"one octet", x[:1], api.ErrCount},
		{"the frame alone", x[:end], api.ErrCount},
		{"8159 octets", x[:size-1], api.ErrCount},
		{"8161 octets", x + "\x00", api.ErrCount},
		{"two slots", x + x, api.ErrCount},
		{"one sector too many", x + strings.Repeat("\x00", sector), api.ErrCount},
		{"one sector too few", x[:size-sector], api.ErrCount},

		{"zeros alone", padded(""), api.ErrKind},
		{"a zero ahead", padded("\x00" + x[:end]), api.ErrKind},
		{"a text", padded("no frame"), api.ErrLong},
		{"ones alone", strings.Repeat("\xff", size), api.ErrLong},
		{"a length of 65537", padded("\x03\x01\x00\x01"), api.ErrLong},
		{"a length of 65536", padded("\x03\x01\x00\x00"), api.ErrShort},
		{"a length of 8153", padded("\x03\x00\x1f\xd9"), api.ErrShort},
		{"a length of 8152, no sum", padded("\x03\x00\x1f\xd8"), api.ErrCorrupt},
		{"another sum", bent(x, end-1), api.ErrCorrupt},
		{"another octet of Epoch", bent(x, 4), api.ErrCorrupt},
		{"another octet of Seq", bent(x, 19), api.ErrCorrupt},
		{"another octet of Data", bent(x, 20), api.ErrCorrupt},
		{"a length that is less", bent(x, 3), api.ErrCorrupt},
		{"another Kind, the sum of this one", bent(x, 0), api.ErrCorrupt},

		{"Kind 1", padded(frame(1, within(4, 2, "x"))), api.ErrKind},
		{"Kind 2", padded(frame(2, within(4, 2, "x"))), api.ErrKind},
		{"Kind 4", padded(frame(4, within(4, 2, "x"))), api.ErrKind},
		{"Kind 255", padded(frame(255, within(4, 2, "x"))), api.ErrKind},
		{"Kind 0, its own sum", padded(frame(0, within(4, 2, "x"))), api.ErrKind},

		{"no octet within", padded(frame(3, "")), api.ErrShort},
		{"8 octets within", padded(frame(3, number(4))), api.ErrShort},
		{"15 octets within", padded(frame(3, within(4, 2, "")[:15])), api.ErrShort},

		{"8017 octets within", slot(4, 2, data(4, longest+1)), api.ErrLong},
		{"8152 octets within", slot(4, 2, data(4, size-around)), api.ErrLong},

		{"the first octet behind", with(x, end, "\x01"), api.ErrTail},
		{"the second octet behind", with(x, end+1, "\x01"), api.ErrTail},
		{"an octet in the middle", with(x, size/2, "\x80"), api.ErrTail},
		{"the last octet", with(x, size-1, "\x01"), api.ErrTail},
		{"all octets behind", x[:end] + strings.Repeat("\xff", size-end), api.ErrTail},
		{"a second frame", padded(x[:end] + x[:end]), api.ErrTail},
		{"behind no Data: the first octet", with(slot(4, 2, ""), around, "\x01"), api.ErrTail},
		{"behind no Data: the last octet", with(slot(4, 2, ""), size-1, "\x01"), api.ErrTail},
		{"behind the most Data: the first octet", with(slot(4, 2, data(4, longest)), around+longest, "\x01"), api.ErrTail},
		{"behind the most Data: the last octet", with(slot(4, 2, data(4, longest)), size-1, "\x01"), api.ErrTail},
	}
}

// greatFaults are slots whose Epoch or Seq is out of its range.
func greatFaults() []fault {
	var l []fault
	great := []uint64{last + 1, last + 2, 2 * last, last + 1<<32, 1<<48 + 5, 1 << 62, math.MaxInt64, 1 << 63, 1<<63 + 4, 1<<63 + last, 1<<63 + last + 1, math.MaxUint64 - last, math.MaxUint64 - 1, math.MaxUint64}
	for _, n := range great {
		name := strconv.FormatUint(n, 16)
		l = append(l, fault{"the Epoch " + name, slot(n, 2, "x"), api.ErrRange}, fault{"the Seq " + name, slot(4, n, "x"), api.ErrRange}, fault{"both " + name, slot(n, n, ""), api.ErrRange})
	}
	return l
}

// twoFaults are slots that are refused for two causes or more, of which the first is told.
func twoFaults() []fault {
	long, tail := data(4, longest+1), "\x01"
	return []fault{
		{"8161 octets, zeros alone", strings.Repeat("\x00", size+1), api.ErrCount},
		{"8159 octets, another sum", bent(slot(4, 2, "x"), 20)[:size-1], api.ErrCount},
		{"8161 octets, Kind 4", padded(frame(4, within(4, 2, ""))) + "\x00", api.ErrCount},
		{"8161 octets, an octet behind", slot(4, 2, "") + "\x01", api.ErrCount},
		{"8161 octets, the Epoch too great", slot(last+1, 2, "") + "\x00", api.ErrCount},
		{"Kind 0, a length of 65537", padded("\x00\x01\x00\x01"), api.ErrKind},
		{"Kind 4, a length of 65537", padded("\x04\x01\x00\x01"), api.ErrLong},
		{"Kind 4, a length of 8153", padded("\x04\x00\x1f\xd9"), api.ErrShort},
		{"Kind 4, another sum", bent(padded(frame(4, within(4, 2, ""))), 20), api.ErrCorrupt},
		{"15 octets within, another sum", bent(padded(frame(3, within(4, 2, "")[:15])), 5), api.ErrCorrupt},
		{"the Epoch too great, another sum", bent(slot(last+1, 2, ""), 15), api.ErrCorrupt},
		{"8017 octets within, another sum", bent(slot(4, 2, long), 800), api.ErrCorrupt},
		{"an octet behind, another sum", with(bent(slot(4, 2, ""), 15), size-1, tail), api.ErrCorrupt},
		{"Kind 4, 15 octets within", padded(frame(4, within(4, 2, "")[:15])), api.ErrKind},
		{"Kind 2, nothing within", padded(frame(2, "")), api.ErrKind},
		{"Kind 4, the Epoch too great", padded(frame(4, within(last+1, 2, ""))), api.ErrKind},
		{"Kind 4, 8017 octets within", padded(frame(4, within(4, 2, long))), api.ErrKind},
		{"Kind 4, an octet behind", with(padded(frame(4, within(4, 2, ""))), size-1, tail), api.ErrKind},
		{"15 octets within, the Epoch too great", padded(frame(3, within(last+1, 2, "")[:15])), api.ErrShort},
		{"15 octets within, an octet behind", with(padded(frame(3, within(4, 2, "")[:15])), size-1, tail), api.ErrShort},
		{"8017 octets within, the Epoch too great", slot(last+1, 2, long), api.ErrRange},
		{"8017 octets within, the Seq too great", slot(4, last+1, long), api.ErrRange},
		{"the Epoch too great, an octet behind", with(slot(1<<63, 2, ""), size-1, tail), api.ErrRange},
		{"the Seq too great, an octet behind", with(slot(4, last+1, ""), size-1, tail), api.ErrRange},
		{"8017 octets within, an octet behind", with(slot(4, 2, long), size-1, tail), api.ErrLong},
	}
}
