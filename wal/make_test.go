package wal_test

import (
	"encoding/binary"
	"fmt"
	"hash/crc32"
	"math"
	"math/rand"
	"slices"
	"strconv"
	"strings"

	"fanlight/api"
	"fanlight/wal"
)

const (
	most     = 64      // segments
	size     = 480     // octets of a segment
	longest  = 400     // octets of a record
	around   = 16      // octets of a record's frame beside its own: head, number and sum
	lastNext = 1 << 40 // the greatest Next
)

// frame is a frame by layer 4's words, whose sum is the one of that polynomial.
func frame(kind byte, data string) string {
	n := len(data)
	b := append([]byte{kind, byte(n >> 16), byte(n >> 8), byte(n)}, data...)
	return string(binary.LittleEndian.AppendUint32(b, crc32.Checksum(b, crc32.MakeTable(crc32.Koopman))))
}

func number(n uint64) string {
	return string(binary.BigEndian.AppendUint64(nil, n))
}

// record is the frame of a record, whether it may be or not.
func record(n uint64, data string) string {
	return frame(2, number(n)+data)
}

// data is so many octets that no other record has.
func data(seq, n int) string {
	b := make([]byte, n)
	for i := range b {
		b[i] = byte(seq*31 + i*7 + 1)
	}
	return string(b)
}

// plan is a log: the number of its first record, and the records of each segment.
type plan struct {
	first int
	segs  [][]string
}

// planOf is a plan whose records have so many octets.
func planOf(first int, lengths ...[]int) plan {
	p := plan{first: first}
	for _, l := range lengths {
		var seg []string
		for _, n := range l {
			seg = append(seg, data(p.next()+len(seg), n))
		}
		p.segs = append(p.segs, seg)
	}
	return p
}

func (p plan) next() int {
	return p.first + len(slices.Concat(p.segs...))
}

func (p plan) log() wal.Log {
	l := wal.Log{Next: p.next()}
	seq := p.first
	for _, seg := range p.segs {
		octets := ""
		for _, d := range seg {
			octets += record(uint64(seq), d)
			seq++
		}
		l.Segs = append(l.Segs, []byte(octets))
	}
	return l
}

func (p plan) records() []wal.Record {
	return recordsOf(p.first, slices.Concat(p.segs...)...)
}

// recordsOf are records with those octets, from that number on.
func recordsOf(first int, octets ...string) []wal.Record {
	var l []wal.Record
	for i, d := range octets {
		l = append(l, wal.Record{Seq: first + i, Data: []byte(d)})
	}
	return l
}

// with is p with one record more, and the place of its segment, by the chapter's words alone.
func (p plan) with(d string) (plan, int) {
	last := len(p.segs) - 1
	after := plan{first: p.first, segs: slices.Clone(p.segs)}
	if last >= 0 && octetsOf(p.segs[last])+around+len(d) <= size {
		after.segs[last] = append(slices.Clone(p.segs[last]), d)
		return after, last
	}
	after.segs = append(after.segs, []string{d})
	return after, last + 1
}

// without is p without its first segments of records up to seq.
func (p plan) without(seq int) plan {
	for len(p.segs) > 0 && p.first+len(p.segs[0])-1 <= seq {
		p = plan{first: p.first + len(p.segs[0]), segs: p.segs[1:]}
	}
	return p
}

func octetsOf(seg []string) int {
	return len(strings.Join(seg, "")) + around*len(seg)
}

// scanned is what Scan is to tell, by the words of the chapters 4 and 6 alone.
func scanned(seg string, next int) ([]wal.Record, int) {
	var l []wal.Record
	at := 0
	for {
		rest := seg[at:]
		if len(rest) < around || rest[0] != 2 {
			return l, at
		}
		n := int(rest[1])<<16 + int(rest[2])<<8 + int(rest[3])
		if n < 8 || n > 8+longest || len(rest) < n+8 || frame(2, rest[4:4+n]) != rest[:n+8] {
			return l, at
		}
		// Numbers are held against each other as they are written, so that none is too great.
		if strconv.Itoa(next) != strconv.FormatUint(binary.BigEndian.Uint64([]byte(rest[4:12])), 10) {
			return l, at
		}
		l = append(l, wal.Record{Seq: next, Data: []byte(rest[12 : 4+n])})
		at += n + 8
		next++
	}
}

// recovered is what Recover is to tell where it refuses nothing, by the chapter's words alone.
func recovered(segs []string, next int) wal.Log {
	l := wal.Log{Next: next}
	for _, seg := range segs {
		seg = seg[:min(len(seg), size)]
		records, n := scanned(seg, l.Next)
		if len(records) > 0 {
			l.Segs = append(l.Segs, []byte(seg[:n]))
			l.Next += len(records)
		}
		if len(records) == 0 || strings.Trim(seg[n:], "\x00") != "" {
			break
		}
	}
	return l
}

func octets(segs ...string) [][]byte {
	var l [][]byte
	for _, seg := range segs {
		l = append(l, []byte(seg))
	}
	return l
}

func texts(segs [][]byte) []string {
	var l []string
	for _, seg := range segs {
		l = append(l, string(seg))
	}
	return l
}

// tell writes l out, so that two logs are one just if what is told is one; nil and empty lists are told alike.
func tell(l wal.Log) string {
	return strconv.Itoa(l.Next) + tellSegs(l.Segs)
}

func tellSegs(segs [][]byte) string {
	var b strings.Builder
	for _, seg := range segs {
		b.WriteString(" " + strconv.Itoa(len(seg)) + ":" + string(seg))
	}
	return b.String()
}

func tellRecords(l []wal.Record) string {
	var b strings.Builder
	for _, r := range l {
		b.WriteString("(" + strconv.Itoa(r.Seq) + " " + strconv.Itoa(len(r.Data)) + ":" + string(r.Data) + ")")
	}
	return b.String()
}

// short tells l by its lengths, for a person.
func short(l wal.Log) string {
	s := "next " + strconv.Itoa(l.Next) + ":"
	for _, seg := range l.Segs {
		s += " " + strconv.Itoa(len(seg))
	}
	if len(s) > 100 {
		return s[:100] + ".. (" + strconv.Itoa(len(l.Segs)) + " segments)"
	}
	return s
}

func shortRecords(l []wal.Record) string {
	s := ""
	for _, r := range l {
		s += fmt.Sprintf("%d/%d ", r.Seq, len(r.Data))
	}
	if len(s) > 100 {
		return s[:100] + ".. (" + strconv.Itoa(len(l)) + " records)"
	}
	return s
}

func isZero(l wal.Log) bool {
	return len(l.Segs) == 0 && l.Next == 0
}

// chance makes logs from a fixed rule.
type chance struct {
	*rand.Rand
}

func chanceOf(seed int64) chance {
	return chance{rand.New(rand.NewSource(seed))}
}

// length is how many octets a record has: often few, and often the edges.
func (r chance) length() int {
	switch r.Intn(6) {
	case 0:
		return 0
	case 1:
		return longest
	case 2:
		return r.Intn(longest + 1)
	}
	return r.Intn(60)
}

// lengths are those of records that fit into one segment, one or more of them.
func (r chance) lengths() []int {
	l := []int{r.length()}
	sum := around + l[0]
	for range r.Intn(30) {
		n := r.length()
		if sum += around + n; sum > size {
			break
		}
		l = append(l, n)
	}
	return l
}

func (r chance) first() int {
	switch r.Intn(4) {
	case 0:
		return 1
	case 1:
		return 1 + r.Intn(lastNext-3000)
	case 2:
		return 1<<r.Intn(39) + r.Intn(2)
	}
	return 1 + r.Intn(1000)
}

func (r chance) plan(segs int) plan {
	var lengths [][]int
	for range segs {
		lengths = append(lengths, r.lengths())
	}
	return planOf(r.first(), lengths...)
}

// rows are n segments of one record each, of that length.
func rows(n, length int) [][]int {
	var l [][]int
	for range n {
		l = append(l, []int{length})
	}
	return l
}

// tiny are the lengths of the 30 records that fill a segment with none.
func tiny() []int {
	return make([]int, size/around)
}

// endingAt is p moved, so that its Next is that.
func endingAt(next int, lengths ...[]int) plan {
	return planOf(next-planOf(0, lengths...).next(), lengths...)
}

// plans are logs that may be: the edges, and some by chance.
func plans() []plan {
	l := []plan{
		planOf(1), planOf(2), planOf(255), planOf(256), planOf(lastNext - 1), planOf(lastNext),
		planOf(1, []int{0}), planOf(1, []int{longest}), planOf(1, []int{1, 2, 3}), planOf(7, []int{5}),
		planOf(1, []int{longest, 48}), planOf(1, []int{longest, 47}), planOf(1, tiny()), planOf(1, tiny(), tiny()),
		planOf(1, []int{300}, []int{300}), planOf(1, []int{0}, []int{0}, []int{0}), planOf(200, []int{3, 4}, []int{5}, []int{0, 0, 0}),
		planOf(1, rows(most, 0)...), planOf(1, rows(most, longest)...), planOf(1, rows(most-1, 9)...),
		planOf(1, append(rows(most-1, longest), []int{longest, 48})...), planOf(1, append(rows(most-1, 1), tiny())...),
		endingAt(lastNext, []int{5}), endingAt(lastNext, []int{5, 6}, []int{7}), endingAt(lastNext, tiny()), endingAt(lastNext-1, []int{5}),
		endingAt(lastNext, rows(most, longest)...), endingAt(lastNext-1, rows(most, 0)...),
		planOf(1<<31-1, []int{1, 1, 1}), planOf(1<<32-2, []int{1, 1}, []int{1, 1}),
	}
	r := chanceOf(6)
	for i := range 60 {
		l = append(l, r.plan(i%7))
	}
	return append(l, r.plan(most), r.plan(most-1))
}

// mayNot are logs that may not be, each for one cause, told by name.
func mayNot() map[string]wal.Log {
	one, two := record(1, "one"), record(2, "two")
	bent := []byte(one)
	bent[len(bent)-1] ^= 1
	seg := func(next int, segs ...string) wal.Log { return wal.Log{Segs: octets(segs...), Next: next} }
	many := planOf(1, rows(most+1, 3)...).log()
	return map[string]wal.Log{
		"none":                                  {},
		"Next is 0":                             seg(0),
		"Next is below 0":                       seg(-1),
		"Next is the least":                     seg(math.MinInt),
		"Next is 2^40 + 1":                      seg(lastNext + 1),
		"Next is the greatest":                  seg(math.MaxInt),
		"Next is 2^40 + 1, a record":            endingAt(lastNext+1, []int{5}).log(),
		"Next is 0, a record":                   seg(0, record(math.MaxUint64, "")),
		"65 segments":                           many,
		"65 segments, the last empty":           {Segs: append(many.Segs[:most:most], nil), Next: most + 1},
		"an empty segment":                      seg(1, ""),
		"a nil segment":                         {Segs: [][]byte{nil}, Next: 1},
		"an empty segment ahead":                seg(2, "", one),
		"an empty segment between":              seg(3, one, "", two),
		"an empty segment behind":               seg(2, one, ""),
		"481 octets of two records":             planOf(1, []int{longest, 49}).log(),
		"481 octets of three":                   planOf(1, []int{200, 200, 33}).log(),
		"496 octets":                            planOf(1, make([]int, 31)).log(),
		"481 octets, the second segment":        planOf(1, []int{3}, []int{longest, 49}).log(),
		"a zero behind":                         seg(2, one+"\x00"),
		"zeros up to 480":                       seg(2, one+strings.Repeat("\x00", size-len(one))),
		"a zero behind the first of two":        seg(3, one+"\x00", two),
		"an octet behind":                       seg(2, one+"x"),
		"half a record behind":                  seg(2, one+two[:len(two)-1]),
		"half a record":                         seg(1, one[:len(one)-1]),
		"half a record, its Next":               seg(2, one[:len(one)-1]),
		"zeros":                                 seg(1, strings.Repeat("\x00", 48)),
		"another sum":                           seg(2, string(bent)),
		"another sum, the second":               seg(3, record(1, "x"), string(bent)),
		"Kind 1":                                seg(2, frame(1, number(1)+"one")),
		"Kind 3":                                seg(2, frame(3, number(1)+"one")),
		"Kind 1 behind":                         seg(3, one+frame(1, number(2)+"two")),
		"Kind 3 behind, its Next without it":    seg(2, one+frame(3, number(2)+"two")),
		"Kind 3, a segment of its own":          seg(3, one, frame(3, number(2)+"two")),
		"a frame of nothing":                    seg(1, frame(2, "")),
		"a frame of nothing behind":             seg(2, one+frame(2, "")),
		"a frame of 7 octets":                   seg(2, frame(2, number(1)[1:])),
		"a frame of 7 octets behind":            seg(3, one+frame(2, number(2)[1:])),
		"401 octets":                            seg(2, record(1, data(1, longest+1))),
		"401 octets behind":                     seg(3, one, record(2, data(2, longest+1))),
		"464 octets":                            seg(2, record(1, data(1, size-around))),
		"the number 0":                          seg(1, record(0, "")),
		"the numbers 0 and 1":                   seg(2, record(0, "")+one),
		"the numbers 0 and 1, two segments":     seg(2, record(0, ""), one),
		"the number 0, Next 2":                  seg(2, record(0, "")),
		"a number twice":                        seg(3, one+one),
		"a number twice, Next 2":                seg(2, one+one),
		"a number twice, two segments":          seg(3, one, one),
		"a number left out":                     seg(4, one+record(3, "")),
		"a number left out, two segments":       seg(4, one, record(3, "")),
		"numbers that fall":                     seg(2, two+one),
		"numbers that fall, two segments":       seg(2, two, one),
		"Next is the last record's":             seg(1, one),
		"Next is one too many":                  seg(3, one),
		"Next is one too many, two segments":    seg(4, one, two),
		"Next is 1, two records":                seg(1, one+two),
		"the number 2^40":                       seg(lastNext, record(lastNext, "")),
		"the numbers up to 2^40":                seg(lastNext, record(lastNext-1, "")+record(lastNext, "")),
		"the number 2^63 - 1":                   seg(1, record(math.MaxInt, "")),
		"the numbers 2^63 - 1 and 2^63":         seg(1, record(math.MaxInt, "")+record(1<<63, "")),
		"the number 2^63":                       seg(1, record(1<<63, "")),
		"the number 2^64 - 1":                   seg(1, record(math.MaxUint64, "")),
		"the numbers 2^64 - 1 and 0":            seg(1, record(math.MaxUint64, "")+record(0, "")),
		"1 with a bit above the lowest 32":      seg(2, record(1<<32+1, "")),
		"the number 1, the lowest octet first":  seg(2, record(1<<56, "")),
		"the lowest octet first, its own Next":  seg(1<<56+1, record(1<<56, "")),
		"a great frame":                         seg(2, record(1, strings.Repeat("x", api.MaxData-8))),
		"many records in one segment":           planOf(1, make([]int, 3000)).log(),
		"a fault in the last of many":           {Segs: append(planOf(1, rows(most-1, 3)...).log().Segs, []byte(record(most+1, ""))), Next: most + 1},
		"a record that is of another one's Seq": seg(3, one+record(1, "two")),
	}
}
