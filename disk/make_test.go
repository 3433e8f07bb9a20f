package disk_test

import (
	"math/rand"
	"strconv"
	"strings"

	"fanlight/api"
	"fanlight/disk"
)

const (
	size = 48   // octets of a sector
	most = 4096 // sectors, and writes that wait
)

// octets are sectors, one for each letter: the letter, and then what no other sector has at that place.
func octets(letters string) []byte {
	b := []byte{}
	for _, letter := range []byte(letters) {
		for i := range size {
			b = append(b, letter+byte(i)*3)
		}
	}
	return b
}

// letters tells octets the other way round; what is no sector of a letter is told as ?.
func letters(b []byte) string {
	var s strings.Builder
	for at := 0; at < len(b); at += size {
		if one := b[at:min(at+size, len(b))]; string(one) == string(octets(string(one[:1]))) {
			s.WriteByte(one[0])
		} else {
			s.WriteByte('?')
		}
	}
	return s.String()
}

func write(sector int, letters string) api.Write {
	return api.Write{Sector: sector, Data: octets(letters)}
}

func barrier() api.Write {
	return api.Write{Flush: true}
}

// holding is a disk whose sectors are those letters, and on which those writes wait.
func holding(letters string, waits ...api.Write) disk.State {
	s := disk.State{Cache: waits}
	for i := range len(letters) {
		s.Sectors = append(s.Sectors, octets(letters[i:i+1]))
	}
	return s
}

// sized is a disk of zeros, its sectors of so many octets each.
func sized(lengths ...int) disk.State {
	var s disk.State
	for _, n := range lengths {
		s.Sectors = append(s.Sectors, make([]byte, n))
	}
	return s
}

// waiting is n writes of one sector.
func waiting(n int) []api.Write {
	var l []api.Write
	for i := range n {
		l = append(l, write(i%3, string(rune('a'+i%26))))
	}
	return l
}

// tell writes s out, so that two states are one just if what is told is one; nil and empty lists are told alike.
func tell(s disk.State) string {
	var b strings.Builder
	for _, sector := range s.Sectors {
		b.WriteString(strconv.Itoa(len(sector)) + ":" + string(sector) + " ")
	}
	return b.String() + "waiting " + tellWrites(s.Cache)
}

func tellWrites(l []api.Write) string {
	var b strings.Builder
	for _, w := range l {
		b.WriteString("(" + strconv.FormatBool(w.Flush) + " " + strconv.Itoa(w.Sector) + " " + strconv.Itoa(len(w.Data)) + ":" + string(w.Data) + ")")
	}
	return b.String()
}

// short tells s by letters, for a person.
func short(s disk.State) string {
	var b strings.Builder
	for _, sector := range s.Sectors {
		b.WriteString(letters(sector))
	}
	for _, w := range s.Cache {
		b.WriteString(" " + shortWrite(w))
	}
	if b.Len() > 100 {
		return b.String()[:100] + ".. (" + strconv.Itoa(b.Len()) + ")"
	}
	return b.String()
}

func shortWrite(w api.Write) string {
	told := strconv.Itoa(w.Sector) + "+" + letters(w.Data) + "/" + strconv.Itoa(len(w.Data))
	if w.Flush {
		return "barrier" + told
	}
	return told
}

func isZero(s disk.State) bool {
	return len(s.Sectors) == 0 && len(s.Cache) == 0
}

// refused tells why a disk in a state that may be does not take w, by the chapter's words alone, sector by sector.
func refused(s disk.State, w api.Write) api.Errno {
	if w.Flush {
		if w.Sector != 0 || len(w.Data) != 0 {
			return api.ErrArg
		}
		return api.OK
	}
	if w.Sector < 0 {
		return api.ErrRange
	}
	for at := 0; at < len(w.Data); at++ {
		if w.Sector+at/size >= len(s.Sectors) {
			return api.ErrRange
		}
	}
	if len(w.Data) == 0 || len(w.Data)%size != 0 {
		return api.ErrArg
	}
	if len(s.Cache) >= most {
		return api.ErrFull
	}
	return api.OK
}

// mayBe tells by the chapter's words alone whether s may be.
func mayBe(s disk.State) bool {
	if len(s.Sectors) == 0 || len(s.Sectors) > most || len(s.Cache) > most {
		return false
	}
	for _, sector := range s.Sectors {
		if len(sector) != size {
			return false
		}
	}
	for _, w := range s.Cache {
		if w.Flush || refused(disk.State{Sectors: s.Sectors}, w) != api.OK {
			return false
		}
	}
	return true
}

// all keeps the whole of each write.
func all(int) int {
	return most
}

// by keeps what keep tells, by the chapter's words alone.
func by(keep []int) func(int) int {
	return func(i int) int {
		if i >= len(keep) {
			return 0
		}
		return max(keep[i], 0)
	}
}

// stands is what sector k has behind the writes that wait, of each of which so many sectors are kept: what the last of them that keeps it has for it.
func stands(s disk.State, k int, kept func(i int) int) string {
	for i := len(s.Cache) - 1; i >= 0; i-- {
		w := s.Cache[i]
		if j := k - w.Sector; j >= 0 && j < kept(i) && j < len(w.Data)/size {
			return string(w.Data[j*size : (j+1)*size])
		}
	}
	return string(s.Sectors[k])
}

// settled is s where of each write that waits so many sectors stand, and none waits.
func settled(s disk.State, kept func(i int) int) disk.State {
	var after disk.State
	for k := range s.Sectors {
		after.Sectors = append(after.Sectors, []byte(stands(s, k, kept)))
	}
	return after
}

// done is s behind w, which it takes.
func done(s disk.State, w api.Write) disk.State {
	if w.Flush {
		return settled(s, all)
	}
	return disk.State{Sectors: s.Sectors, Cache: append(s.Cache[:len(s.Cache):len(s.Cache)], w)}
}

// chance makes states and writes from a fixed rule.
type chance struct {
	*rand.Rand
}

func chanceOf(seed int64) chance {
	return chance{rand.New(rand.NewSource(seed))}
}

func (r chance) letters(n int) string {
	b := make([]byte, n)
	for i := range b {
		b[i] = byte('A' + r.Intn(58))
	}
	return string(b)
}

// fits is a write that a disk of n sectors takes.
func (r chance) fits(n int) api.Write {
	from := r.Intn(n)
	return write(from, r.letters(1+r.Intn(min(n-from, 6))))
}

// state is one that may be.
func (r chance) state() disk.State {
	n := 1 + r.Intn(8)
	s := holding(r.letters(n))
	for range r.Intn(6) {
		s.Cache = append(s.Cache, r.fits(n))
	}
	return s
}

// write is one that may be refused.
func (r chance) write(n int) api.Write {
	switch r.Intn(12) {
	case 0:
		return api.Write{Sector: r.Intn(n+4) - 2, Data: make([]byte, r.Intn(3*size))}
	case 1:
		return write(r.Intn(n+4)-2, r.letters(r.Intn(4)))
	case 2:
		return api.Write{Flush: true, Sector: r.Intn(3) - 1, Data: make([]byte, r.Intn(2)*size)}
	case 3, 4:
		return barrier()
	}
	return r.fits(n)
}

// keep tells, for about so many writes, how much of each stands.
func (r chance) keep(writes int) []int {
	var keep []int
	for range r.Intn(writes + 3) {
		keep = append(keep, r.Intn(10)-2)
	}
	return keep
}

// may are states that may be: the edges, and some by chance.
func may() []disk.State {
	l := []disk.State{
		holding("a"), holding("abc"), holding("aaaa"),
		holding("a", write(0, "x")), holding("abc", write(2, "x")), holding("abc", write(0, "xyz")),
		holding("abc", write(1, "x"), write(1, "y"), write(1, "x")),
		holding("abc", waiting(most)...), holding("abc", waiting(most-1)...),
		holding(strings.Repeat("m", most)), holding(strings.Repeat("m", most), write(0, strings.Repeat("n", most)), write(most-1, "o")),
	}
	r := chanceOf(5)
	for range 60 {
		l = append(l, r.state())
	}
	return l
}

// mayNot are states that may not be, each for one cause, told by name.
func mayNot() map[string]disk.State {
	const farthest = 1<<63 - 1
	broken := map[string]disk.State{
		"none":                            {},
		"no sectors":                      {Sectors: [][]byte{}, Cache: []api.Write{}},
		"no sectors, a write":             {Cache: []api.Write{write(0, "x")}},
		"4097 sectors":                    holding(strings.Repeat("m", most+1)),
		"a sector of 47":                  sized(47),
		"a sector of 49":                  sized(49),
		"a sector of 96":                  sized(96),
		"a sector of 0":                   sized(0),
		"a nil sector":                    {Sectors: [][]byte{nil}},
		"the first of 47":                 sized(47, 48, 48),
		"one between of 49":               sized(48, 49, 48),
		"the last of 47":                  sized(48, 48, 47),
		"47 and 49":                       sized(47, 49),
		"a nil sector behind":             {Sectors: [][]byte{make([]byte, 48), nil}},
		"4097 writes":                     holding("abc", waiting(most+1)...),
		"a barrier":                       holding("abc", barrier()),
		"a barrier behind":                holding("abc", write(0, "x"), barrier()),
		"a barrier between":               holding("abc", write(0, "x"), barrier(), write(0, "y")),
		"a barrier that writes":           holding("abc", api.Write{Flush: true, Sector: 1, Data: octets("x")}),
		"a barrier, the 4096th":           holding("abc", append(waiting(most-1), barrier())...),
		"no octets":                       holding("abc", api.Write{}),
		"no octets, one sector in":        holding("abc", api.Write{Sector: 1, Data: []byte{}}),
		"no octets, at the end":           holding("abc", api.Write{Sector: 3}),
		"no octets, beyond the end":       holding("abc", api.Write{Sector: 4}),
		"no octets, behind":               holding("abc", write(0, "x"), api.Write{}),
		"1 octet":                         holding("abc", api.Write{Data: make([]byte, 1)}),
		"47 octets":                       holding("abc", api.Write{Data: make([]byte, 47)}),
		"49 octets":                       holding("abc", api.Write{Data: make([]byte, 49)}),
		"95 octets":                       holding("abc", write(0, "x"), api.Write{Data: make([]byte, 95)}),
		"47 octets, the last sector":      holding("abc", api.Write{Sector: 2, Data: make([]byte, 47)}),
		"49 octets, the last sector":      holding("abc", api.Write{Sector: 2, Data: make([]byte, 49)}),
		"a sector below 0":                holding("abc", write(-1, "x")),
		"sectors from below 0":            holding("abc", write(-1, "xy")),
		"a sector at the end":             holding("abc", write(3, "x")),
		"a sector at the end, the 4096th": holding("abc", append(waiting(most-1), write(3, "x"))...),
		"two sectors, one there":          holding("abc", write(2, "xy")),
		"four sectors, three there":       holding("abc", write(0, "wxyz")),
		"the lowest":                      holding("abc", write(-farthest-1, "x")),
		"the farthest":                    holding("abc", write(farthest, "x")),
		"two sectors, the farthest":       holding("abc", write(farthest, "xy")),
		"two sectors, nearly there":       holding("abc", write(farthest-1, "xy")),
		"2^32":                            holding("abc", write(1<<32, "x")),
		"the farthest, whose octets wrap": holding("abc", write(1<<60, "x")),
	}
	return broken
}
