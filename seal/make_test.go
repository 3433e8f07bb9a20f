package seal_test

import (
	"bytes"
	"math/rand"
	"strconv"
	"strings"

	"fanlight/api"
	"fanlight/seal"
)

const most = 65536 // octets of Data

func frame(kind int, data string) seal.Frame {
	return seal.Frame{Kind: kind, Data: []byte(data)}
}

func repeat(s string, n int) string {
	return strings.Repeat(s, n)
}

// sumOf reckons by the chapter's words alone, bit by bit.
func sumOf(s string) uint32 {
	var register uint32 = 0xffffffff
	for i := range len(s) {
		register ^= uint32(s[i])
		for range 8 {
			fell := register & 1
			register >>= 1
			if fell == 1 {
				register ^= 0xeb31d82e
			}
		}
	}
	return ^register
}

// head is the first four octets of a frame, whether it may be or not.
func head(kind, length int) string {
	return string([]byte{byte(kind), byte(length >> 16), byte(length >> 8), byte(length)})
}

// sealed is s and its sum, by the chapter's words alone.
func sealed(s string) string {
	c := sumOf(s)
	return s + string([]byte{byte(c), byte(c >> 8), byte(c >> 16), byte(c >> 24)})
}

// octetsOf writes f by the chapter's words alone, whether it may be or not.
func octetsOf(f seal.Frame) string {
	return sealed(head(f.Kind, len(f.Data)) + string(f.Data))
}

// allOctets are the octets of frames, one behind the other.
func allOctets(frames []seal.Frame) string {
	var s strings.Builder
	for _, f := range frames {
		s.WriteString(octetsOf(f))
	}
	return s.String()
}

// tell writes f out, so that two frames are one just if what is told is one; nil and empty Data are told alike.
func tell(f seal.Frame) string {
	return "(" + strconv.Itoa(f.Kind) + " " + strconv.Quote(string(f.Data)) + ")"
}

func tellAll(frames []seal.Frame) string {
	var s strings.Builder
	for _, f := range frames {
		s.WriteString(tell(f))
	}
	return s.String()
}

// brief cuts what is told of great frames.
func brief(s string) string {
	if len(s) > 100 {
		return s[:100] + ".. (" + strconv.Itoa(len(s)) + ")"
	}
	return s
}

// isZero tells whether f is the zero frame, nil and empty Data being one.
func isZero(f seal.Frame) bool {
	return f.Kind == 0 && len(f.Data) == 0
}

// small are frames that may be, of few octets, their Data such as could be taken for something else.
func small() []seal.Frame {
	return []seal.Frame{
		{Kind: 1}, {Kind: 255}, {Kind: 128, Data: []byte{}},
		frame(1, "a"), frame(2, "\x00"), frame(255, "\xff"), frame(3, "\x00\x00\x00\x00"), frame(127, "\xff\xff\xff\xff"),
		frame(4, "123456789"), frame(5, octetsOf(frame(1, "a"))), frame(6, octetsOf(frame(1, "a"))[:8]), frame(7, repeat("\x00", 48)),
		frame(8, repeat("x", 255)), frame(9, repeat("y", 256)), frame(10, repeat("\x00\xff", 300)),
	}
}

// may are frames that may be: the small ones, and those with the most octets.
func may() []seal.Frame {
	return append(small(), frame(1, repeat("z", most-1)), frame(255, repeat("\x00", most)), frame(17, repeat("ab\xff\x00", most/4)))
}

// some are small frames that may be, from a fixed rule.
func some(n int) []seal.Frame {
	r := rand.New(rand.NewSource(4))
	var l []seal.Frame
	for range n {
		data := make([]byte, r.Intn(40))
		r.Read(data)
		l = append(l, seal.Frame{Kind: 1 + r.Intn(255), Data: data})
	}
	return l
}

// taken is what Get should answer, by the chapter's words alone, one behind the other.
func taken(b []byte) (seal.Frame, int, api.Errno) {
	if len(b) < 8 {
		return seal.Frame{}, 0, api.ErrShort
	}
	if b[0] == 0 {
		return seal.Frame{}, 0, api.ErrKind
	}
	length := int(b[1])*65536 + int(b[2])*256 + int(b[3])
	if length > most {
		return seal.Frame{}, 0, api.ErrLong
	}
	if len(b) < 4+length+4 {
		return seal.Frame{}, 0, api.ErrShort
	}
	if sealed(string(b[:4+length])) != string(b[:4+length+4]) {
		return seal.Frame{}, 0, api.ErrCorrupt
	}
	return seal.Frame{Kind: int(b[0]), Data: bytes.Clone(b[4 : 4+length])}, 4 + length + 4, api.OK
}
