package slot_test

import (
	"math"
	"math/rand"
	"strings"
	"testing"

	"signet/api"
	"signet/slot"
)

// each is a slot each byte of which is another one: 1 to 44, in the order of its bytes.
func each() api.Slot {
	s := api.Slot{Counter: 0x0807060504030201, Root: api.Ref{At: 0x0c0b0a09}}
	for i := range s.Root.Sum {
		s.Root.Sum[i] = byte(13 + i)
	}
	return s
}

// counted is the bytes 1 to 44.
func counted() string {
	var b strings.Builder
	for i := range 44 {
		b.WriteByte(byte(i + 1))
	}
	return b.String()
}

// greatest is the slot whose bytes are all 255.
func greatest() api.Slot {
	s := api.Slot{Counter: math.MaxUint64, Root: api.Ref{At: math.MaxUint32}}
	for i := range s.Root.Sum {
		s.Root.Sum[i] = 255
	}
	return s
}

// filled is one byte, 44 times, but for other bytes at a place.
func filled(b byte, at int, other string) string {
	s := strings.Repeat(string([]byte{b}), 44)
	return s[:at] + other + s[at+len(other):]
}

// 6.3

func TestEncode(t *testing.T) {
	for _, c := range []struct {
		s    api.Slot
		want string
	}{
		{api.Slot{}, filled(0, 0, "")},
		{each(), counted()},
		{greatest(), filled(255, 0, "")},
		{api.Slot{Counter: 1}, filled(0, 0, "\x01")},
		{api.Slot{Counter: math.MaxUint64}, filled(0, 0, "\xff\xff\xff\xff\xff\xff\xff\xff")},
		{api.Slot{Counter: 1 << 63}, filled(0, 7, "\x80")},
		{api.Slot{Counter: 1 << 32}, filled(0, 4, "\x01")},
		{api.Slot{Root: api.Ref{At: 1}}, filled(0, 8, "\x01")},
		{api.Slot{Root: api.Ref{At: math.MaxUint32}}, filled(0, 8, "\xff\xff\xff\xff")},
		{api.Slot{Root: api.Ref{At: 1 << 31}}, filled(0, 11, "\x80")},
		{api.Slot{Root: api.Ref{Sum: api.Sum{1}}}, filled(0, 12, "\x01")},
		{api.Slot{Root: api.Ref{Sum: api.Sum{31: 2}}}, filled(0, 43, "\x02")},
	} {
		if got := slot.Encode(c.s); got != c.want {
			t.Errorf("Encode(%v) = %q, want %q", c.s, got, c.want)
		}
	}
}

func TestDecode(t *testing.T) {
	for _, c := range []struct {
		s    string
		want api.Slot
	}{
		{filled(0, 0, ""), api.Slot{}},
		{counted(), each()},
		{filled(255, 0, ""), greatest()},
		{filled(0, 8, "\x01"), api.Slot{Root: api.Ref{At: 1}}},
		{filled(0, 9, "\x01"), api.Slot{Root: api.Ref{At: 1 << 8}}},
		{filled(0, 11, "\x80"), api.Slot{Root: api.Ref{At: 1 << 31}}},
		{filled(0, 7, "\x80\x01"), api.Slot{Counter: 1 << 63, Root: api.Ref{At: 1}}},
		{filled(0, 11, "\x01\x05"), api.Slot{Root: api.Ref{At: 1 << 24, Sum: api.Sum{5}}}},
	} {
		if got, err := slot.Decode(c.s); got != c.want || err != api.OK {
			t.Errorf("Decode(%q) = %v, %d; want %v", c.s, got, err, c.want)
		}
	}
}

// undecoded asks that bytes are no slot's.
func undecoded(t *testing.T, s string) {
	t.Helper()
	if got, err := slot.Decode(s); got != (api.Slot{}) || err != api.ErrSlot {
		t.Errorf("Decode(%q) = %v, %d; want ErrSlot", s, got, err)
	}
}

func TestDecodeOfTooFewAndTooMany(t *testing.T) {
	for _, full := range []string{strings.Repeat(counted(), 3), strings.Repeat("\x00", 132)} {
		for many := range len(full) + 1 {
			if many != 44 {
				undecoded(t, full[:many])
			}
		}
		if _, err := slot.Decode(full[:44]); err != api.OK {
			t.Errorf("Decode of 44 bytes = %d", err)
		}
	}
}

// Of no block there is neither a counter nor a digest, in whichever byte.
func TestDecodeOfNoRoot(t *testing.T) {
	for at := range 44 {
		for _, b := range []string{"\x01", "\x80", "\xff"} {
			s := filled(0, at, b)
			if at < 8 || at >= 12 {
				undecoded(t, s)
			} else if _, err := slot.Decode(s); err != api.OK {
				t.Errorf("Decode(%q) = %d", s, err)
			}
		}
	}
	undecoded(t, filled(255, 8, "\x00\x00\x00\x00"))
	undecoded(t, counted()[:8]+"\x00\x00\x00\x00"+counted()[12:])
	undecoded(t, slot.Encode(api.Slot{Counter: 1}))
	undecoded(t, slot.Encode(api.Slot{Counter: math.MaxUint64}))
	undecoded(t, slot.Encode(api.Slot{Root: api.Ref{Sum: api.Sum{31: 1}}}))
}

func TestAhead(t *testing.T) {
	counters := []uint64{0, 1, 2, 1<<32 - 1, 1 << 32, 1<<63 - 1, 1 << 63, 1<<63 + 1, math.MaxUint64 - 1, math.MaxUint64}
	for i, a := range counters {
		for j, b := range counters {
			// Roots say nothing.
			for _, roots := range [][2]api.Ref{{}, {{At: 1}}, {{}, {At: 1}}, {greatest().Root, one(1).Root}} {
				x, y := api.Slot{Counter: a, Root: roots[0]}, api.Slot{Counter: b, Root: roots[1]}
				if got := slot.Ahead(x, y); got != (i > j) {
					t.Errorf("Ahead(%v, %v) = %v", x, y, got)
				}
			}
		}
	}
}

// 6.5

func TestDecodeOfEncode(t *testing.T) {
	r := rand.New(rand.NewSource(6))
	for range 3000 {
		s := api.Slot{Counter: r.Uint64() >> r.Intn(64), Root: api.Ref{At: r.Uint32()>>r.Intn(32) | 1}}
		r.Read(s.Root.Sum[:r.Intn(33)])
		b := slot.Encode(s)
		if len(b) != api.SlotBytes {
			t.Fatalf("Encode(%v) has %d bytes", s, len(b))
		}
		if got, err := slot.Decode(b); got != s || err != api.OK {
			t.Errorf("Decode(Encode(%v)) = %v, %d", s, got, err)
		}
	}
	if got, err := slot.Decode(slot.Encode(api.Slot{})); got != (api.Slot{}) || err != api.OK {
		t.Errorf("Decode of the zero slot's bytes = %v, %d", got, err)
	}
}
