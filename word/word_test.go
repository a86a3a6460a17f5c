package word_test

import (
	"math"
	"math/big"
	"testing"

	"signet/api"
	"signet/word"
)

// samples are words with few ones, with many, and with their ones at the ends and in the midst.
func samples() []uint64 {
	l := []uint64{0, 0x0123456789abcdef, 0xfedcba9876543210, 0x5555555555555555, 0xaaaaaaaaaaaaaaaa, 0xdeadbeefcafef00d}
	for i := range 64 {
		one := uint64(1) << i
		l = append(l, one, one-1, ^one, -one)
	}
	return l
}

// bit is the bit of a word at a place, and 0 at places that it does not have.
func bit(x uint64, at int) uint64 {
	if at < 0 || at > 63 {
		return 0
	}
	return x >> at & 1
}

// 1.1

func TestBytesHaveTheLowestFirst(t *testing.T) {
	if b := word.Bytes16(0x0201); b != [2]byte{1, 2} {
		t.Error(b)
	}
	if b := word.Bytes32(0x04030201); b != [4]byte{1, 2, 3, 4} {
		t.Error(b)
	}
	if b := word.Bytes64(0x0807060504030201); b != [8]byte{1, 2, 3, 4, 5, 6, 7, 8} {
		t.Error(b)
	}
	if b := word.Bytes16(math.MaxUint16 - 1); b != [2]byte{254, 255} {
		t.Error(b)
	}
	if b := word.Bytes32(math.MaxUint32 - 1); b != [4]byte{254, 255, 255, 255} {
		t.Error(b)
	}
	if b := word.Bytes64(math.MaxUint64 - 1); b != [8]byte{254, 255, 255, 255, 255, 255, 255, 255} {
		t.Error(b)
	}
	if word.Bytes16(0) != [2]byte{} || word.Bytes32(0) != [4]byte{} || word.Bytes64(0) != [8]byte{} {
		t.Error("0 has other bytes than zeros")
	}
}

func TestNumbersOfBytes(t *testing.T) {
	if n := word.Of16([2]byte{1, 255}); n != 0xff01 {
		t.Error(n)
	}
	if n := word.Of32([4]byte{1, 2, 3, 255}); n != 0xff030201 {
		t.Error(n)
	}
	if n := word.Of64([8]byte{1, 2, 3, 4, 5, 6, 7, 255}); n != 0xff07060504030201 {
		t.Error(n)
	}
	if word.Of16([2]byte{}) != 0 || word.Of32([4]byte{}) != 0 || word.Of64([8]byte{}) != 0 {
		t.Error("zeros have another number than 0")
	}
}

// take is Take16, Take32 or Take64, by its number of bytes.
func take(s string, at, bytes int) (uint64, bool) {
	switch bytes {
	case 2:
		n, ok := word.Take16(s, at)
		return uint64(n), ok
	case 4:
		n, ok := word.Take32(s, at)
		return uint64(n), ok
	}
	return word.Take64(s, at)
}

func TestTakeAtEveryPlace(t *testing.T) {
	const text = "\x81\x82\x00\x84\xff\x86\x87\x08\x89\x8a\x8b"
	places := []int{math.MinInt, math.MinInt + 1, math.MaxInt - 8, math.MaxInt - 1, math.MaxInt}
	for at := -10; at <= len(text)+10; at++ {
		places = append(places, at)
	}
	for size := range len(text) + 1 {
		s := text[:size]
		for _, bytes := range []int{2, 4, 8} {
			for _, at := range places {
				want, there := uint64(0), at >= 0 && at <= size && size-at >= bytes
				if there {
					for i := bytes - 1; i >= 0; i-- {
						want = want*256 + uint64(s[at+i])
					}
				}
				if n, ok := take(s, at, bytes); n != want || ok != there {
					t.Errorf("%d bytes of %q at %d: %d, %v", bytes, s, at, n, ok)
				}
			}
		}
	}
}

func TestTakeIgnoresWhatStandsAround(t *testing.T) {
	const text = "\xff\xff\x01\x02\x03\x04\x05\x06\x07\x08\xff\xff"
	for _, bytes := range []int{2, 4, 8} {
		inner, _ := take(text[2:2+bytes], 0, bytes)
		if n, ok := take(text, 2, bytes); n != inner || !ok {
			t.Error(bytes, n, ok)
		}
	}
}

// 1.2

// shifts are the edges that the document names, all that is near them, and the ends.
func shifts() []int {
	l := []int{math.MinInt, math.MinInt + 1, math.MinInt + 31, math.MinInt + 32, math.MaxInt, math.MaxInt - 1, 1 << 32, -1 << 32, 1<<32 + 1, -1<<32 - 1, 256, -256, 257, -257}
	for by := -130; by <= 130; by++ {
		l = append(l, by)
	}
	return l
}

// modulo is the rest from 0 to m - 1.
func modulo(n, m int) int {
	return (n%m + m) % m
}

func TestTurn(t *testing.T) {
	for _, sample := range samples() {
		x := uint32(sample ^ sample>>32)
		for _, by := range shifts() {
			got := word.Turn(x, by)
			for i := range 32 {
				to := modulo(i+modulo(by, 32), 32)
				if got>>to&1 != x>>i&1 {
					t.Fatalf("Turn(%#x, %d): %#x", x, by, got)
				}
			}
		}
	}
	if n := word.Turn(0x80000001, 1); n != 3 {
		t.Error(n)
	}
	if n := word.Turn(0x80000001, 31); n != 0xc0000000 {
		t.Error(n)
	}
	for _, by := range []int{0, 32, -32, 64, -64, math.MinInt} {
		if n := word.Turn(0x12345678, by); n != 0x12345678 {
			t.Error(by, n)
		}
	}
}

func TestShift(t *testing.T) {
	for _, x := range samples() {
		for _, by := range shifts() {
			want := uint64(0)
			if by > -64 && by < 64 {
				for i := range 64 {
					want |= bit(x, i-by) << i
				}
			}
			if got := word.Shift(x, by); got != want {
				t.Fatalf("Shift(%#x, %d): %#x", x, by, got)
			}
		}
	}
	for _, by := range []int{64, -64, 65, -65, math.MaxInt, math.MinInt + 1, math.MinInt} {
		if n := word.Shift(math.MaxUint64, by); n != 0 {
			t.Error(by, n)
		}
	}
	if word.Shift(3, 63) != 1<<63 || word.Shift(3<<62, -63) != 1 || word.Shift(7, 0) != 7 || word.Shift(1<<63, -1) != 1<<62 {
		t.Error("an edge of Shift")
	}
}

func TestLean(t *testing.T) {
	for _, sample := range samples() {
		x := int64(sample)
		for _, by := range shifts() {
			if got, want := word.Lean(x, by), leant(x, by); got != want {
				t.Fatalf("Lean(%d, %d): %d, not %d", x, by, got, want)
			}
		}
	}
	for _, by := range []int{-64, -65, math.MinInt + 1, math.MinInt} {
		if word.Lean(math.MinInt64, by) != -1 || word.Lean(-1, by) != -1 || word.Lean(math.MaxInt64, by) != 0 || word.Lean(0, by) != 0 {
			t.Error(by)
		}
	}
	for _, by := range []int{64, 65, math.MaxInt} {
		if word.Lean(-1, by) != 0 || word.Lean(math.MaxInt64, by) != 0 {
			t.Error(by)
		}
	}
	if word.Lean(1, 63) != math.MinInt64 || word.Lean(math.MinInt64, -63) != -1 || word.Lean(math.MaxInt64, -63) != 0 || word.Lean(-7, 0) != -7 {
		t.Error("an edge of Lean")
	}
}

// leant is Lean by halving and doubling, one step at a time.
func leant(x int64, by int) int64 {
	for range min(64, max(by, 0)) {
		x += x
	}
	for range min(64, -max(by, -64)) {
		half := x / 2
		if x < 0 && x%2 != 0 {
			half--
		}
		x = half
	}
	return x
}

// 1.3

// wrongBits are numbers of bits that may not be.
func wrongBits() []int {
	return []int{math.MinInt, -64, -1, 0, 65, 128, 1<<32 + 8, math.MaxInt}
}

func TestExtend(t *testing.T) {
	for _, x := range samples() {
		for bits := 1; bits <= 64; bits++ {
			want := new(big.Int)
			for i := range bits {
				want.SetBit(want, i, uint(bit(x, i)))
			}
			if bit(x, bits-1) == 1 {
				want.Sub(want, new(big.Int).Lsh(big.NewInt(1), uint(bits)))
			}
			if n, err := word.Extend(x, bits); n != want.Int64() || err != api.OK {
				t.Fatalf("Extend(%#x, %d): %d, %d", x, bits, n, err)
			}
		}
		for _, bits := range wrongBits() {
			if n, err := word.Extend(x, bits); n != 0 || err != api.ErrBits {
				t.Errorf("Extend(%#x, %d): %d, %d", x, bits, n, err)
			}
		}
	}
}

func TestExtendAtItsEdges(t *testing.T) {
	for _, c := range []struct {
		x    uint64
		bits int
		want int64
	}{
		{0, 1, 0}, {1, 1, -1}, {2, 1, 0}, {math.MaxUint64, 1, -1},
		{1<<62 - 1, 63, 1<<62 - 1}, {1 << 62, 63, -1 << 62}, {1 << 63, 63, 0}, {1<<63 | 5, 63, 5},
		{1<<63 - 1, 64, math.MaxInt64}, {1 << 63, 64, math.MinInt64}, {math.MaxUint64, 64, -1},
		{127, 8, 127}, {128, 8, -128}, {256, 8, 0}, {0x1ff, 8, -1},
	} {
		if n, err := word.Extend(c.x, c.bits); n != c.want || err != api.OK {
			t.Errorf("Extend(%#x, %d): %d, %d", c.x, c.bits, n, err)
		}
	}
}

func TestNarrowAtTheEndsOfEveryWidth(t *testing.T) {
	for bits := 1; bits <= 64; bits++ {
		greatest := int64(math.MaxInt64) >> (64 - bits)
		least := -greatest - 1
		sign := uint64(1) << (bits - 1)
		for n, want := range map[int64]uint64{greatest: sign - 1, least: sign, 0: 0, -1: sign | (sign - 1)} {
			if got, err := word.Narrow(n, bits); got != want || err != api.OK {
				t.Errorf("Narrow(%d, %d): %#x, %d", n, bits, got, err)
			}
		}
		if bits == 64 {
			continue
		}
		for _, n := range []int64{greatest + 1, least - 1, math.MaxInt64, math.MinInt64} {
			if got, err := word.Narrow(n, bits); got != 0 || err != api.ErrWide {
				t.Errorf("Narrow(%d, %d): %#x, %d", n, bits, got, err)
			}
		}
	}
}

func TestNarrowOfSamples(t *testing.T) {
	for _, sample := range samples() {
		n := int64(sample)
		for bits := 1; bits <= 64; bits++ {
			end := new(big.Int).Lsh(big.NewInt(1), uint(bits-1))
			number := big.NewInt(n)
			fits := number.Cmp(end) < 0 && number.Cmp(new(big.Int).Neg(end)) >= 0
			want, fault := uint64(0), api.ErrWide
			if fits {
				fault = api.OK
				for i := range bits {
					want |= bit(sample, i) << i
				}
			}
			if got, err := word.Narrow(n, bits); got != want || err != fault {
				t.Fatalf("Narrow(%d, %d): %#x, %d", n, bits, got, err)
			}
		}
		for _, bits := range wrongBits() {
			if got, err := word.Narrow(n, bits); got != 0 || err != api.ErrBits {
				t.Errorf("Narrow(%d, %d): %#x, %d", n, bits, got, err)
			}
		}
	}
}

func TestInt(t *testing.T) {
	for _, x := range []uint64{0, 1, 1 << 32, 1<<63 - 2, 1<<63 - 1} {
		if n, err := word.Int(x); n < 0 || uint64(n) != x || err != api.OK {
			t.Error(x, n, err)
		}
	}
	for _, x := range []uint64{1 << 63, 1<<63 + 1, math.MaxUint64 - 1, math.MaxUint64} {
		if n, err := word.Int(x); n != 0 || err != api.ErrWide {
			t.Error(x, n, err)
		}
	}
}

func TestWord(t *testing.T) {
	for _, n := range []int{0, 1, 1 << 31, 1<<32 - 2, 1<<32 - 1} {
		if x, err := word.Word(n); int(x) != n || err != api.OK {
			t.Error(n, x, err)
		}
	}
	for _, n := range []int{-1, -2, 1 << 32, 1<<32 + 1, -1 << 32, 1<<32 + 7, math.MaxInt, math.MinInt} {
		if x, err := word.Word(n); x != 0 || err != api.ErrWide {
			t.Error(n, x, err)
		}
	}
}

// 1.4

func TestOnesHighLow(t *testing.T) {
	for _, x := range samples() {
		ones, high, low := 0, -1, -1
		for i := range 64 {
			if bit(x, i) == 0 {
				continue
			}
			ones++
			high = i
			if low < 0 {
				low = i
			}
		}
		if word.Ones(x) != ones || word.High(x) != high || word.Low(x) != low {
			t.Errorf("%#x: %d ones, the highest %d, the lowest %d", x, word.Ones(x), word.High(x), word.Low(x))
		}
	}
	if word.Ones(0) != 0 || word.High(0) != -1 || word.Low(0) != -1 {
		t.Error("0 has a one")
	}
	if word.Ones(math.MaxUint64) != 64 || word.High(math.MaxUint64) != 63 || word.Low(1<<63) != 63 || word.Low(1) != 0 || word.High(1) != 0 {
		t.Error("an edge of Ones, High or Low")
	}
}

func TestTurned(t *testing.T) {
	for _, x := range samples() {
		b := word.Bytes64(x)
		for bytes := 1; bytes <= 8; bytes++ {
			want, fault := uint64(0), api.OK
			for i := range 8 {
				if i >= bytes && b[i] != 0 {
					fault = api.ErrWide
				}
				if i < bytes {
					want |= uint64(b[i]) << (8 * (bytes - 1 - i))
				}
			}
			if fault != api.OK {
				want = 0
			}
			if got, err := word.Turned(x, bytes); got != want || err != fault {
				t.Errorf("Turned(%#x, %d): %#x, %d", x, bytes, got, err)
			}
		}
		for _, bytes := range []int{math.MinInt, -8, -1, 0, 9, 16, math.MaxInt} {
			if got, err := word.Turned(x, bytes); got != 0 || err != api.ErrBits {
				t.Errorf("Turned(%#x, %d): %#x, %d", x, bytes, got, err)
			}
		}
	}
}

func TestTurnedAtItsEdges(t *testing.T) {
	for _, c := range []struct {
		x     uint64
		bytes int
		want  uint64
		err   api.Errno
	}{
		{255, 1, 255, api.OK}, {256, 1, 0, api.ErrWide}, {0, 1, 0, api.OK},
		{1<<56 - 1, 7, 1<<56 - 1, api.OK}, {1 << 56, 7, 0, api.ErrWide},
		{0x0102030405060708, 8, 0x0807060504030201, api.OK}, {math.MaxUint64, 8, math.MaxUint64, api.OK},
		{math.MaxUint64, 9, 0, api.ErrBits}, {math.MaxUint64, 0, 0, api.ErrBits},
	} {
		if got, err := word.Turned(c.x, c.bytes); got != c.want || err != c.err {
			t.Errorf("Turned(%#x, %d): %#x, %d", c.x, c.bytes, got, err)
		}
	}
}

// 1.5

func TestOver(t *testing.T) {
	numbers := []int{0, 1, 2, 3, 4, 5, 7, 8, 9, 255, 256, 257, 1<<62 - 1, 1 << 62, 1<<62 + 1, math.MaxInt - 1, math.MaxInt}
	for _, n := range numbers {
		for shift := range 63 {
			power := new(big.Int).Lsh(big.NewInt(1), uint(shift))
			over, rest := new(big.Int).DivMod(big.NewInt(int64(n)), power, new(big.Int))
			if rest.Sign() > 0 {
				over.Add(over, big.NewInt(1))
			}
			if got, err := word.Over(n, shift); int64(got) != over.Int64() || err != api.OK {
				t.Errorf("Over(%d, %d): %d, %d", n, shift, got, err)
			}
		}
		for _, shift := range []int{math.MinInt, -62, -1, 63, 64, math.MaxInt} {
			if got, err := word.Over(n, shift); got != 0 || err != api.ErrBits {
				t.Errorf("Over(%d, %d): %d, %d", n, shift, got, err)
			}
		}
	}
}

func TestOverOfTheGreatest(t *testing.T) {
	for shift, want := range map[int]int{0: math.MaxInt, 1: 1 << 62, 61: 4, 62: 2} {
		if got, err := word.Over(math.MaxInt, shift); got != want || err != api.OK {
			t.Errorf("Over(MaxInt, %d): %d, %d", shift, got, err)
		}
	}
}

func TestOverBelowZeroIsNamedFirst(t *testing.T) {
	for _, n := range []int{-1, -5, math.MinInt} {
		for _, shift := range []int{math.MinInt, -1, 0, 62, 63, math.MaxInt} {
			if got, err := word.Over(n, shift); got != 0 || err != api.ErrArg {
				t.Errorf("Over(%d, %d): %d, %d", n, shift, got, err)
			}
		}
	}
}

// wrongFields are places and numbers of bits that are not in a word.
func wrongFields() [][2]int {
	l := [][2]int{
		{-1, 1}, {-1, 64}, {-1, 2}, {0, 0}, {64, 0}, {0, -1}, {5, -4}, {0, 65}, {1, 64}, {64, 1}, {63, 2}, {2, 63}, {-5, 69},
		{math.MaxInt, 1}, {math.MaxInt, 64}, {1, math.MaxInt}, {math.MaxInt, math.MaxInt},
		{math.MinInt, 1}, {1, math.MinInt}, {math.MinInt, math.MinInt}, {math.MinInt, math.MaxInt}, {math.MaxInt, math.MinInt},
	}
	for bits := 1; bits <= 64; bits++ {
		l = append(l, [2]int{65 - bits, bits})
	}
	return l
}

func TestField(t *testing.T) {
	for _, x := range samples() {
		for at := range 64 {
			for bits := 1; at+bits <= 64; bits++ {
				want := uint64(0)
				for i := range bits {
					want |= bit(x, at+i) << i
				}
				if got, err := word.Field(x, at, bits); got != want || err != api.OK {
					t.Fatalf("Field(%#x, %d, %d): %#x, %d", x, at, bits, got, err)
				}
			}
		}
		for _, f := range wrongFields() {
			if got, err := word.Field(x, f[0], f[1]); got != 0 || err != api.ErrBits {
				t.Errorf("Field(%#x, %d, %d): %#x, %d", x, f[0], f[1], got, err)
			}
		}
	}
}

func TestLay(t *testing.T) {
	for _, x := range []uint64{0, math.MaxUint64, 0x0123456789abcdef, 0xaaaaaaaaaaaaaaaa} {
		for at := range 64 {
			for bits := 1; at+bits <= 64; bits++ {
				all := uint64(math.MaxUint64) >> (64 - bits)
				for _, n := range []uint64{0, 1, all, all ^ 1, all & 0x5555555555555555} {
					want := x
					for i := range bits {
						want = want&^(1<<(at+i)) | bit(n, i)<<(at+i)
					}
					if got, err := word.Lay(x, at, bits, n); got != want || err != api.OK {
						t.Fatalf("Lay(%#x, %d, %d, %#x): %#x, %d", x, at, bits, n, got, err)
					}
				}
			}
		}
	}
}

func TestLayOfWrongInputs(t *testing.T) {
	for _, x := range []uint64{0, math.MaxUint64, 0x0123456789abcdef} {
		for at := range 64 {
			for bits := 1; at+bits <= 64 && bits < 64; bits++ {
				for _, n := range []uint64{1 << bits, 1<<bits + 1, math.MaxUint64, 1 << 63} {
					if got, err := word.Lay(x, at, bits, n); got != 0 || err != api.ErrWide {
						t.Fatalf("Lay(%#x, %d, %d, %#x): %#x, %d", x, at, bits, n, got, err)
					}
				}
			}
		}
		for _, f := range wrongFields() {
			for _, n := range []uint64{0, 1, math.MaxUint64} { // a number that is too great: named behind the bits
				if got, err := word.Lay(x, f[0], f[1], n); got != 0 || err != api.ErrBits {
					t.Errorf("Lay(%#x, %d, %d, %#x): %#x, %d", x, f[0], f[1], n, got, err)
				}
			}
		}
	}
}

// 1.6

func TestBytesAndBack(t *testing.T) {
	for _, n := range samples() {
		b := word.Bytes64(n)
		if word.Of64(b) != n {
			t.Errorf("Of64 of Bytes64(%#x): %#x", n, word.Of64(b))
		}
		if got, ok := word.Take64(string(b[:]), 0); got != n || !ok {
			t.Errorf("Take64 of Bytes64(%#x): %#x, %v", n, got, ok)
		}
		if word.Bytes64(word.Of64(b)) != b {
			t.Errorf("Bytes64 of Of64(%v)", b)
		}
		if x := uint32(n); word.Of32(word.Bytes32(x)) != x {
			t.Errorf("Of32 of Bytes32(%#x)", x)
		}
	}
	for n := range 1 << 16 {
		if x := uint16(n); word.Of16(word.Bytes16(x)) != x {
			t.Errorf("Of16 of Bytes16(%#x)", x)
		}
	}
}

func TestTurnAndBack(t *testing.T) {
	for _, sample := range samples() {
		x := uint32(sample ^ sample>>32)
		for _, by := range shifts() {
			if by == math.MinInt { // no int is -by
				continue
			}
			if got := word.Turn(word.Turn(x, by), -by); got != x {
				t.Fatalf("Turn(%#x) by %d and back: %#x", x, by, got)
			}
		}
	}
}

func TestNarrowAndExtendAndBack(t *testing.T) {
	for _, x := range samples() {
		for bits := 1; bits <= 64; bits++ {
			n, err := word.Extend(x, bits)
			if err != api.OK {
				t.Fatal(x, bits, err)
			}
			low, _ := word.Field(x, 0, bits)
			if got, err := word.Narrow(n, bits); got != low || err != api.OK {
				t.Fatalf("Narrow of Extend(%#x, %d): %#x, %d", x, bits, got, err)
			}
			narrow, err := word.Narrow(int64(x), bits)
			if err != api.OK {
				continue
			}
			if got, err := word.Extend(narrow, bits); got != int64(x) || err != api.OK {
				t.Fatalf("Extend of Narrow(%d, %d): %d, %d", int64(x), bits, got, err)
			}
		}
	}
}

func TestTurnedAndBack(t *testing.T) {
	for _, x := range samples() {
		for bytes := 1; bytes <= 8; bytes++ {
			turned, err := word.Turned(x, bytes)
			if err != api.OK {
				continue
			}
			if got, err := word.Turned(turned, bytes); got != x || err != api.OK {
				t.Errorf("Turned(%#x, %d) and back: %#x, %d", x, bytes, got, err)
			}
		}
	}
}

func TestFieldOfLay(t *testing.T) {
	for _, x := range []uint64{0, math.MaxUint64, 0xdeadbeefcafef00d} {
		for at := range 64 {
			for bits := 1; at+bits <= 64; bits++ {
				n := uint64(0x9e3779b97f4a7c15) >> (64 - bits)
				laid, err := word.Lay(x, at, bits, n)
				if err != api.OK {
					t.Fatal(x, at, bits, err)
				}
				if got, err := word.Field(laid, at, bits); got != n || err != api.OK {
					t.Fatalf("Field of Lay(%#x, %d, %d, %#x): %#x, %d", x, at, bits, n, got, err)
				}
				for i := range 64 {
					if (i < at || i >= at+bits) && bit(laid, i) != bit(x, i) {
						t.Fatalf("Lay(%#x, %d, %d, %#x) changed bit %d", x, at, bits, n, i)
					}
				}
			}
		}
	}
}
