package node_test

import (
	"bytes"
	"encoding/hex"
	"math"
	"math/rand"
	"slices"
	"strings"
	"testing"

	"signet/api"
	"signet/digest"
	"signet/node"
)

// each is a reference each byte of which is another one: 1 to 36, in the order of its bytes.
func each() api.Ref {
	r := api.Ref{At: 0x04030201}
	for i := range r.Sum {
		r.Sum[i] = byte(5 + i)
	}
	return r
}

// counted is the bytes 1 to 36.
func counted() string {
	var b strings.Builder
	for i := range 36 {
		b.WriteByte(byte(i + 1))
	}
	return b.String()
}

// greatest is the reference whose bytes are all 255.
func greatest() api.Ref {
	r := api.Ref{At: math.MaxUint32}
	for i := range r.Sum {
		r.Sum[i] = 255
	}
	return r
}

// filled is one byte, 36 times, but for other bytes at a place.
func filled(b byte, at int, other string) string {
	s := strings.Repeat(string([]byte{b}), 36)
	return s[:at] + other + s[at+len(other):]
}

// wrong is references that are not right: a digest of no block.
func wrong() []api.Ref {
	return []api.Ref{
		{Sum: api.Sum{1}},
		{Sum: api.Sum{31: 1}},
		{Sum: api.Sum{15: 128}},
		{Sum: each().Sum},
		{Sum: greatest().Sum},
	}
}

// somewhat is references that are not none, but right.
func somewhat() []api.Ref {
	return []api.Ref{
		{At: 1},
		{At: 256},
		{At: 1 << 31},
		{At: math.MaxUint32},
		{At: 1, Sum: api.Sum{1}},
		{At: 1, Sum: api.Sum{31: 1}},
		{At: 1 << 24, Sum: greatest().Sum},
		each(),
		greatest(),
	}
}

// drawn is a reference by chance, one that is none among them.
func drawn(r *rand.Rand) api.Ref {
	var x api.Ref
	if r.Intn(4) == 0 {
		return x
	}
	x.At = r.Uint32()>>r.Intn(31) | 1
	if r.Intn(4) != 0 {
		r.Read(x.Sum[:])
	}
	return x
}

// 7.1

func TestNone(t *testing.T) {
	if !node.None(api.Ref{}) {
		t.Error("the zero reference is not none")
	}
	for _, r := range slices.Concat(somewhat(), wrong()) {
		if node.None(r) {
			t.Errorf("None(%v)", r)
		}
	}
	for bit := range 32 {
		if node.None(api.Ref{At: 1 << bit}) {
			t.Errorf("with the number %d alone: none", 1<<bit)
		}
	}
	for bit := range 256 {
		var r api.Ref
		r.Sum[bit/8] = 1 << (bit % 8)
		if node.None(r) {
			t.Errorf("with the digest %x alone: none", r.Sum)
		}
	}
}

func TestEncode(t *testing.T) {
	for _, c := range []struct {
		r    api.Ref
		want string
	}{
		{api.Ref{}, filled(0, 0, "")},
		{each(), counted()},
		{greatest(), filled(255, 0, "")},
		{api.Ref{At: 1}, filled(0, 0, "\x01")},
		{api.Ref{At: 0x04030201}, filled(0, 0, "\x01\x02\x03\x04")},
		{api.Ref{At: 1 << 31}, filled(0, 3, "\x80")},
		{api.Ref{At: math.MaxUint32}, filled(0, 0, "\xff\xff\xff\xff")},
		{api.Ref{At: 9, Sum: api.Sum{7}}, filled(0, 0, "\x09\x00\x00\x00\x07")},
		// One that is not right has bytes, too.
		{api.Ref{Sum: api.Sum{1}}, filled(0, 4, "\x01")},
		{api.Ref{Sum: api.Sum{31: 2}}, filled(0, 35, "\x02")},
		{api.Ref{Sum: greatest().Sum}, filled(255, 0, "\x00\x00\x00\x00")},
	} {
		if got := node.Encode(c.r); got != c.want {
			t.Errorf("Encode(%v) = %q, want %q", c.r, got, c.want)
		}
	}
}

// decoded asks which reference stands in a text.
func decoded(t *testing.T, s string, at int, want api.Ref) {
	t.Helper()
	if got, is := node.Decode(s, at); got != want || !is {
		t.Errorf("Decode(%q, %d) = %v, %v; want %v", s, at, got, is, want)
	}
}

// undecoded asks that none stands there.
func undecoded(t *testing.T, s string, at int) {
	t.Helper()
	if got, is := node.Decode(s, at); got != (api.Ref{}) || is {
		t.Errorf("Decode(%q, %d) = %v, %v; want nothing", s, at, got, is)
	}
}

func TestDecode(t *testing.T) {
	decoded(t, filled(0, 0, ""), 0, api.Ref{})
	decoded(t, counted(), 0, each())
	decoded(t, filled(255, 0, ""), 0, greatest())
	decoded(t, filled(0, 0, "\x01"), 0, api.Ref{At: 1})
	decoded(t, filled(0, 1, "\x01"), 0, api.Ref{At: 1 << 8})
	decoded(t, filled(0, 2, "\x01"), 0, api.Ref{At: 1 << 16})
	decoded(t, filled(0, 3, "\x80"), 0, api.Ref{At: 1 << 31})
	decoded(t, filled(0, 0, "\xff\xff\xff\xff"), 0, api.Ref{At: math.MaxUint32})
	decoded(t, filled(0, 3, "\x01\x05"), 0, api.Ref{At: 1 << 24, Sum: api.Sum{5}})
}

// The three parts differ in each byte, so that one place more or less is told.
func TestDecodeAtEachPlace(t *testing.T) {
	long := "ahead" + counted() + "behind"
	decoded(t, long, 5, each())
	for at := -40; at < 80; at++ {
		if at < 0 || at > len(long)-36 {
			undecoded(t, long, at)
			continue
		}
		r, is := node.Decode(long, at)
		if !is || node.Encode(r) != long[at:at+36] {
			t.Errorf("Decode(.., %d) = %v, %v", at, r, is)
		}
	}
}

func TestDecodeBesideTheEnds(t *testing.T) {
	last := "ahead" + counted()
	decoded(t, last, 5, each())
	for _, at := range []int{6, 7, 40, 41, 42, 1000, math.MaxInt - 36, math.MaxInt - 35, math.MaxInt - 3, math.MaxInt, -1, -2, -5, -36, -41, math.MinInt, math.MinInt + 1, math.MinInt + 36} {
		undecoded(t, last, at)
		undecoded(t, strings.Repeat("\x00", 41), at)
	}
}

func TestDecodeOfTooFewBytes(t *testing.T) {
	for many := range 36 {
		for _, at := range []int{math.MinInt, -36, -1, 0, 1, many, many + 1, 36, math.MaxInt - 35, math.MaxInt} {
			undecoded(t, counted()[:many], at)
			undecoded(t, strings.Repeat("\x00", many), at)
		}
	}
	for _, at := range []int{-1, 0, 1} {
		undecoded(t, "", at)
	}
}

// What hangs on no block has no digest; what hangs on a block may have any, zeros too.
func TestDecodeOfWhatIsNotRight(t *testing.T) {
	for at := range 36 {
		for _, b := range []string{"\x01", "\x80", "\xff"} {
			s := filled(0, at, b)
			if at >= 4 {
				undecoded(t, s, 0)
				undecoded(t, "\x01\x01"+s+"\x01", 2)
			} else if r, is := node.Decode(s, 0); !is || r.At == 0 || r.Sum != (api.Sum{}) {
				t.Errorf("Decode(%q, 0) = %v, %v", s, r, is)
			}
		}
	}
	undecoded(t, filled(255, 0, "\x00\x00\x00\x00"), 0)
	undecoded(t, "\x00\x00\x00\x00"+counted()[4:], 0)
	for _, r := range wrong() {
		undecoded(t, node.Encode(r), 0)
	}
}

// 7.3

// Worked out by a program in another language, so that no mistake is made twice here.
func TestSumOfKnownBlocks(t *testing.T) {
	for _, c := range []struct {
		b    api.Block
		want string
	}{
		{api.Block{}, "fdcbdc36b5c1f2f053dbe147c5a1b8473dbe6045a5ac976c76374766d6315d64"},
		{api.Block{97, 98}, "56e2cbef57ba3e16474f2fbeeaf1eaf0bd3e4e7243841cdc2c4678025005cdd5"},
		{api.Block{255: 1}, "462fbfd020a620e0b5b3991de3e5dfa9c874a17c45b700341dea4447317e62e8"},
	} {
		for _, l := range []*digest.Log{nil, digest.NewLog()} {
			x := node.Sum(l, c.b)
			if got := hex.EncodeToString(x[:]); got != c.want {
				t.Errorf("Sum(%v) = %s, want %s", c.b, got, c.want)
			}
		}
	}
}

// wantLogged holds a log against the blocks that it should have, each once and in this order.
func wantLogged(t *testing.T, l *digest.Log, want ...api.Block) {
	t.Helper()
	if l.Len() != len(want) {
		t.Errorf("Len = %d, want %d", l.Len(), len(want))
	}
	for n, b := range want {
		if e, is := l.At(n); e != (api.Entry{Tag: api.TagBlock, Text: string(b[:])}) || !is {
			t.Errorf("At(%d) = %q, %v; want %v", n, e, is, b)
		}
	}
}

func TestSumLogs(t *testing.T) {
	l := digest.NewLog()
	a, b := api.Block{1}, api.Block{255: 2}
	for _, step := range []struct {
		b    api.Block
		want []api.Block
	}{
		{a, []api.Block{a}},
		{a, []api.Block{a}},
		{b, []api.Block{a, b}},
		{a, []api.Block{a, b}},
		{api.Block{}, []api.Block{a, b, {}}},
	} {
		if got, want := node.Sum(l, step.b), digest.Of(api.TagBlock, string(step.b[:])); got != want {
			t.Errorf("Sum(%v) = %x, want %x", step.b, got, want)
		}
		wantLogged(t, l, step.want...)
	}
	node.Sum(nil, api.Block{7})
	wantLogged(t, l, a, b, api.Block{})
}

func TestOf(t *testing.T) {
	l := digest.NewLog()
	b := api.Block{3, 2, 1}
	want := digest.Of(api.TagBlock, string(b[:]))
	for _, at := range []uint32{1, 2, 7, 255, 256, 8191, 8192, 1 << 31, math.MaxUint32} {
		for _, l := range []*digest.Log{nil, l} {
			if r := node.Of(l, at, b); r != (api.Ref{At: at, Sum: want}) {
				t.Errorf("Of(.., %d, ..) = %v", at, r)
			}
		}
		wantLogged(t, l, b)
	}
	if r := node.Of(l, 1, api.Block{}); r.At != 1 || r.Sum != digest.Of(api.TagBlock, strings.Repeat("\x00", 256)) {
		t.Errorf("Of a block of zeros: %v", r)
	}
	wantLogged(t, l, b, api.Block{})
}

// A reference of no block has no digest, so there is nothing to digest either.
func TestOfNoBlock(t *testing.T) {
	l := digest.NewLog()
	for _, b := range []api.Block{{}, {1}, {255: 255}} {
		if r := node.Of(nil, 0, b); r != (api.Ref{}) {
			t.Errorf("Of(nil, 0, %v) = %v", b, r)
		}
		if r := node.Of(l, 0, b); r != (api.Ref{}) {
			t.Errorf("Of(l, 0, %v) = %v", b, r)
		}
	}
	wantLogged(t, l)
}

func TestHolds(t *testing.T) {
	l := digest.NewLog()
	b := api.Block{5, 255: 6}
	r := node.Of(nil, 9, b)
	other := r
	other.Sum[31] ^= 1
	first := r
	first.Sum[0] ^= 128
	for _, c := range []struct {
		r    api.Ref
		b    api.Block
		want bool
	}{
		{r, b, true},
		{api.Ref{At: 10, Sum: r.Sum}, b, true}, // the number says nothing about the bytes
		{api.Ref{At: math.MaxUint32, Sum: r.Sum}, b, true},
		{api.Ref{Sum: r.Sum}, b, true},
		{r, api.Block{5, 255: 7}, false},
		{r, api.Block{4, 255: 6}, false},
		{r, api.Block{}, false},
		{other, b, false},
		{first, b, false},
		{api.Ref{}, b, false},
		{api.Ref{}, api.Block{}, false}, // a block of zeros has a digest, and it is not zero
		{api.Ref{At: 9}, b, false},
	} {
		if got := node.Holds(nil, c.r, c.b); got != c.want {
			t.Errorf("Holds(nil, %v, %v) = %v", c.r, c.b, got)
		}
		if got := node.Holds(l, c.r, c.b); got != c.want {
			t.Errorf("Holds(l, %v, %v) = %v", c.r, c.b, got)
		}
	}
	wantLogged(t, l, b, api.Block{5, 255: 7}, api.Block{4, 255: 6}, api.Block{})
}

// Whether it holds or not, the block was digested, so the log has it.
func TestHoldsLogs(t *testing.T) {
	for _, r := range []api.Ref{{}, {At: 3}, node.Of(nil, 3, api.Block{8}), {Sum: api.Sum{1}}} {
		l := digest.NewLog()
		for range 2 {
			node.Holds(l, r, api.Block{8})
			wantLogged(t, l, api.Block{8})
		}
		node.Holds(l, r, api.Block{9})
		wantLogged(t, l, api.Block{8}, api.Block{9})
	}
}

// rising is references in their order: the number weighs more than the digest, its first byte more than its last.
func rising() []api.Ref {
	return []api.Ref{
		{},
		{Sum: api.Sum{31: 1}},
		{Sum: api.Sum{31: 255}},
		{Sum: api.Sum{30: 1}},
		{Sum: api.Sum{0: 1}},
		{Sum: api.Sum{0: 128}},
		{Sum: greatest().Sum},
		{At: 1},
		{At: 1, Sum: api.Sum{31: 1}},
		{At: 1, Sum: greatest().Sum},
		{At: 2},
		{At: 255, Sum: greatest().Sum},
		{At: 256},
		{At: 1<<24 + 1},
		{At: 2 << 24},
		{At: 1<<31 - 1, Sum: greatest().Sum},
		{At: 1 << 31},
		{At: math.MaxUint32},
		{At: math.MaxUint32, Sum: api.Sum{1}},
		greatest(),
	}
}

func TestCompare(t *testing.T) {
	for i, a := range rising() {
		for j, b := range rising() {
			want := 0
			if i < j {
				want = -1
			} else if i > j {
				want = 1
			}
			if got := node.Compare(a, b); got != want {
				t.Errorf("Compare(%v, %v) = %d, want %d", a, b, got, want)
			}
		}
	}
}

func TestUnlike(t *testing.T) {
	r := rising()
	for _, c := range []struct{ l, want []api.Ref }{
		{nil, nil},
		{[]api.Ref{}, nil},
		{r[:1], r[:1]},
		{[]api.Ref{{}, {}}, r[:1]},
		{[]api.Ref{r[3]}, []api.Ref{r[3]}},
		{[]api.Ref{r[9], r[9], r[9]}, []api.Ref{r[9]}},
		{[]api.Ref{r[1], r[2]}, []api.Ref{r[1], r[2]}},
		{[]api.Ref{r[2], r[1]}, []api.Ref{r[1], r[2]}},
		{[]api.Ref{r[8], r[7], r[8]}, []api.Ref{r[7], r[8]}},
		{[]api.Ref{r[5], r[19], r[5], r[0], r[19], r[10]}, []api.Ref{r[0], r[5], r[10], r[19]}},
		{r, r},
		{reversed(r), r},
		{slices.Concat(r, r), r},
		{slices.Concat(reversed(r), r, reversed(r)), r},
	} {
		for range 5 { // no order of a map is to be seen
			if got := node.Unlike(c.l); !slices.Equal(got, c.want) {
				t.Errorf("Unlike(%v) = %v, want %v", c.l, got, c.want)
			}
		}
	}
}

func reversed(l []api.Ref) []api.Ref {
	l = slices.Clone(l)
	slices.Reverse(l)
	return l
}

// Held against a list into which each is laid at its place, if it is not there.
func TestUnlikeOfMany(t *testing.T) {
	r := rand.New(rand.NewSource(7))
	for range 200 {
		var l, want []api.Ref
		for range r.Intn(60) {
			x := drawn(r)
			if len(l) > 0 && r.Intn(3) == 0 {
				x = l[r.Intn(len(l))]
			}
			l = append(l, x)
			want = placed(want, x)
		}
		if got := node.Unlike(l); !slices.Equal(got, want) {
			t.Errorf("Unlike(%v) = %v, want %v", l, got, want)
		}
	}
}

func placed(l []api.Ref, x api.Ref) []api.Ref {
	for i, y := range l {
		if x == y {
			return l
		}
		if x.At < y.At || x.At == y.At && bytes.Compare(x.Sum[:], y.Sum[:]) < 0 {
			return slices.Insert(l, i, x)
		}
	}
	return append(l, x)
}

// R4
func TestUnlikeKeepsWhatItIsGiven(t *testing.T) {
	r := rising()
	full := []api.Ref{r[9], r[3], r[9], r[0], r[12], r[1]}
	held := slices.Clone(full)
	l := full[:4]
	got := node.Unlike(l)
	if !slices.Equal(full, held) {
		t.Errorf("it became %v", full)
	}
	want := []api.Ref{r[0], r[3], r[9]}
	second := node.Unlike(l)
	for i := range full {
		full[i] = r[15]
	}
	if !slices.Equal(got, want) {
		t.Errorf("the answer hangs on what was handed in: %v", got)
	}
	got = got[:cap(got)]
	for i := range got {
		got[i] = r[16]
	}
	if !slices.Equal(second, want) || !slices.Equal(full, []api.Ref{r[15], r[15], r[15], r[15], r[15], r[15]}) {
		t.Errorf("an answer hangs on another one: %v, %v", second, full)
	}
	// In order already and each once: new memory all the same.
	whole := slices.Clone(r)
	answer := node.Unlike(whole)
	answer[0] = greatest()
	if !slices.Equal(whole, r) {
		t.Errorf("it became %v", whole)
	}
}

// 7.4

func TestDecodeOfEncode(t *testing.T) {
	r := rand.New(rand.NewSource(8))
	l := append(somewhat(), api.Ref{})
	for range 300 {
		l = append(l, drawn(r))
	}
	for _, x := range l {
		s := node.Encode(x)
		if len(s) != 36 {
			t.Errorf("%d bytes of %v", len(s), x)
		}
		decoded(t, s, 0, x)
		decoded(t, "ab"+s+"c", 2, x)
	}
}

func TestHoldsOfOf(t *testing.T) {
	r := rand.New(rand.NewSource(9))
	l := digest.NewLog()
	for range 100 {
		var b api.Block
		r.Read(b[:])
		at := r.Uint32() | 1
		if !node.Holds(l, node.Of(l, at, b), b) || !node.Holds(nil, node.Of(nil, at, b), b) {
			t.Errorf("at %d: %v", at, b)
		}
		c := b
		c[r.Intn(256)] ^= 1 << r.Intn(8)
		if node.Holds(l, node.Of(l, at, b), c) {
			t.Errorf("%v holds for %v", c, b)
		}
	}
	if _, _, is := l.Collision(); is {
		t.Error("a collision")
	}
}
