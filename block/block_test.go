package block_test

import (
	"encoding/binary"
	"encoding/hex"
	"math"
	"math/rand"
	"slices"
	"strings"
	"testing"

	"signet/api"
	"signet/block"
	"signet/digest"
)

// places are those beside which something fits or does not, and the ends of an int.
var places = []int{math.MinInt, math.MinInt + 1, -257, -256, -255, -2, -1, 0, 1, 2, 127, 128, 247, 248, 249, 251, 252, 253, 254, 255, 256, 257, 258, 511, 512, math.MaxInt - 256, math.MaxInt - 255, math.MaxInt - 1, math.MaxInt}

// stepped is the block of the bytes from a first one on, each the step more than the one ahead.
func stepped(first, step byte) api.Block {
	var b api.Block
	for i := range b {
		b[i] = first
		first += step
	}
	return b
}

// some is blocks of each kind of bytes.
func some() []api.Block {
	l := []api.Block{{}, stepped(255, 0), stepped(0, 1), stepped(255, 255), stepped(3, 7), {0: 1}, {255: 1}, {0: 255}, {255: 255}, {97, 0, 98}, {128: 128}}
	r := rand.New(rand.NewSource(4))
	for range 10 {
		var b api.Block
		r.Read(b[:])
		l = append(l, b)
	}
	return l
}

// text is so many bytes, 0 and 255 among them.
func text(many int) string {
	b := make([]byte, many)
	for i := range b {
		b[i] = byte(255 + i)
	}
	return string(b)
}

// filled is the block of a text of at most 256 bytes.
func filled(s string) api.Block {
	return api.Block(slices.Concat([]byte(s), make([]byte, 256-len(s))))
}

// 4.1

func TestOf(t *testing.T) {
	for _, n := range []int{0, 1, 2, 3, 127, 128, 254, 255, 256} {
		for _, s := range []string{text(n), strings.Repeat("\x00", n), strings.Repeat("\xff", n), strings.Repeat("a", n)} {
			b, err := block.Of(s)
			if b != filled(s) || err != api.OK {
				t.Errorf("Of(%q) = %v, %d", s, b, err)
			}
		}
	}
}

func TestOfTooManyBytes(t *testing.T) {
	for _, n := range []int{257, 258, 511, 512, 513, 65536, 65537} {
		for _, s := range []string{text(n), strings.Repeat("\x00", n)} {
			if b, err := block.Of(s); b != (api.Block{}) || err != api.ErrBytes {
				t.Errorf("Of %d bytes: %v, %d", n, b, err)
			}
		}
	}
}

func TestText(t *testing.T) {
	for _, b := range some() {
		s := block.Text(b)
		if len(s) != 256 || !slices.Equal([]byte(s), b[:]) {
			t.Errorf("Text(%v) = %q", b, s)
		}
		if c, err := block.Of(s); c != b || err != api.OK {
			t.Errorf("%v became %v, %d", b, c, err)
		}
	}
}

func TestZero(t *testing.T) {
	if !block.Zero(api.Block{}) {
		t.Error("zeros are not zero")
	}
	for bit := range 8 * 256 {
		var b api.Block
		b[bit/8] = 1 << (bit % 8)
		if block.Zero(b) {
			t.Errorf("a block with %d at %d is zero", b[bit/8], bit/8)
		}
	}
	if block.Zero(stepped(255, 0)) || block.Zero(api.Block{0: 255}) || block.Zero(api.Block{255: 255}) {
		t.Error("a block that is not 0 is zero")
	}
}

// Worked out by a program in another language, so that no mistake is made twice here.
func TestSumOfKnownBlocks(t *testing.T) {
	for _, c := range []struct {
		b    api.Block
		want string
	}{
		{api.Block{}, "fdcbdc36b5c1f2f053dbe147c5a1b8473dbe6045a5ac976c76374766d6315d64"},
		{stepped(255, 0), "7acdf294b034064c0006b0b173a7eaadf462754d01b4aeda7f69774e60d8d267"},
		{stepped(0, 1), "7b1fb42fb1d73dc206265962e8f5837ab809d9b886f11fcc18050fb4798e6041"},
		{api.Block{97, 98}, "56e2cbef57ba3e16474f2fbeeaf1eaf0bd3e4e7243841cdc2c4678025005cdd5"},
		{api.Block{255: 1}, "462fbfd020a620e0b5b3991de3e5dfa9c874a17c45b700341dea4447317e62e8"},
	} {
		x := block.Sum(c.b)
		if got := hex.EncodeToString(x[:]); got != c.want {
			t.Errorf("Sum(%v) = %s, want %s", c.b, got, c.want)
		}
	}
}

func TestSum(t *testing.T) {
	seen := map[api.Sum]api.Block{}
	for _, b := range some() {
		x := block.Sum(b)
		if want := digest.Of(1, string(b[:])); x != want {
			t.Errorf("Sum(%v) = %x, want %x", b, x, want)
		}
		if other, is := seen[x]; is {
			t.Errorf("%v and %v have one digest", other, b)
		}
		seen[x] = b
	}
}

// wantLogged holds a log against the blocks that it should have, each once and in this order.
func wantLogged(t *testing.T, l *digest.Log, want ...api.Block) {
	t.Helper()
	if l.Len() != len(want) {
		t.Errorf("Len = %d, want %d", l.Len(), len(want))
	}
	for n, b := range want {
		if e, is := l.At(n); e != (api.Entry{Tag: 1, Text: string(b[:])}) || !is {
			t.Errorf("At(%d) = %q, %v; want %v", n, e, is, b)
		}
	}
}

func TestLogged(t *testing.T) {
	l := digest.NewLog()
	a, b := stepped(0, 1), api.Block{}
	for _, step := range []struct {
		b    api.Block
		want []api.Block
	}{
		{a, []api.Block{a}},
		{a, []api.Block{a}},
		{b, []api.Block{a, b}},
		{a, []api.Block{a, b}},
		{b, []api.Block{a, b}},
	} {
		if x := block.Logged(l, step.b); x != block.Sum(step.b) {
			t.Errorf("Logged(%v) = %x", step.b, x)
		}
		wantLogged(t, l, step.want...)
	}
	block.Sum(api.Block{7})
	wantLogged(t, l, a, b)
}

func TestLoggedBesideOtherEntries(t *testing.T) {
	l := digest.NewLog()
	b := api.Block{1}
	l.Of(api.TagProof, block.Text(b))
	l.Of(api.TagBlock, "\x01")
	if x := block.Logged(l, b); x != block.Sum(b) || l.Len() != 3 || !l.Has(api.TagBlock, block.Text(b)) {
		t.Errorf("%x, %d entries", x, l.Len())
	}
	l.Of(api.TagBlock, block.Text(b))
	if l.Len() != 3 {
		t.Errorf("%d entries", l.Len())
	}
}

func TestLoggedOfNoLog(t *testing.T) {
	for range 2 {
		for _, b := range some() {
			if x := block.Logged(nil, b); x != block.Sum(b) {
				t.Errorf("Logged(nil, %v) = %x", b, x)
			}
		}
	}
}

// 4.2

// fits tells whether a block has so many bytes from a place on, in the manner of one who counts them.
func fits(at, many int) bool {
	return at >= 0 && at <= 256 && many >= 0 && many <= 256 && at+many <= 256
}

func TestLay(t *testing.T) {
	for _, b := range some()[:6] {
		for _, at := range places {
			for _, n := range []int{0, 1, 2, 3, 4, 5, 8, 9, 127, 128, 129, 254, 255, 256, 257, 512} {
				wantLaid(t, b, at, text(n))
			}
		}
	}
}

// wantLaid holds Lay against bytes that are laid one by one.
func wantLaid(t *testing.T, b api.Block, at int, s string) {
	t.Helper()
	got, err := block.Lay(b, at, s)
	if !fits(at, len(s)) {
		if got != (api.Block{}) || err != api.ErrBytes {
			t.Errorf("Lay(.., %d, %d bytes) = %v, %d; want ErrBytes", at, len(s), got, err)
		}
		return
	}
	want := b
	for i := range len(s) {
		want[at+i] = s[i]
	}
	if got != want || err != api.OK {
		t.Errorf("Lay(%v, %d, %q) = %v, %d", b, at, s, got, err)
	}
}

// With just as many as fit, and with one more, from each place on.
func TestLayToTheEnd(t *testing.T) {
	for at := range 257 {
		wantLaid(t, stepped(9, 5), at, text(256-at))
		wantLaid(t, stepped(9, 5), at, text(257-at))
		wantLaid(t, stepped(9, 5), at, "")
	}
}

// wantTaken holds Take against bytes that are taken one by one.
func wantTaken(t *testing.T, b api.Block, at, n int) {
	t.Helper()
	got, err := block.Take(b, at, n)
	if !fits(at, n) {
		if got != "" || err != api.ErrBytes {
			t.Errorf("Take(.., %d, %d) = %q, %d; want ErrBytes", at, n, got, err)
		}
		return
	}
	var want []byte
	for i := range n {
		want = append(want, b[at+i])
	}
	if got != string(want) || err != api.OK {
		t.Errorf("Take(%v, %d, %d) = %q, %d", b, at, n, got, err)
	}
}

func TestTake(t *testing.T) {
	for _, b := range some()[:6] {
		for _, at := range places {
			for _, n := range places {
				wantTaken(t, b, at, n)
			}
		}
	}
	for at := range 258 {
		for n := range 259 {
			wantTaken(t, stepped(11, 3), at, n)
		}
	}
}

func TestTakeNamedEdges(t *testing.T) {
	b := stepped(0, 1)
	for _, c := range []struct {
		at, n int
		want  string
		err   api.Errno
	}{
		{0, 0, "", api.OK},
		{0, 1, "\x00", api.OK},
		{0, 256, block.Text(b), api.OK},
		{0, 257, "", api.ErrBytes},
		{1, 255, block.Text(b)[1:], api.OK},
		{1, 256, "", api.ErrBytes},
		{255, 0, "", api.OK},
		{255, 1, "\xff", api.OK},
		{255, 2, "", api.ErrBytes},
		{256, 0, "", api.OK},
		{256, 1, "", api.ErrBytes},
		{257, 0, "", api.ErrBytes},
		{257, -1, "", api.ErrBytes},
		{256, -1, "", api.ErrBytes},
		{0, -1, "", api.ErrBytes},
		{1, -1, "", api.ErrBytes},
		{-1, 0, "", api.ErrBytes},
		{-1, 1, "", api.ErrBytes},
		{-1, 2, "", api.ErrBytes},
		{math.MinInt, math.MinInt, "", api.ErrBytes},
		{math.MinInt, math.MaxInt, "", api.ErrBytes},
		{math.MaxInt, math.MinInt, "", api.ErrBytes},
		{math.MaxInt, math.MaxInt, "", api.ErrBytes},
		{math.MaxInt, 1, "", api.ErrBytes},
		{1, math.MaxInt, "", api.ErrBytes},
		{0, math.MinInt, "", api.ErrBytes},
	} {
		if s, err := block.Take(b, c.at, c.n); s != c.want || err != c.err {
			t.Errorf("Take(.., %d, %d) = %q, %d; want %q, %d", c.at, c.n, s, err, c.want, c.err)
		}
	}
}

func TestNumbersOf4Bytes(t *testing.T) {
	for _, at := range places {
		for _, n := range []uint32{0, 1, 255, 256, 0x01020304, 1 << 31, math.MaxUint32} {
			bytes := binary.LittleEndian.AppendUint32(nil, n)
			for _, b := range some()[:4] {
				laid, err := block.Lay32(b, at, n)
				taken, errTaken := block.Take32(laid, at)
				if at < 0 || at > 252 {
					if laid != (api.Block{}) || err != api.ErrBytes || taken != 0 || errTaken != api.ErrBytes {
						t.Errorf("at %d: %v, %d; %d, %d", at, laid, err, taken, errTaken)
					}
					continue
				}
				want := b
				copy(want[at:], bytes)
				if laid != want || err != api.OK || taken != n || errTaken != api.OK {
					t.Errorf("%d at %d: %v, %d; %d, %d", n, at, laid, err, taken, errTaken)
				}
			}
		}
	}
}

func TestNumbersOf8Bytes(t *testing.T) {
	for _, at := range places {
		for _, n := range []uint64{0, 1, 255, 256, 0x0102030405060708, math.MaxUint32, 1 << 32, 1 << 63, math.MaxUint64} {
			bytes := binary.LittleEndian.AppendUint64(nil, n)
			for _, b := range some()[:4] {
				laid, err := block.Lay64(b, at, n)
				taken, errTaken := block.Take64(laid, at)
				if at < 0 || at > 248 {
					if laid != (api.Block{}) || err != api.ErrBytes || taken != 0 || errTaken != api.ErrBytes {
						t.Errorf("at %d: %v, %d; %d, %d", at, laid, err, taken, errTaken)
					}
					continue
				}
				want := b
				copy(want[at:], bytes)
				if laid != want || err != api.OK || taken != n || errTaken != api.OK {
					t.Errorf("%d at %d: %v, %d; %d, %d", n, at, laid, err, taken, errTaken)
				}
			}
		}
	}
}

// The numbers are those that the bytes say, whoever laid them; and where they do not fit, what stands there tells nothing.
func TestNumbersOfBytes(t *testing.T) {
	for _, b := range some() {
		for at := -9; at < 266; at++ {
			n, err := block.Take32(b, at)
			if at < 0 || at > 252 {
				if n != 0 || err != api.ErrBytes {
					t.Errorf("Take32(.., %d) = %d, %d", at, n, err)
				}
			} else if n != binary.LittleEndian.Uint32(b[at:]) || err != api.OK {
				t.Errorf("Take32(%v, %d) = %d, %d", b, at, n, err)
			}
			m, err := block.Take64(b, at)
			if at < 0 || at > 248 {
				if m != 0 || err != api.ErrBytes {
					t.Errorf("Take64(.., %d) = %d, %d", at, m, err)
				}
			} else if m != binary.LittleEndian.Uint64(b[at:]) || err != api.OK {
				t.Errorf("Take64(%v, %d) = %d, %d", b, at, m, err)
			}
		}
	}
}

// 4.3

func TestCut(t *testing.T) {
	for _, c := range []struct{ bytes, blocks int }{
		{0, 0}, {1, 1}, {2, 1}, {255, 1}, {256, 1}, {257, 2}, {511, 2}, {512, 2}, {513, 3}, {5000, 20}, {1048576, 4096},
	} {
		for _, s := range []string{text(c.bytes), strings.Repeat("\x00", c.bytes), strings.Repeat("\xff", c.bytes)} {
			l := block.Cut(s)
			if len(l) != c.blocks {
				t.Errorf("Cut of %d bytes: %d blocks", c.bytes, len(l))
				continue
			}
			for i, b := range l {
				if want := filled(s[256*i : min(256*i+256, len(s))]); b != want {
					t.Errorf("Cut of %d bytes, block %d: %v, want %v", c.bytes, i, b, want)
				}
			}
		}
	}
}

func TestJoin(t *testing.T) {
	for _, many := range []int{0, 1, 2, 3, 7} {
		l := some()[:many]
		var all []byte
		for _, b := range l {
			all = append(all, b[:]...)
		}
		for n := -3; n < len(all)+300; n++ {
			s, err := block.Join(l, n)
			if n < 0 || n > len(all) {
				if s != "" || err != api.ErrArg {
					t.Errorf("Join of %d blocks, %d: %q, %d", many, n, s, err)
				}
			} else if s != string(all[:n]) || err != api.OK {
				t.Errorf("Join of %d blocks, %d: %q, %d", many, n, s, err)
			}
		}
		for _, n := range []int{math.MinInt, math.MinInt + 1, math.MaxInt - 1, math.MaxInt} {
			if s, err := block.Join(l, n); s != "" || err != api.ErrArg {
				t.Errorf("Join of %d blocks, %d: %q, %d", many, n, s, err)
			}
		}
	}
}

func TestJoinNamedEdges(t *testing.T) {
	two := []api.Block{stepped(0, 1), stepped(255, 255)}
	whole := block.Text(two[0]) + block.Text(two[1])
	for _, c := range []struct {
		l    []api.Block
		n    int
		want string
		err  api.Errno
	}{
		{nil, -1, "", api.ErrArg},
		{nil, 0, "", api.OK},
		{nil, 1, "", api.ErrArg},
		{[]api.Block{}, 0, "", api.OK},
		{[]api.Block{}, 1, "", api.ErrArg},
		{two, -1, "", api.ErrArg},
		{two, 0, "", api.OK},
		{two, 1, whole[:1], api.OK},
		{two, 100, whole[:100], api.OK},
		{two, 255, whole[:255], api.OK},
		{two, 256, whole[:256], api.OK},
		{two, 257, whole[:257], api.OK},
		{two, 300, whole[:300], api.OK},
		{two, 511, whole[:511], api.OK},
		{two, 512, whole, api.OK},
		{two, 513, "", api.ErrArg},
	} {
		if s, err := block.Join(c.l, c.n); s != c.want || err != c.err {
			t.Errorf("Join of %d blocks, %d: %q, %d", len(c.l), c.n, s, err)
		}
	}
}

// 4.4

func TestDiffer(t *testing.T) {
	inverse := stepped(0, 1)
	for i := range inverse {
		inverse[i] ^= 255
	}
	for _, c := range []struct {
		a, b        api.Block
		first, many int
	}{
		{api.Block{}, api.Block{}, -1, 0},
		{stepped(7, 3), stepped(7, 3), -1, 0},
		{api.Block{}, api.Block{0: 1}, 0, 1},
		{api.Block{}, api.Block{0: 128}, 0, 1},
		{api.Block{}, api.Block{255: 1}, 255, 1},
		{api.Block{}, api.Block{255: 255}, 255, 1},
		{api.Block{}, api.Block{0: 1, 255: 1}, 0, 2},
		{api.Block{}, api.Block{7: 1, 8: 1, 100: 9}, 7, 3},
		{api.Block{}, stepped(255, 0), 0, 256},
		{stepped(0, 1), inverse, 0, 256},
		{api.Block{}, stepped(0, 1), 1, 255},
		{stepped(0, 1), stepped(0, 2), 1, 255},
	} {
		if first, many := block.Differ(c.a, c.b); first != c.first || many != c.many {
			t.Errorf("Differ(%v, %v) = %d, %d; want %d, %d", c.a, c.b, first, many, c.first, c.many)
		}
		if first, many := block.Differ(c.b, c.a); first != c.first || many != c.many {
			t.Errorf("Differ(%v, %v) = %d, %d; want %d, %d", c.b, c.a, first, many, c.first, c.many)
		}
	}
}

func TestDifferAtEachPlace(t *testing.T) {
	for at := range 256 {
		b := stepped(1, 9)
		b[at] ^= 64
		if first, many := block.Differ(stepped(1, 9), b); first != at || many != 1 {
			t.Errorf("at %d: %d, %d", at, first, many)
		}
		for i := at; i < 256; i++ {
			b[i] = stepped(2, 9)[i]
		}
		if first, many := block.Differ(stepped(1, 9), b); first != at || many != 256-at {
			t.Errorf("from %d on: %d, %d", at, first, many)
		}
	}
}

// blocks is blocks that are unlike in their last byte alone, so that all of a block is held against another.
func blocks(last ...byte) []api.Block {
	var l []api.Block
	for _, x := range last {
		l = append(l, api.Block{0: 5, 255: x})
	}
	return l
}

func same(a, b [][]int) bool {
	return slices.EqualFunc(a, b, func(x, y []int) bool { return slices.Equal(x, y) })
}

func TestGroups(t *testing.T) {
	for _, c := range []struct {
		last []byte
		want [][]int
	}{
		{nil, nil},
		{[]byte{0}, [][]int{{0}}},
		{[]byte{0, 0}, [][]int{{0, 1}}},
		{[]byte{9, 9, 9, 9, 9}, [][]int{{0, 1, 2, 3, 4}}},
		{[]byte{0, 1}, [][]int{{0}, {1}}},
		{[]byte{1, 0}, [][]int{{0}, {1}}},
		{[]byte{4, 3, 2, 1, 0}, [][]int{{0}, {1}, {2}, {3}, {4}}},
		{[]byte{1, 2, 1, 2}, [][]int{{0, 2}, {1, 3}}},
		{[]byte{2, 1, 1, 2}, [][]int{{0, 3}, {1, 2}}},
		{[]byte{3, 1, 2, 1, 3, 2, 0, 3}, [][]int{{0, 4, 7}, {1, 3}, {2, 5}, {6}}},
	} {
		for range 5 { // no order of a map is to be seen
			if got := block.Groups(blocks(c.last...)); !same(got, c.want) {
				t.Errorf("Groups of %v = %v, want %v", c.last, got, c.want)
			}
		}
	}
	if got := block.Groups([]api.Block{}); len(got) != 0 {
		t.Error(got)
	}
}

func TestGroupsOfMany(t *testing.T) {
	r := rand.New(rand.NewSource(5))
	for range 20 {
		last := make([]byte, 200)
		for i := range last {
			last[i] = byte(r.Intn(30))
		}
		var want [][]int
		for i, x := range last {
			if slices.Contains(last[:i], x) {
				continue
			}
			var group []int
			for j, y := range last {
				if x == y {
					group = append(group, j)
				}
			}
			want = append(want, group)
		}
		if got := block.Groups(blocks(last...)); !same(got, want) {
			t.Errorf("Groups of %v = %v, want %v", last, got, want)
		}
	}
}

// Unlike in one bit of any place is unlike.
func TestGroupsOfBlocksThatAreNear(t *testing.T) {
	l := []api.Block{{}}
	for at := range 256 {
		var b api.Block
		b[at] = 1
		l = append(l, b)
	}
	got := block.Groups(append(l, l...))
	if len(got) != 257 {
		t.Fatal(len(got))
	}
	for n, group := range got {
		if !slices.Equal(group, []int{n, n + 257}) {
			t.Errorf("group %d: %v", n, group)
		}
	}
}

// 4.5

func TestJoinOfCut(t *testing.T) {
	for _, n := range []int{0, 1, 2, 254, 255, 256, 257, 258, 511, 512, 513, 767, 768, 769, 5000} {
		for _, s := range []string{text(n), strings.Repeat("\x00", n), strings.Repeat("b", n)} {
			if got, err := block.Join(block.Cut(s), len(s)); got != s || err != api.OK {
				t.Errorf("%q became %q, %d", s, got, err)
			}
		}
	}
}

func TestTakeBehindLay(t *testing.T) {
	for at := range 257 {
		for _, n := range []int{0, 1, 2, 31, 128, 255, 256} {
			if at+n > 256 {
				continue
			}
			s := text(n)
			for _, b := range some()[:5] {
				laid, err := block.Lay(b, at, s)
				taken, errTaken := block.Take(laid, at, n)
				if taken != s || err != api.OK || errTaken != api.OK {
					t.Errorf("%q at %d became %q, %d, %d", s, at, taken, err, errTaken)
				}
			}
		}
	}
}

func TestSameBlocksHaveOneDigest(t *testing.T) {
	l := digest.NewLog()
	for _, b := range some() {
		made, _ := block.Of(block.Text(b))
		cut := block.Cut(block.Text(b))[0]
		if block.Sum(made) != block.Sum(b) || block.Sum(cut) != block.Sum(b) || block.Logged(l, b) != block.Sum(b) || block.Logged(l, made) != block.Sum(b) {
			t.Errorf("%v has several digests", b)
		}
	}
}

// What holds everywhere: R4.

// roomy is a list with blocks in the spare room behind its end.
func roomy(l []api.Block) []api.Block {
	return slices.Concat(l, []api.Block{stepped(1, 1), stepped(2, 2), stepped(3, 3)})[:len(l)]
}

func TestListsHandedInStay(t *testing.T) {
	l := roomy(append(some(), some()...))
	before := slices.Clone(l[:cap(l)])
	for range 2 {
		block.Join(l, 700)
		block.Join(l, 256*len(l))
		block.Join(l, -1)
		block.Groups(l)
		block.Near(l, stepped(5, 5))
		block.Near(l, l[3])
	}
	if !slices.Equal(l[:cap(l)], before) {
		t.Error("a list that was handed in is changed")
	}
}

func TestListsHandedOutAreNew(t *testing.T) {
	l := blocks(1, 2, 1, 2, 3, 1)
	want := block.Groups(l)
	got := block.Groups(l)
	for n := range got {
		spoil := append(got[n], -1, -1, -1, -1, -1, -1, -1, -1)
		for i := range spoil {
			spoil[i] = -1
		}
		group := got[n][:cap(got[n])]
		for i := range group {
			group[i] = -2
		}
		for m := n + 1; m < len(got); m++ {
			if !slices.Equal(got[m], want[m]) {
				t.Errorf("group %d shares memory with group %d", m, n)
			}
		}
	}
	if again := block.Groups(l); !same(again, want) {
		t.Errorf("%v, then %v", want, again)
	}
	cut := block.Cut(text(600))
	for i := range cut {
		cut[i] = api.Block{}
	}
	if again := block.Cut(text(600)); len(again) != 3 || again[0] != filled(text(256)) {
		t.Error("Cut hands out what it kept")
	}
}
