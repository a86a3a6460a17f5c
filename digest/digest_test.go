package digest_test

import (
	"encoding/binary"
	"encoding/hex"
	"math/bits"
	"math/rand"
	"slices"
	"strings"
	"testing"

	"signet/api"
	"signet/digest"
)

// lengths are those beside which a text takes another piece, or ends with one.
var lengths = []int{0, 1, 22, 23, 24, 25, 31, 32, 33, 54, 55, 56, 57, 63, 64, 65, 87, 88, 255, 256, 257, 1000}

var tags = []byte{0, 1, 2, 127, 128, 255}

// counted is a text of so many bytes: 0, 1 .. 250, 0, 1 ..
func counted(many int) string {
	b := make([]byte, many)
	for i := range b {
		b[i] = byte(i % 251)
	}
	return string(b)
}

// texts are some of each length, of each kind of bytes.
func texts() []string {
	l := []string{"\x80", "\x00", "\xff", "\x00\x80\xff", "a\x80", "a\x80\x00", "äöü€"}
	r := rand.New(rand.NewSource(3))
	for _, n := range lengths {
		b := make([]byte, n)
		r.Read(b)
		l = append(l, counted(n), strings.Repeat("\x00", n), strings.Repeat("\x80", n), strings.Repeat("\xff", n), string(b))
	}
	return l
}

// The chapter's words once more, in another form: the whole text padded at once, the rounds written out.

var quarters = [][4]int{
	{0, 4, 8, 12}, {1, 5, 9, 13}, {2, 6, 10, 14}, {3, 7, 11, 15},
	{0, 5, 10, 15}, {1, 6, 11, 12}, {2, 7, 8, 13}, {3, 4, 9, 14},
}

func sixRounds(s [16]uint32) [16]uint32 {
	for range 3 {
		for _, q := range quarters {
			a, b, c, d := &s[q[0]], &s[q[1]], &s[q[2]], &s[q[3]]
			*a += *b
			*d = bits.RotateLeft32(*d^*a, 16)
			*c += *d
			*b = bits.RotateLeft32(*b^*c, 12)
			*a += *b
			*d = bits.RotateLeft32(*d^*a, 8)
			*c += *d
			*b = bits.RotateLeft32(*b^*c, 7)
		}
	}
	return s
}

// whole is a text with all that stands behind it.
func whole(s string) []byte {
	zeros := 0
	for (len(s)+1+zeros+8)%32 != 0 {
		zeros++
	}
	b := slices.Concat([]byte(s), []byte{128}, make([]byte, zeros))
	return binary.LittleEndian.AppendUint64(b, uint64(len(s)))
}

func asTold(tag byte, s string) api.Sum {
	var h [8]uint32
	for i := range h {
		h[i] = uint32(uint64(0x9e3779b9)*uint64(i+1)%(1<<32)) ^ uint32(tag)<<24
	}
	for p := range slices.Chunk(whole(s), 32) {
		var t [16]uint32
		copy(t[:], h[:])
		for i := range 8 {
			t[8+i] = binary.LittleEndian.Uint32(p[4*i:])
		}
		t = sixRounds(t)
		for i := range h {
			h[i] ^= t[i] ^ t[8+i]
		}
	}
	var x api.Sum
	for i := range h {
		binary.LittleEndian.PutUint32(x[4*i:], h[i])
	}
	return x
}

// 3.1

func TestOfIsTheDigest(t *testing.T) {
	for _, tag := range tags {
		for _, s := range texts() {
			if got, want := digest.Of(tag, s), asTold(tag, s); got != want {
				t.Errorf("Of(%d, %q) = %x, want %x", tag, s, got, want)
			}
		}
	}
}

// Worked out by a program in another language, so that no mistake is made twice here.
func TestOfKnownTexts(t *testing.T) {
	for _, c := range []struct {
		tag  byte
		text string
		want string
	}{
		{0, "", "f2f5542e19017a76a68fd181aa63e4248f78c2b7efba33bf66e55c66fb484d35"},
		{1, "", "3d2a191060e85814cb8d3980b4f7b26d3ffbd58934c6c65c716ce25e2179dbdf"},
		{2, "", "31f091699a74a8dc1b2d180b255a2389fd7c4c92d7231e37bd5847b408a2aa95"},
		{255, "", "6391c5a469fd94323034ef06e31668c51806590db733953514faaea6683b7595"},
		{1, "a", "83846fcd14b23c736eefec951397cb5733a34b5103d28395d89b1200df19aa49"},
		{2, "a", "600da7388b973783b1c17a716c380d3de184f70e4b477b18b7edaad058150cf5"},
		{1, "abc", "bdbf50a2c29e2a120d20576e8c475e23805ec57a63da7ec07fab066ccb190461"},
		{1, "\x00\x80\xff", "4d882ee32c04fc0577f99012a852be3ea4bb8b57f2e9127f373377a1feef7b5d"},
		{1, strings.Repeat("\x00", 256), "fdcbdc36b5c1f2f053dbe147c5a1b8473dbe6045a5ac976c76374766d6315d64"},
		{1, counted(23), "7a9788b479a8d08a985fd0993c9ff6fc6bda348bfa71ef0095fb06b23dae674b"},
		{1, counted(24), "f04a575ca72cc091a84e6eb9fb687859716fe5f2b49d8b92d0c6edeb1ddc738a"},
		{1, counted(31), "f3475d31b8016130238beba8e2513cfea4c5e7f4879a901fa59764036eacf8bb"},
		{1, counted(32), "fdfb761870556b97b3c2176a7f52bab06d437e27ecb5ff9814ef7789e653cd27"},
		{1, counted(33), "c18386b2117b5ff40e1f5b63d6393e84e35849093d919ccf4a88f267635e785e"},
		{255, counted(55), "3a9ccc7f98952d50f93b818569628eba5d90d920821b6a003a5ed343c4490934"},
		{1, counted(56), "b4924d0469218a5eedf4010fa51cee1971664168304f1da24a201a789e8afa8b"},
		{0, counted(63), "02317180bd5da298a59229364d0da21aa29aed1419c3c88995ef7bf030104970"},
		{2, counted(64), "7e035b38b3d6c4ffa056cc35bcb91fe972b21ca5b263358e376c5b10f51d5306"},
		{1, counted(1000), "3b97e97272a7ede3aa1a47e5ae7e5ab7f7c31ee1ecc6a0a84f39a1cc7e003c6a"},
	} {
		x := digest.Of(c.tag, c.text)
		if got := hex.EncodeToString(x[:]); got != c.want {
			t.Errorf("Of(%d, %q) = %s, want %s", c.tag, c.text, got, c.want)
		}
	}
}

func TestOneTextUnderUnlikeTags(t *testing.T) {
	for _, s := range []string{"", "a", counted(23), counted(24), counted(256)} {
		seen := map[api.Sum]int{}
		for tag := range 256 {
			x := digest.Of(byte(tag), s)
			if other, is := seen[x]; is {
				t.Errorf("%q has one digest under %d and %d", s, other, tag)
			}
			seen[x] = tag
		}
	}
}

// No zeros at the end, no mark and no length may be taken for the padding.
func TestTextsThatArePaddedAlike(t *testing.T) {
	seen := map[api.Sum]string{}
	var l []string
	for n := range 70 {
		l = append(l, strings.Repeat("\x00", n), "\x80"+strings.Repeat("\x00", n), string(whole(strings.Repeat("a", n))))
	}
	for _, s := range l {
		x := digest.Of(api.TagBlock, s)
		if other, is := seen[x]; is && other != s {
			t.Errorf("%q and %q have one digest", other, s)
		}
		seen[x] = s
	}
}

func TestPieces(t *testing.T) {
	for _, c := range []struct{ many, want int }{
		{0, 1}, {1, 1}, {22, 1}, {23, 1}, {24, 2}, {25, 2}, {31, 2}, {32, 2}, {33, 2}, {54, 2}, {55, 2}, {56, 3}, {63, 3}, {64, 3}, {65, 3}, {87, 3}, {88, 4}, {256, 9}, {1048576, 32769},
	} {
		if got := digest.Pieces(strings.Repeat("a", c.many)); got != c.want {
			t.Errorf("Pieces of %d bytes = %d, want %d", c.many, got, c.want)
		}
	}
	for n := range 300 {
		s := counted(n)
		if got, want := digest.Pieces(s), len(whole(s))/32; got != want {
			t.Errorf("Pieces of %d bytes = %d, want %d", n, got, want)
		}
	}
}

func TestHasherWithNothingWritten(t *testing.T) {
	for _, tag := range tags {
		h := digest.New(tag)
		if x, want := h.Sum(), asTold(tag, ""); x != want || h.Len() != 0 {
			t.Errorf("tag %d: %x, want %x; %d bytes", tag, x, want, h.Len())
		}
		for range 3 {
			h.Write("")
		}
		if x, want := h.Sum(), asTold(tag, ""); x != want || h.Len() != 0 {
			t.Errorf("tag %d, empty parts: %x, want %x; %d bytes", tag, x, want, h.Len())
		}
	}
}

func TestHasherGoesOnBehindSum(t *testing.T) {
	const s = "\x00\x80\xff"
	for _, tag := range tags {
		h := digest.New(tag)
		text := ""
		for n := range 70 {
			part := strings.Repeat(s, n%12)
			h.Write(part)
			h.Write("")
			text += part
			for range 2 {
				if got, want := h.Sum(), asTold(tag, text); got != want {
					t.Fatalf("tag %d, %d bytes: %x, want %x", tag, len(text), got, want)
				}
			}
			if h.Len() != len(text) {
				t.Fatalf("Len = %d, want %d", h.Len(), len(text))
			}
		}
	}
}

// Sum tells and changes nothing: what is kept is bit by bit as it was.
func TestSumLeavesTheHasher(t *testing.T) {
	for _, n := range lengths {
		h := digest.New(1)
		h.Write(counted(n))
		before := *h
		h.Sum()
		if *h != before {
			t.Errorf("Sum has changed a hasher of %d bytes", n)
		}
	}
}

func TestHashersSideBySide(t *testing.T) {
	a, b := digest.New(1), digest.New(2)
	for _, n := range lengths {
		a.Write(counted(n))
		b.Write(strings.Repeat("b", n))
		b.Write("c")
		a.Sum()
	}
	as, bs := "", ""
	for _, n := range lengths {
		as += counted(n)
		bs += strings.Repeat("b", n) + "c"
	}
	if a.Sum() != asTold(1, as) || a.Len() != len(as) {
		t.Errorf("the first: %x, %d bytes", a.Sum(), a.Len())
	}
	if b.Sum() != asTold(2, bs) || b.Len() != len(bs) {
		t.Errorf("the second: %x, %d bytes", b.Sum(), b.Len())
	}
}

func TestNilHasher(t *testing.T) {
	var h *digest.Hasher
	for range 2 {
		if h.Sum() != (api.Sum{}) || h.Len() != 0 {
			t.Errorf("%x, %d", h.Sum(), h.Len())
		}
		h.Write("a")
		h.Write("")
	}
}

// 3.2

const noughts = "0000000000000000000000000000000000000000000000000000000000000000"

// stepped is the digest of the bytes from a first one on, each the step more than the one ahead.
func stepped(first, step byte) api.Sum {
	var x api.Sum
	for i := range x {
		x[i] = first
		first += step
	}
	return x
}

func sums() []api.Sum {
	l := []api.Sum{{}, stepped(255, 0), stepped(0, 1), stepped(0x0f, 0), stepped(0xf0, 0), stepped(0x9a, 0), stepped(0xa9, 0)}
	for first := range 8 {
		l = append(l, stepped(byte(first*32), 1)) // each byte once
	}
	for n := range 50 {
		l = append(l, digest.Of(byte(n), counted(n)))
	}
	return l
}

func TestTextOfADigest(t *testing.T) {
	for _, x := range sums() {
		if got, want := digest.Text(x), hex.EncodeToString(x[:]); got != want {
			t.Errorf("Text(%x) = %q, want %q", x, got, want)
		}
	}
	if got := digest.Text(stepped(1, 0x11)); got != "0112233445566778899aabbccddeef00112233445566778899aabbccddeeff10" {
		t.Error(got)
	}
	if got := digest.Text(api.Sum{0: 0x1f, 31: 0xe2}); got != "1f"+noughts[:60]+"e2" {
		t.Error(got)
	}
}

func TestParseOfAText(t *testing.T) {
	for _, x := range sums() {
		if got, at, err := digest.Parse(hex.EncodeToString(x[:])); got != x || at != 0 || err != api.OK {
			t.Errorf("Parse of the digits of %x: %x, %d, %d", x, got, at, err)
		}
	}
}

func wantNoSum(t *testing.T, s string, place int) {
	t.Helper()
	if x, at, err := digest.Parse(s); x != (api.Sum{}) || at != place || err != api.ErrSum {
		t.Errorf("Parse(%q) = %x, %d, %d; want zeros, %d, ErrSum", s, x, at, err, place)
	}
}

func TestParseOfOtherLengths(t *testing.T) {
	for n := range 200 {
		s := strings.Repeat("a", n)
		switch {
		case n < 64:
			wantNoSum(t, s, n)
		case n > 64:
			wantNoSum(t, s, 64)
		}
	}
	for _, n := range []int{0, 1, 2, 62, 63} {
		wantNoSum(t, noughts[:n], n)
	}
	wantNoSum(t, noughts+"0", 64)
	wantNoSum(t, noughts+noughts, 64)
}

func TestParseOfOtherBytes(t *testing.T) {
	for b := range 256 {
		if strings.IndexByte("0123456789abcdef", byte(b)) >= 0 {
			continue
		}
		bad := string([]byte{byte(b)})
		for _, n := range []int{1, 2, 63, 64, 65, 66, 200} {
			for _, at := range []int{0, 1, 31, 62, 63, 64, 65, 199} {
				if at < n {
					digits := strings.Repeat("f0", n)[:n]
					wantNoSum(t, digits[:at]+bad+digits[at+1:], at)
				}
			}
		}
	}
}

func TestParseOfNamedBytes(t *testing.T) {
	for _, bad := range "/:@AFG`gz \x00\n-+" {
		s := string(bad)
		wantNoSum(t, s+noughts[1:], 0)
		wantNoSum(t, noughts[1:]+s, 63)
		wantNoSum(t, noughts+s, 64)
		wantNoSum(t, noughts+"0"+s, 65)
		wantNoSum(t, noughts+s+"0", 64)
		wantNoSum(t, s, 0)
	}
	wantNoSum(t, strings.ToUpper(strings.Repeat("ab", 32)), 0)
	wantNoSum(t, "0x"+noughts[2:], 1)
	wantNoSum(t, "\xff\xfe"+noughts[2:], 0)
	wantNoSum(t, noughts[:62]+"ä", 62)
}

// Of several bytes that are no digits the first counts; and such a byte counts ahead of the length.
func TestParseTellsTheFirst(t *testing.T) {
	wantNoSum(t, "00x0y", 2)
	wantNoSum(t, "x"+noughts+"y", 0)
	wantNoSum(t, noughts[:63]+"xy", 63)
	wantNoSum(t, noughts+"00000x0y", 69)
}

func TestCompare(t *testing.T) {
	for _, c := range []struct {
		a, b api.Sum
		want int
	}{
		{api.Sum{}, api.Sum{}, 0},
		{stepped(7, 3), stepped(7, 3), 0},
		{api.Sum{}, api.Sum{0: 1}, -1},
		{api.Sum{}, api.Sum{31: 1}, -1},
		{api.Sum{0: 127}, api.Sum{0: 128}, -1},
		{api.Sum{31: 127}, api.Sum{31: 128}, -1},
		{api.Sum{0: 1, 31: 255}, api.Sum{0: 2}, -1},
		{api.Sum{0: 1, 1: 255}, api.Sum{0: 2, 1: 0}, -1},
		{api.Sum{30: 1, 31: 255}, api.Sum{30: 2}, -1},
		{stepped(255, 0), api.Sum{}, 1},
	} {
		if got := digest.Compare(c.a, c.b); got != c.want {
			t.Errorf("Compare(%x, %x) = %d, want %d", c.a, c.b, got, c.want)
		}
		if got := digest.Compare(c.b, c.a); got != -c.want {
			t.Errorf("Compare(%x, %x) = %d, want %d", c.b, c.a, got, -c.want)
		}
	}
}

// Small digits stand in the order of what they are worth, so the texts of digests stand in the digests' order.
func TestCompareAsTexts(t *testing.T) {
	for _, a := range sums() {
		for _, b := range sums() {
			if got, want := digest.Compare(a, b), strings.Compare(hex.EncodeToString(a[:]), hex.EncodeToString(b[:])); got != want {
				t.Errorf("Compare(%x, %x) = %d, want %d", a, b, got, want)
			}
		}
	}
}

func TestZero(t *testing.T) {
	if !digest.Zero(api.Sum{}) {
		t.Error("zeros are not zero")
	}
	for bit := range 256 {
		var x api.Sum
		x[bit/8] = 1 << (bit % 8)
		if digest.Zero(x) {
			t.Errorf("%x is zero", x)
		}
	}
	if digest.Zero(stepped(255, 0)) {
		t.Error("ones are zero")
	}
}

func TestFar(t *testing.T) {
	for _, x := range sums() {
		if n := digest.Far(x, x); n != 0 {
			t.Errorf("%x is %d from itself", x, n)
		}
		turned := x
		for bit := range 256 {
			turned[bit/8] ^= 1 << (bit % 8)
			one := x
			one[bit/8] ^= 1 << (bit % 8)
			if n := digest.Far(x, one); n != 1 {
				t.Errorf("one bit: %d", n)
			}
			if n, m := digest.Far(x, turned), digest.Far(turned, x); n != bit+1 || m != bit+1 {
				t.Errorf("%d bits: %d and %d", bit+1, n, m)
			}
		}
		if n := digest.Far(x, turned); n != 256 {
			t.Errorf("all bits: %d", n)
		}
	}
}

// 3.4, of digests

func TestOneCutAtEachPlace(t *testing.T) {
	for _, n := range lengths {
		s := counted(n)
		want := digest.Of(1, s)
		for at := range n + 1 {
			h := digest.New(1)
			h.Write(s[:at])
			if h.Len() != at || h.Sum() != digest.Of(1, s[:at]) {
				t.Fatalf("%d of %d bytes: %d, %x", at, n, h.Len(), h.Sum())
			}
			h.Write(s[at:])
			if h.Len() != n || h.Sum() != want || h.Sum() != want {
				t.Fatalf("%d bytes, cut at %d: %d, %x", n, at, h.Len(), h.Sum())
			}
		}
	}
}

func TestManyCuts(t *testing.T) {
	s := counted(1000)
	want := digest.Of(255, s)
	for step := 1; step < 140; step++ {
		h := digest.New(255)
		for part := range slices.Chunk([]byte(s), step) {
			h.Write(string(part))
		}
		if h.Sum() != want || h.Len() != len(s) {
			t.Errorf("parts of %d bytes: %x, want %x", step, h.Sum(), want)
		}
	}
	r := rand.New(rand.NewSource(4))
	for range 100 {
		h := digest.New(255)
		for at := 0; at < len(s); {
			n := min(r.Intn(80), len(s)-at)
			h.Write(s[at : at+n])
			at += n
			if r.Intn(3) == 0 {
				h.Sum()
			}
		}
		if h.Sum() != want || h.Len() != len(s) {
			t.Errorf("parts by chance: %x, want %x", h.Sum(), want)
		}
	}
}

func TestParseOfText(t *testing.T) {
	for _, x := range sums() {
		s := digest.Text(x)
		y, at, err := digest.Parse(s)
		if y != x || at != 0 || err != api.OK {
			t.Errorf("%x: %q, %x, %d, %d", x, s, y, at, err)
		}
		if again := digest.Text(y); again != s {
			t.Errorf("%q became %q", s, again)
		}
	}
}
