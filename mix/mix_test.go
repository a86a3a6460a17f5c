package mix_test

import (
	"math"
	"math/rand"
	"slices"
	"testing"

	"signet/api"
	"signet/mix"
)

const full = math.MaxUint32

// counted is the state of the words 1 to 16.
func counted() api.State {
	var s api.State
	for i := range s {
		s[i] = uint32(i) + 1
	}
	return s
}

// filled is the state of one word, sixteen times.
func filled(x uint32) api.State {
	var s api.State
	for i := range s {
		s[i] = x
	}
	return s
}

// chance is a source of words that are the same at each run.
func chance() *rand.Rand {
	return rand.New(rand.NewSource(2))
}

// states are some of a few ones, of many, and of all kinds of words.
func states() []api.State {
	l := []api.State{{}, filled(full), filled(1), filled(1 << 31), filled(0x55555555), counted(), chaCha()}
	r := chance()
	for range 30 {
		var s api.State
		for i := range s {
			s[i] = r.Uint32()
		}
		l = append(l, s)
	}
	for i := range 16 {
		var s api.State
		s[i] = 1
		l = append(l, s)
	}
	return l
}

// chaCha is a state of ChaCha20: the constants, the key 00 to 1f, the counter 1 and the nonce 00 00 00 09 00 00 00 4a 00 00 00 00.
func chaCha() api.State {
	return api.State{
		0x61707865, 0x3320646e, 0x79622d32, 0x6b206574,
		0x03020100, 0x07060504, 0x0b0a0908, 0x0f0e0d0c,
		0x13121110, 0x17161514, 0x1b1a1918, 0x1f1e1d1c,
		0x00000001, 0x09000000, 0x4a000000, 0x00000000,
	}
}

// chaChaMixed is that state behind ChaCha20's rounds, as RFC 8439 tells it.
func chaChaMixed() api.State {
	return api.State{
		0x837778ab, 0xe238d763, 0xa67ae21e, 0x5950bb2f,
		0xc4f2d0c7, 0xfc62bb2f, 0x8fa018fc, 0x3f5ec7b7,
		0x335271c2, 0xf29489f3, 0xeabda8fc, 0x82e46ebd,
		0xd19c12b4, 0xb04e16de, 0x9e83d0cb, 0x4e3c50a2,
	}
}

// The chapter's words once more, in another form: numbers of 64 bits modulo 2^32, turned by products and quotients, and the places written out.

const modulus = 1 << 32

func turned(x uint64, by int) uint64 {
	p := uint64(1) << by
	return x*p%modulus + x*p/modulus
}

type four [4]uint64

func (q four) quarter() four {
	const a, b, c, d = 0, 1, 2, 3
	step := func(sum, other, xor, by int) {
		q[sum] = (q[sum] + q[other]) % modulus
		q[xor] = turned(q[xor]^q[sum], by)
	}
	step(a, b, d, 16)
	step(c, d, b, 12)
	step(a, b, d, 8)
	step(c, d, b, 7)
	return q
}

func round(s api.State, odd bool) api.State {
	places := [4][4]int{{0, 4, 8, 12}, {1, 5, 9, 13}, {2, 6, 10, 14}, {3, 7, 11, 15}}
	if odd {
		places = [4][4]int{{0, 5, 10, 15}, {1, 6, 11, 12}, {2, 7, 8, 13}, {3, 4, 9, 14}}
	}
	for _, at := range places {
		var q four
		for i, p := range at {
			q[i] = uint64(s[p])
		}
		for i, x := range q.quarter() {
			s[at[i]] = uint32(x)
		}
	}
	return s
}

func rounds(s api.State, n int) api.State {
	odd := false
	for range n {
		s = round(s, odd)
		odd = !odd
	}
	return s
}

// apart goes over the 512 bits one by one.
func apart(a, b api.State) int {
	many := 0
	for bit := range 512 {
		if a[bit/32]>>(bit%32)%2 != b[bit/32]>>(bit%32)%2 {
			many++
		}
	}
	return many
}

// flipped is a state with one bit turned over.
func flipped(s api.State, bit int) api.State {
	if p := uint32(1) << (bit % 32); s[bit/32]/p%2 == 0 {
		s[bit/32] += p
	} else {
		s[bit/32] -= p
	}
	return s
}

// quarters are fours of words, those of 0 and 2^32 - 1 alone among them.
func quarters() [][4]uint32 {
	edges := []uint32{0, 1, 1 << 31, full}
	var l [][4]uint32
	for i := range 4 * 4 * 4 * 4 {
		l = append(l, [4]uint32{edges[i%4], edges[i/4%4], edges[i/16%4], edges[i/64]})
	}
	r := chance()
	for range 300 {
		l = append(l, [4]uint32{r.Uint32(), r.Uint32(), r.Uint32(), r.Uint32()})
	}
	return l
}

func quarter(q [4]uint32) [4]uint32 {
	a, b, c, d := mix.Quarter(q[0], q[1], q[2], q[3])
	return [4]uint32{a, b, c, d}
}

func undo(q [4]uint32) [4]uint32 {
	a, b, c, d := mix.Undo(q[0], q[1], q[2], q[3])
	return [4]uint32{a, b, c, d}
}

// 2.1

func TestQuarter(t *testing.T) {
	for _, q := range quarters() {
		want := four{uint64(q[0]), uint64(q[1]), uint64(q[2]), uint64(q[3])}.quarter()
		for i, x := range quarter(q) {
			if uint64(x) != want[i] {
				t.Errorf("%#x: word %d is %#x, not %#x", q, i, x, want[i])
			}
		}
	}
}

func TestQuarterOfKnownWords(t *testing.T) {
	// RFC 8439, 2.2.1.
	q := [4]uint32{0x516461b1, 0x2a5f714c, 0x53372767, 0x3d631689}
	if got := quarter(q); got != [4]uint32{0xbdb886dc, 0xcfacafd2, 0xe46bea80, 0xccc07c79} {
		t.Errorf("%#x", got)
	}
	if got := quarter([4]uint32{}); got != [4]uint32{} {
		t.Errorf("noughts: %#x", got)
	}
	if got := quarter([4]uint32{full, full, full, full}); got != [4]uint32{0xf0000ffd, 0x88790878, 0x0110fdef, 0x010ffdf0} {
		t.Errorf("all ones: %#x", got)
	}
}

func TestUndoIsWhatTheQuarterWasMadeOf(t *testing.T) {
	if got := undo([4]uint32{0xea2a92f4, 0xcb1cf8ce, 0x4581472e, 0x5881c4bb}); got != [4]uint32{0x11111111, 0x01020304, 0x9b8d6f43, 0x01234567} {
		t.Errorf("%#x", got)
	}
	if got := undo([4]uint32{}); got != [4]uint32{} {
		t.Errorf("noughts: %#x", got)
	}
}

func TestRound(t *testing.T) {
	for _, s := range states() {
		was := s
		for _, odd := range []bool{false, true} {
			if got, want := mix.Round(s, odd), round(s, odd); got != want {
				t.Errorf("%#x, odd %v: %#x, not %#x", s, odd, got, want)
			}
		}
		if s != was {
			t.Errorf("%#x became %#x", was, s)
		}
	}
}

func TestARoundGoesByColumnsOrByDiagonals(t *testing.T) {
	for i := range 4 {
		columns := []int{i, 4 + i, 8 + i, 12 + i}
		diagonals := []int{i, 4 + (i+1)%4, 8 + (i+2)%4, 12 + (i+3)%4}
		var s api.State
		s[i] = 1
		if got := touched(mix.Round(s, false)); !slices.Equal(got, columns) {
			t.Error(i, got)
		}
		if got := touched(mix.Round(s, true)); !slices.Equal(got, diagonals) {
			t.Error(i, got)
		}
	}
}

// touched are the places of a state that are not 0.
func touched(s api.State) []int {
	var l []int
	for i, x := range s {
		if x != 0 {
			l = append(l, i)
		}
	}
	return l
}

// 2.2

// someRounds are the numbers of rounds that may be asked for, on the one side.
var someRounds = []int{0, 1, 2, 3, 19, 20, 21, 63, 64}

func TestRoundsForth(t *testing.T) {
	for _, s := range states() {
		was := s
		for _, n := range someRounds {
			got, err := mix.Rounds(s, n)
			if want := rounds(s, n); got != want || err != api.OK {
				t.Errorf("%#x, %d: %#x %v, not %#x", s, n, got, err, want)
			}
		}
		if s != was {
			t.Errorf("%#x became %#x", was, s)
		}
	}
}

func TestRoundsBack(t *testing.T) {
	for _, s := range states() {
		for _, n := range someRounds {
			from := rounds(s, n)
			was := from
			if got, err := mix.Rounds(from, -n); got != s || err != api.OK {
				t.Errorf("%#x, %d: %#x %v, not %#x", from, -n, got, err, s)
			}
			if from != was {
				t.Errorf("%#x became %#x", was, from)
			}
		}
	}
}

func TestNoRoundsLeaveTheState(t *testing.T) {
	if s, err := mix.Rounds(counted(), 0); s != counted() || err != api.OK {
		t.Error(s, err)
	}
}

func TestTheFirstRoundIsEvenAndTheSecondOdd(t *testing.T) {
	s := counted()
	first := mix.Round(s, false)
	if got, err := mix.Rounds(s, 1); got != first || err != api.OK {
		t.Error(got, err)
	}
	if got, err := mix.Rounds(s, 2); got != mix.Round(first, true) || err != api.OK {
		t.Error(got, err)
	}
	if got, err := mix.Rounds(first, -1); got != s || err != api.OK {
		t.Error(got, err)
	}
	if got, err := mix.Rounds(mix.Round(first, true), -2); got != s || err != api.OK {
		t.Error(got, err)
	}
}

func TestTooManyRounds(t *testing.T) {
	for _, n := range []int{-65, 65, -66, 66, 128, -128, 1 << 32, -1 << 32, math.MinInt, math.MinInt + 1, math.MaxInt} {
		if s, err := mix.Rounds(counted(), n); s != (api.State{}) || err != api.ErrArg {
			t.Error(n, s, err)
		}
	}
	for _, n := range []int{-64, 64} {
		if s, err := mix.Rounds(counted(), n); s == (api.State{}) || err != api.OK {
			t.Error(n, s, err)
		}
	}
}

func TestMixIsTwentyRounds(t *testing.T) {
	for _, s := range states() {
		was := s
		if got, want := mix.Mix(s), rounds(s, 20); got != want {
			t.Errorf("%#x: %#x, not %#x", s, got, want)
		}
		if got := mix.Unmix(rounds(s, 20)); got != s {
			t.Errorf("back to %#x: %#x", s, got)
		}
		if s != was {
			t.Errorf("%#x became %#x", was, s)
		}
	}
}

func TestMixOfAKnownState(t *testing.T) {
	if got := mix.Mix(chaCha()); got != chaChaMixed() {
		t.Errorf("%#x", got)
	}
	if got := mix.Unmix(chaChaMixed()); got != chaCha() {
		t.Errorf("%#x", got)
	}
}

func TestMixAndUnmixAreRounds(t *testing.T) {
	for _, s := range states() {
		if got, err := mix.Rounds(s, 20); got != mix.Mix(s) || err != api.OK {
			t.Error(s, got, err)
		}
		if got, err := mix.Rounds(s, -20); got != mix.Unmix(s) || err != api.OK {
			t.Error(s, got, err)
		}
	}
}

// 2.3

func TestApart(t *testing.T) {
	l := states()
	for _, a := range l {
		for _, b := range l {
			wasA, wasB := a, b
			if got, want := mix.Apart(a, b), apart(a, b); got != want {
				t.Errorf("%#x, %#x: %d, not %d", a, b, got, want)
			}
			if a != wasA || b != wasB {
				t.Error("a state that was handed in is another one")
			}
		}
	}
}

func TestApartOfStatesThatDifferByNoneOneOrAllBits(t *testing.T) {
	for _, s := range []api.State{{}, filled(full), counted()} {
		if n := mix.Apart(s, s); n != 0 {
			t.Error(n)
		}
		all := s
		for bit := range 512 {
			if n := mix.Apart(s, flipped(s, bit)); n != 1 {
				t.Error(bit, n)
			}
			all = flipped(all, bit)
		}
		if n := mix.Apart(s, all); n != 512 {
			t.Error(n)
		}
	}
}

// trail is worked out anew for each k, from the first round on.
func trail(s api.State, bit, n int) []int {
	var l []int
	for k := range n + 1 {
		l = append(l, apart(rounds(s, k), rounds(flipped(s, bit), k)))
	}
	return l
}

func TestTrail(t *testing.T) {
	for _, s := range []api.State{{}, filled(full), counted(), chaCha()} {
		was := s
		for _, bit := range []int{0, 1, 31, 32, 33, 255, 256, 480, 511} {
			for _, n := range []int{0, 1, 2, 3, 20, 64} {
				got, err := mix.Trail(s, bit, n)
				if want := trail(s, bit, n); !slices.Equal(got, want) || err != api.OK {
					t.Errorf("%#x, %d, %d: %v %v, not %v", s, bit, n, got, err, want)
				}
				if len(got) != n+1 || got[0] != 1 {
					t.Errorf("%d, %d: %v", bit, n, got)
				}
			}
		}
		if s != was {
			t.Errorf("%#x became %#x", was, s)
		}
	}
}

func TestTrailOfEachBit(t *testing.T) {
	s := counted()
	for bit := range 512 {
		got, err := mix.Trail(s, bit, 2)
		if want := trail(s, bit, 2); !slices.Equal(got, want) || err != api.OK {
			t.Errorf("%d: %v %v, not %v", bit, got, err, want)
		}
	}
}

func TestTrailOfWrongBitsAndRounds(t *testing.T) {
	for _, x := range []struct{ bit, n int }{
		{-1, 1}, {512, 1}, {513, 1}, {-32, 1}, {math.MinInt, 1}, {math.MaxInt, 1},
		{-1, 0}, {512, 0}, {-1, 64}, {512, 64},
		{0, -1}, {0, 65}, {511, -1}, {511, 65}, {0, -64}, {0, math.MinInt}, {0, math.MaxInt},
		{-1, -1}, {-1, 65}, {512, -1}, {512, 65},
	} {
		if l, err := mix.Trail(counted(), x.bit, x.n); len(l) != 0 || err != api.ErrArg {
			t.Error(x, l, err)
		}
	}
}

func TestTrailsShareNoMemory(t *testing.T) {
	a, _ := mix.Trail(counted(), 0, 5)
	b, _ := mix.Trail(counted(), 0, 5)
	spare := a[:cap(a)]
	for i := range spare {
		spare[i] = -1
	}
	c, _ := mix.Trail(counted(), 0, 5)
	want := trail(counted(), 0, 5)
	if !slices.Equal(b, want) || !slices.Equal(c, want) {
		t.Error(b, c)
	}
}

// 2.4

func TestQuarterAndUndoUndoEachOther(t *testing.T) {
	for _, q := range quarters() {
		if got := undo(quarter(q)); got != q {
			t.Errorf("Undo of Quarter of %#x: %#x", q, got)
		}
		if got := quarter(undo(q)); got != q {
			t.Errorf("Quarter of Undo of %#x: %#x", q, got)
		}
	}
}

func TestMixAndUnmixUndoEachOther(t *testing.T) {
	for _, s := range states() {
		if got := mix.Unmix(mix.Mix(s)); got != s {
			t.Errorf("Unmix of Mix of %#x: %#x", s, got)
		}
		if got := mix.Mix(mix.Unmix(s)); got != s {
			t.Errorf("Mix of Unmix of %#x: %#x", s, got)
		}
	}
}

func TestRoundsBackUndoRoundsForth(t *testing.T) {
	for _, s := range states() {
		for n := -64; n <= 64; n++ {
			there, err := mix.Rounds(s, n)
			if err != api.OK {
				t.Fatal(n, err)
			}
			if got, err := mix.Rounds(there, -n); got != s || err != api.OK {
				t.Errorf("%d of %#x: %#x %v", n, s, got, err)
			}
		}
	}
}

func TestUnlikeStatesAreMixedToUnlikeOnes(t *testing.T) {
	seen := map[api.State]api.State{}
	l := states()
	for bit := range 512 {
		l = append(l, flipped(counted(), bit))
	}
	for _, s := range l {
		m := mix.Mix(s)
		if other, ok := seen[m]; ok && other != s {
			t.Errorf("%#x and %#x are both mixed to %#x", other, s, m)
		}
		seen[m] = s
	}
}

func TestNoughtsStay(t *testing.T) {
	var noughts api.State
	if mix.Mix(noughts) != noughts || mix.Unmix(noughts) != noughts {
		t.Error("mixed")
	}
	if mix.Round(noughts, false) != noughts || mix.Round(noughts, true) != noughts {
		t.Error("a round")
	}
	for n := -64; n <= 64; n++ {
		if s, err := mix.Rounds(noughts, n); s != noughts || err != api.OK {
			t.Error(n, s, err)
		}
	}
}
