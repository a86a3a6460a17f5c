package node_test

import (
	"math"
	"math/rand"
	"testing"

	"signet/api"
	"signet/node"
)

// full is a node whose four references are unlike.
func full(level int) api.Node {
	return api.Node{Level: level, Kids: [4]api.Ref{{At: 1, Sum: api.Sum{2}}, {At: math.MaxUint32}, each(), greatest()}}
}

// laid is a node's block, laid byte by byte.
func laid(n api.Node) api.Block {
	b := api.Block{'n', 'o', 'd', 'e', byte(n.Level)}
	for i, r := range n.Kids {
		at := 8 + 36*i
		b[at], b[at+1], b[at+2], b[at+3] = byte(r.At), byte(r.At>>8), byte(r.At>>16), byte(r.At>>24)
		copy(b[at+4:], r.Sum[:])
	}
	return b
}

// right is nodes that may be, of each level.
func right() []api.Node {
	var l []api.Node
	for level := 1; level <= 6; level++ {
		l = append(l, api.Node{Level: level}, full(level))
		for place := range 4 {
			for _, r := range somewhat() {
				n, m := api.Node{Level: level}, full(level)
				n.Kids[place] = r
				m.Kids[place] = api.Ref{}
				l = append(l, n, m)
			}
		}
	}
	return l
}

// 7.2

func TestBlock(t *testing.T) {
	for _, n := range right() {
		if b, err := node.Block(n); b != laid(n) || err != api.OK {
			t.Errorf("Block(%v) = %v, %d", n, b, err)
		}
	}
}

func TestBlockOfKnownBytes(t *testing.T) {
	n := api.Node{Level: 6, Kids: [4]api.Ref{each(), {}, {At: 0xd4c3b2a1}, {At: 9, Sum: api.Sum{31: 8}}}}
	b, err := node.Block(n)
	if err != api.OK {
		t.Fatal(err)
	}
	for at, got := range b {
		want := byte(0)
		switch {
		case at < 4:
			want = "node"[at]
		case at == 4:
			want = 6
		case at >= 8 && at < 44:
			want = byte(at - 7)
		case at >= 80 && at < 84:
			want = "\xa1\xb2\xc3\xd4"[at-80]
		case at == 116:
			want = 9
		case at == 151:
			want = 8
		}
		if got != want {
			t.Errorf("byte %d is %d, want %d", at, got, want)
		}
	}
}

// unlaid asks that a node has no block.
func unlaid(t *testing.T, n api.Node) {
	t.Helper()
	if b, err := node.Block(n); b != (api.Block{}) || err != api.ErrArg {
		t.Errorf("Block(%v) = %v, %d; want ErrArg", n, b, err)
	}
}

func TestBlockOfNoLevel(t *testing.T) {
	for _, level := range []int{0, 7, 8, -1, -2, -250, -255, 255, 256, 257, 258, 262, 263, 1 << 32, 1<<32 + 1, 1<<63 - 1, math.MinInt, math.MinInt + 1} {
		unlaid(t, api.Node{Level: level})
		unlaid(t, full(level))
	}
	unlaid(t, api.Node{})
}

func TestBlockOfWhatIsNotRight(t *testing.T) {
	for place := range 4 {
		for _, r := range wrong() {
			for _, n := range []api.Node{{Level: 1}, full(1), full(6), full(0), full(7)} {
				n.Kids[place] = r
				unlaid(t, n)
			}
		}
	}
}

// unread asks that a block is no node's.
func unread(t *testing.T, b api.Block) {
	t.Helper()
	if n, err := node.Read(b); n != (api.Node{}) || err != api.ErrNode {
		t.Errorf("Read(%v) = %v, %d; want ErrNode", b, n, err)
	}
}

func TestRead(t *testing.T) {
	for _, n := range right() {
		if m, err := node.Read(laid(n)); m != n || err != api.OK {
			t.Errorf("Read(%v) = %v, %d; want %v", laid(n), m, err, n)
		}
	}
}

func TestReadOfNoNode(t *testing.T) {
	unread(t, api.Block{})
	unread(t, api.Block{'n', 'o', 'd', 'e'})
	unread(t, api.Block{0, 0, 0, 0, 1})
	unread(t, api.Block{'e', 'd', 'o', 'n', 1})
	unread(t, api.Block{'N', 'O', 'D', 'E', 1})
	unread(t, api.Block{0, 'n', 'o', 'd', 'e', 1})
	var ones api.Block
	for i := range ones {
		ones[i] = 255
	}
	unread(t, ones)
}

// A node's block in which any one bit is turned over is another node's, or none's.
func TestReadOfEachBitSpoilt(t *testing.T) {
	for _, n := range []api.Node{{Level: 1}, {Level: 6}, full(1), full(3)} {
		for bit := range 8 * 256 {
			b := laid(n)
			b[bit/8] ^= 1 << (bit % 8)
			m, is := asked(b)
			if !is {
				unread(t, b)
			} else if got, err := node.Read(b); got != m || err != api.OK || got == n {
				t.Errorf("Read(%v) = %v, %d; want %v", b, got, err, m)
			}
		}
	}
}

// asked is a block's node, if it is one, told part by part.
func asked(b api.Block) (api.Node, bool) {
	n := api.Node{Level: int(b[4])}
	for i := range 4 {
		at := 8 + 36*i
		n.Kids[i].At = uint32(b[at]) | uint32(b[at+1])<<8 | uint32(b[at+2])<<16 | uint32(b[at+3])<<24
		n.Kids[i].Sum = api.Sum(b[at+4 : at+36])
		if n.Kids[i].At == 0 && n.Kids[i].Sum != (api.Sum{}) {
			return api.Node{}, false
		}
	}
	for at := 5; at < 8; at++ {
		if b[at] != 0 {
			return api.Node{}, false
		}
	}
	for at := 152; at < 256; at++ {
		if b[at] != 0 {
			return api.Node{}, false
		}
	}
	return n, string(b[:4]) == "node" && n.Level >= 1 && n.Level <= 6
}

func TestReadOfEachPartSpoilt(t *testing.T) {
	for _, n := range []api.Node{{Level: 1}, full(2)} {
		for at := range 4 {
			for _, x := range []byte{0, 1, 255, 'N'} {
				b := laid(n)
				b[at] = x
				unread(t, b)
			}
		}
		for level := range 256 {
			b := laid(n)
			b[4] = byte(level)
			m := n
			m.Level = level
			if level < 1 || level > 6 {
				unread(t, b)
			} else if got, err := node.Read(b); got != m || err != api.OK {
				t.Errorf("Read of the level %d = %v, %d", level, got, err)
			}
		}
		for _, at := range []int{5, 6, 7, 152, 153, 187, 188, 200, 254, 255} {
			for _, x := range []byte{1, 128, 255} {
				b := laid(n)
				b[at] = x
				unread(t, b)
			}
		}
		for place := range 4 {
			for _, r := range wrong() {
				m := n
				m.Kids[place] = r
				unread(t, laid(m))
			}
		}
	}
}

func TestEmptyAndKids(t *testing.T) {
	// Each of the sixteen choices of places that are none.
	for choice := range 16 {
		for _, r := range append(somewhat(), wrong()...) {
			for _, level := range []int{0, 1, 6, 7, -1} {
				n := api.Node{Level: level}
				many := 0
				for place := range 4 {
					if choice>>place&1 == 1 {
						n.Kids[place] = r
						many++
					}
				}
				if got := node.Kids(n); got != many {
					t.Errorf("Kids(%v) = %d, want %d", n, got, many)
				}
				if got := node.Empty(n); got != (many == 0) {
					t.Errorf("Empty(%v) = %v", n, got)
				}
			}
		}
	}
	if node.Kids(full(1)) != 4 || node.Empty(full(1)) {
		t.Error(node.Kids(full(1)), node.Empty(full(1)))
	}
}

func TestSwap(t *testing.T) {
	// What else a node has is not asked: it is handed on as it is.
	odd := api.Node{Level: -3, Kids: [4]api.Ref{wrong()[0], wrong()[1], wrong()[2], wrong()[3]}}
	for _, n := range []api.Node{{}, {Level: 1}, full(1), full(6), full(7), odd} {
		for place := range 4 {
			for _, r := range append(somewhat(), api.Ref{}) {
				held, want := n, n
				want.Kids[place] = r
				if got, err := node.Swap(n, place, r); got != want || err != api.OK {
					t.Errorf("Swap(%v, %d, %v) = %v, %d", n, place, r, got, err)
				}
				if n != held {
					t.Errorf("%v became %v", held, n)
				}
			}
		}
	}
}

func TestSwapOfWrongArguments(t *testing.T) {
	places := []int{math.MinInt, -5, -4, -1, 0, 1, 2, 3, 4, 5, 255, 256, 1 << 32, math.MaxInt}
	for _, n := range []api.Node{{}, {Level: 1}, full(1), full(6)} {
		for _, place := range places {
			for _, r := range wrong() {
				unswapped(t, n, place, r)
			}
			if place < 0 || place > 3 {
				unswapped(t, n, place, api.Ref{})
				unswapped(t, n, place, each())
			}
		}
	}
}

// unswapped asks that a reference can't be set there.
func unswapped(t *testing.T, n api.Node, place int, r api.Ref) {
	t.Helper()
	if got, err := node.Swap(n, place, r); got != (api.Node{}) || err != api.ErrArg {
		t.Errorf("Swap(%v, %d, %v) = %v, %d; want ErrArg", n, place, r, got, err)
	}
}

// 7.4

func TestReadOfBlock(t *testing.T) {
	r := rand.New(rand.NewSource(10))
	for range 500 {
		n := api.Node{Level: 1 + r.Intn(6)}
		for place := range 4 {
			n.Kids[place] = drawn(r)
		}
		b, err := node.Block(n)
		if err != api.OK {
			t.Errorf("Block(%v): %d", n, err)
		}
		if m, err := node.Read(b); m != n || err != api.OK {
			t.Errorf("%v became %v, %d", n, m, err)
		}
	}
}

// And the other way: what reads as a node is laid as the same block again.
func TestBlockOfRead(t *testing.T) {
	r := rand.New(rand.NewSource(11))
	for range 2000 {
		n := api.Node{Level: 1 + r.Intn(6)}
		for place := range 4 {
			n.Kids[place] = drawn(r)
		}
		b := laid(n)
		for range r.Intn(3) {
			b[r.Intn(256)] = byte(r.Intn(8))
		}
		m, err := node.Read(b)
		want, is := asked(b)
		if !is {
			unread(t, b)
			continue
		}
		again, errAgain := node.Block(m)
		if m != want || err != api.OK || again != b || errAgain != api.OK {
			t.Errorf("%v became %v, %d", b, m, err)
		}
	}
}
