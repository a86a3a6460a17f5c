package digest

import (
	"testing"

	"signet/api"
)

// No two texts of one digest are at hand, so the digests of these logs are made up; that is done from inside.

// made is a log of the entries {1 a}, {1 b} .. with these digests.
func made(sums ...byte) *Log {
	l := NewLog()
	for n, x := range sums {
		l.add(api.Entry{Tag: 1, Text: string(rune('a' + n))}, api.Sum{31: x})
	}
	return l
}

// 3.3

func TestCollision(t *testing.T) {
	for _, c := range []struct {
		sums       []byte
		first, two int
		is         bool
	}{
		{[]byte{}, 0, 0, false},
		{[]byte{0}, 0, 0, false},
		{[]byte{1, 2, 3, 4}, 0, 0, false},
		{[]byte{0, 0}, 0, 1, true},
		{[]byte{7, 7, 7, 7}, 0, 1, true},
		{[]byte{1, 2, 3, 2}, 1, 3, true},
		{[]byte{1, 2, 2, 1}, 1, 2, true}, // the least second one, though the first one is not the least
		{[]byte{1, 2, 2, 1, 1, 2}, 1, 2, true},
		{[]byte{1, 2, 3, 3, 1}, 2, 3, true},
		{[]byte{1, 2, 3, 4, 4}, 3, 4, true},
		{[]byte{1, 2, 3, 4, 1}, 0, 4, true},
	} {
		l := made(c.sums...)
		for _, l := range []*Log{l, l.Clone()} {
			first, two, is := l.Collision()
			if first != c.first || two != c.two || is != c.is {
				t.Errorf("digests %v: %d, %d, %v", c.sums, first, two, is)
			}
		}
	}
}

func TestCollisionStaysWhatItWas(t *testing.T) {
	l := made(1, 2, 3, 2)
	m := l.Clone()
	l.add(api.Entry{Tag: 9, Text: "a"}, api.Sum{31: 1})
	for _, l := range []*Log{l, m} {
		if first, two, is := l.Collision(); first != 1 || two != 3 || !is {
			t.Error(first, two, is)
		}
	}
}

func TestCollisionOfACloneAlone(t *testing.T) {
	l := made(1, 2)
	m := l.Clone()
	m.add(api.Entry{Tag: 2, Text: "a"}, api.Sum{31: 1}) // unlike in its tag alone
	if first, two, is := m.Collision(); first != 0 || two != 2 || !is {
		t.Error(first, two, is)
	}
	if first, two, is := l.Collision(); first != 0 || two != 0 || is {
		t.Error(first, two, is)
	}
}
