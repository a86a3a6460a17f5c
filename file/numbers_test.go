package file_test

import (
	"maps"
	"math"
	"testing"

	"signet/api"
	"signet/inodes"
)

// 16.1

// plain is a call of each kind that a file and another one may be handed to.
func plain(n, to int) []call {
	var l []call
	for _, op := range ops {
		l = append(l, call{op: op, n: n, at: 1, many: 2, to: to, place: 3, s: "xy", stamp: 9})
	}
	return l
}

// wrong is a call of each kind with all else that is handed in wrong, too.
func wrong(n, to int) []call {
	var l []call
	for _, op := range ops {
		l = append(l,
			call{op: op, n: n, at: -1, many: -1, to: to, place: -1, s: zeros(api.MaxFile + 1), stamp: 9},
			call{op: op, n: n, at: math.MinInt, many: math.MaxInt, to: to, place: math.MaxInt, stamp: 9})
	}
	return l
}

// fails asks that calls tell an error, nothing beside it, and change nothing.
func fails(t *testing.T, x *inodes.Inodes, m model, want api.Errno, calls ...call) {
	t.Helper()
	for _, c := range calls {
		if got := c.do(x); got != (answer{err: want}) {
			t.Errorf("%s = %s; want error %d", c.brief(), got.brief(), want)
		}
		if want := (answer{err: want}); c.want(maps.Clone(m)) != want {
			t.Errorf("the model tells something else of %s", c.brief())
		}
	}
	holds(t, "behind calls that fail", x, m)
}

func TestNumbersThatAreNone(t *testing.T) {
	x, m := made(t, 16, 8).empty(), model{}
	put(t, x, m, api.KindDir, zeros(64))
	put(t, x, m, api.KindFile, "abcd")
	put(t, x, m, api.KindFile, "abcd")
	if x.Drop(2) != api.OK {
		t.Fatal("Drop")
	}
	delete(m, 2)
	for _, n := range noNumbers {
		fails(t, x, m, api.ErrNumber, plain(n, n)...)
		fails(t, x, m, api.ErrNumber, wrong(n, n)...)
	}
	for _, n := range []int{2, 4, 5, 4095, api.MaxInodes} {
		fails(t, x, m, api.ErrNone, plain(n, n)...)
		fails(t, x, m, api.ErrNone, wrong(n, n)...)
	}
	fails(t, x, m, api.ErrIsDir, plain(1, 1)...)
	fails(t, x, m, api.ErrIsDir, wrong(1, 1)...)
}

// ofTwo is the calls of those that are handed two numbers.
func ofTwo(calls []call) []call {
	var l []call
	for _, c := range calls {
		if c.two() {
			l = append(l, c)
		}
	}
	return l
}

// The numbers come in their order, all of them ahead of what a directory is told.
func TestTwoNumbers(t *testing.T) {
	x, m := made(t, 16, 8).empty(), model{}
	put(t, x, m, api.KindDir, "")
	put(t, x, m, api.KindFile, "abcd")
	const dir, file, none, wild = 1, 2, 3, api.MaxInodes + 1
	for _, c := range []struct {
		a, b int
		want api.Errno
	}{
		{file, dir, api.ErrIsDir},
		{dir, file, api.ErrIsDir},
		{dir, none, api.ErrNone},
		{dir, wild, api.ErrNumber},
		{dir, 0, api.ErrNumber},
		{none, dir, api.ErrNone},
		{wild, dir, api.ErrNumber},
		{file, none, api.ErrNone},
		{none, file, api.ErrNone},
		{file, -1, api.ErrNumber},
		{-1, file, api.ErrNumber},
		{none, wild, api.ErrNone},
		{wild, none, api.ErrNumber},
	} {
		fails(t, x, m, c.want, ofTwo(plain(c.a, c.b))...)
		fails(t, x, m, c.want, ofTwo(wrong(c.a, c.b))...)
	}
}

// All numbers that may be, in use.
func TestAllNumbers(t *testing.T) {
	x, m := made(t, 16, 8).empty(), model{}
	for range api.MaxInodes {
		put(t, x, m, api.KindFile, "")
	}
	for _, n := range []int{1, 2, 4095, api.MaxInodes} {
		other := api.MaxInodes + 1 - n
		for _, c := range plain(n, other) {
			check(t, x, m, call{op: "Write", n: n, s: "abcde", stamp: 2})
			check(t, x, m, c)
		}
		check(t, x, m, call{op: "Read", n: n, many: 99})
	}
	for _, n := range noNumbers {
		fails(t, x, m, api.ErrNumber, plain(n, 1)...)
	}
	holds(t, "behind all", x, m)
}

// Of the errors of one call that come behind its numbers', which is told.
func TestWhichErrorIsFirst(t *testing.T) {
	x, m := made(t, 16, 8).empty(), model{}
	n := put(t, x, m, api.KindFile, "abcd")
	long := zeros(api.MaxFile + 1)
	for _, at := range []int{-1, math.MinInt} {
		fails(t, x, m, api.ErrArg,
			call{op: "Write", n: n, at: at, s: long, stamp: 9},
			call{op: "Insert", n: n, at: at, s: long, stamp: 9},
			call{op: "Copy", n: n, at: at, to: n, place: math.MaxInt, many: 1, stamp: 9},
			call{op: "Copy", n: n, many: at, to: n, place: math.MaxInt, stamp: 9},
			call{op: "Copy", n: n, at: math.MaxInt, many: math.MaxInt, to: n, place: at, stamp: 9},
		)
	}
	fails(t, x, m, api.ErrArg, call{op: "Insert", n: n, at: 5, s: long, stamp: 9}, call{op: "Insert", n: n, at: math.MaxInt, s: long, stamp: 9})
	fails(t, x, m, api.ErrBig, call{op: "Insert", n: n, at: 4, s: long, stamp: 9}, call{op: "Append", n: n, s: long, stamp: 9})
}
