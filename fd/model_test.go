package fd_test

import (
	"math"
	"math/big"
	"slices"
	"testing"

	"signet/api"
	"signet/fd"
)

// good is all flags that may be, one by one.
var good = []int{
	1, 5, 13, // to read alone
	2, 18, 34, 50, // to write alone, with a cut, with an append, with both
	6, 22, 38, 54, // and made, if it is missing
	14, 30, 46, 62, // and made by this alone
	3, 19, 35, 51, // the same to read and to write
	7, 23, 39, 55,
	15, 31, 47, 63,
}

// plain is descriptors as a map of descriptions by their numbers.
type plain map[int]api.Open

// lay opens the least number that is not open.
func (p plain) lay(o api.Open) (int, api.Errno) {
	if len(p) == 64 {
		return 0, api.ErrFds
	}
	n := 0
	for p[n] != (api.Open{}) {
		n++
	}
	p[n] = o
	return n, api.OK
}

func (p plain) open(inode, flags int) (int, api.Errno) {
	if !slices.Contains(good, flags) {
		return 0, api.ErrFlags
	}
	if inode <= 0 || inode > 4096 {
		return 0, api.ErrArg
	}
	return p.lay(api.Open{Inode: inode, Flags: flags})
}

func (p plain) get(n int) (api.Open, api.Errno) {
	if o, ok := p[n]; ok {
		return o, api.OK
	}
	return api.Open{}, api.ErrFd
}

func (p plain) close(n int) api.Errno {
	_, err := p.get(n)
	delete(p, n)
	return err
}

func (p plain) dup(n int) (int, api.Errno) {
	o, err := p.get(n)
	if err != api.OK {
		return 0, err
	}
	return p.lay(o)
}

func (p plain) move(n, at int) api.Errno {
	o, err := p.get(n)
	if err != api.OK {
		return err
	}
	if at < 0 || at > 1048576 {
		return api.ErrSeek
	}
	p[n] = api.Open{Inode: o.Inode, Flags: o.Flags, At: at}
	return api.OK
}

func (p plain) seek(n, by, whence, size int) (int, api.Errno) {
	o, err := p.get(n)
	if err != api.OK {
		return 0, err
	}
	if whence < 0 || whence > 2 || size < 0 || size > 1048576 {
		return 0, api.ErrArg
	}
	// A sum of any ints may be greater than an int.
	sum := big.NewInt(int64([]int{0, o.At, size}[whence]))
	sum.Add(sum, big.NewInt(int64(by)))
	if sum.Sign() < 0 || sum.Cmp(big.NewInt(1048576)) > 0 {
		return 0, api.ErrSeek
	}
	at := int(sum.Int64())
	return at, p.move(n, at)
}

func (p plain) uses(inode int) int {
	many := 0
	for _, o := range p {
		if o.Inode == inode {
			many++
		}
	}
	return many
}

func (p plain) all() []int {
	var l []int
	for n := range p {
		l = append(l, n)
	}
	slices.Sort(l)
	return l
}

// outside is numbers that no descriptor has.
func outside() []int {
	return []int{-1, -2, -64, 64, 65, 128, 1 << 20, -1 << 32, 1 << 32, math.MinInt, math.MinInt + 1, math.MaxInt}
}

// numbers is all numbers of descriptors, and some that none has.
func numbers() []int {
	l := outside()
	for n := range api.MaxFds {
		l = append(l, n)
	}
	return l
}

// noInodes is numbers that no inode has.
func noInodes() []int {
	return []int{0, -1, 4097, -4096, 4098, 1 << 32, 1<<32 + 1, math.MinInt, math.MaxInt}
}

// holds asks of descriptors all that can be asked of them without changing anything.
func holds(t *testing.T, what string, f *fd.Fds, p plain) {
	t.Helper()
	for _, n := range numbers() {
		want, wantErr := p.get(n)
		if o, err := f.Get(n); o != want || err != wantErr {
			t.Errorf("%s: Get(%d) = %v, %d; want %v, %d", what, n, o, err, want, wantErr)
		}
	}
	if n := f.Len(); n != len(p) {
		t.Errorf("%s: Len = %d; want %d", what, n, len(p))
	}
	if l := f.All(); !slices.Equal(l, p.all()) {
		t.Errorf("%s: All = %v; want %v", what, l, p.all())
	}
	inodes := append(noInodes(), 1, 2, 3, 4095, 4096)
	for _, o := range p {
		inodes = append(inodes, o.Inode)
	}
	for _, inode := range inodes {
		if n := f.Uses(inode); n != p.uses(inode) {
			t.Errorf("%s: Uses(%d) = %d; want %d", what, inode, n, p.uses(inode))
		}
	}
}

// opens opens an inode, and asks for the number.
func opens(t *testing.T, f *fd.Fds, inode, flags, want int) {
	t.Helper()
	if n, err := f.Open(inode, flags); n != want || err != api.OK {
		t.Errorf("Open(%d, %d) = %d, %d; want %d", inode, flags, n, err, want)
	}
}

// moves lays a place.
func moves(t *testing.T, f *fd.Fds, n, at int) {
	t.Helper()
	if err := f.Move(n, at); err != api.OK {
		t.Errorf("Move(%d, %d) = %d", n, at, err)
	}
}

// closes closes descriptors.
func closes(t *testing.T, f *fd.Fds, l ...int) {
	t.Helper()
	for _, n := range l {
		if err := f.Close(n); err != api.OK {
			t.Errorf("Close(%d) = %d", n, err)
		}
	}
}

// opened is so many descriptors, each with an inode, flags and a place of its own.
func opened(t *testing.T, many int) (*fd.Fds, plain) {
	t.Helper()
	f, p := fd.New(), plain{}
	for n := range many {
		o := api.Open{Inode: 4096 - 7*n, Flags: good[n%len(good)], At: 1000 * n}
		opens(t, f, o.Inode, o.Flags, n)
		moves(t, f, n, o.At)
		p[n] = o
	}
	holds(t, "as they were opened", f, p)
	return f, p
}
