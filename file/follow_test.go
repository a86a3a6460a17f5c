package file_test

import (
	"maps"
	"math"
	"math/rand"
	"testing"

	"signet/api"
	"signet/file"
)

// 16.5

// What was written is read, all other bytes stay, and so do all other files.
func TestWhatWasWrittenIsRead(t *testing.T) {
	r := rand.New(rand.NewSource(1))
	s := made(t, 4096, 8)
	x, m := s.empty(), model{}
	for i := range 5 {
		put(t, x, m, api.KindFile, bytes(r.Intn(2000), i))
	}
	for i := range 400 {
		n, at, text := 1+r.Intn(5), r.Intn(3000), bytes(1+r.Intn(900), i)
		size := len(m[n].bytes)
		before, _ := file.Read(x, n, 0, math.MaxInt)
		end, err := file.Write(x, n, at, text, uint64(i))
		is(t, "Write", end, err, at+len(text))
		reads(t, x, n, at, len(text), text)
		reads(t, x, n, 0, min(at, size), before[:min(at, size)])
		if at > size {
			reads(t, x, n, size, at-size, zeros(at-size))
		}
		reads(t, x, n, end, math.MaxInt, before[min(end, size):])
		call{op: "Write", n: n, at: at, s: text, stamp: uint64(i)}.want(m)
		holds(t, "written", x, m)
		if i%40 == 0 {
			x, _ = s.commit(x)
		}
		if r.Intn(9) == 0 {
			check(t, x, m, call{op: "Truncate", n: n, many: r.Intn(2000), stamp: 1})
		}
	}
}

// 16.8

// What was put in and is taken out leaves the file as it was, but for its stamp.
func TestWhatWasPutInIsTakenOut(t *testing.T) {
	r := rand.New(rand.NewSource(2))
	s := made(t, 256, 8)
	x, m := s.empty(), model{}
	for i := range 5 {
		put(t, x, m, api.KindFile, bytes(r.Intn(2000), i))
	}
	x, _ = s.commit(x)
	for i := range 300 {
		n, text := 1+r.Intn(5), bytes(1+r.Intn(900), i)
		at := r.Intn(len(m[n].bytes) + 1)
		fine(t, "Insert", file.Insert(x, n, at, text, 5))
		reads(t, x, n, at, len(text), text)
		many, err := file.Remove(x, n, at, len(text), 6)
		is(t, "Remove", many, err, len(text))
		f := m[n]
		f.stamp = 6
		m[n] = f
		holds(t, "put in and taken out", x, m)
		if err := x.Touch(n, 1); err != api.OK {
			t.Fatal(err)
		}
		f.stamp = 1
		m[n] = f
		// By its digests, too, it is what it was.
		if many, err := x.New(); many != 0 || err != api.OK {
			t.Fatalf("New = %d, %d; want 0", many, err)
		}
	}
}

// What is found is read there, and at no place ahead of it.
func TestWhatIsFoundIsThere(t *testing.T) {
	r := rand.New(rand.NewSource(3))
	x, m := made(t, 16, 8).empty(), model{}
	few := make([]byte, 1500)
	for i := range few {
		few[i] = "ab\x00"[r.Intn(3)]
	}
	n := put(t, x, m, api.KindFile, string(few))
	found := 0
	for range 2000 {
		at, many := r.Intn(1500), r.Intn(12)
		text := string(few[r.Intn(1400):][:many])
		place, err := file.Find(x, n, at, text)
		if err != api.OK {
			t.Fatal(err)
		}
		last := place
		if place == -1 {
			last = len(few)
		} else {
			found++
			reads(t, x, n, place, many, text)
		}
		for i := at; i < last && i+many <= len(few); i++ {
			if string(few[i:i+many]) == text {
				t.Fatalf("Find(%d, %q) = %d, and it stands at %d", at, text, place, i)
			}
		}
	}
	if found < 500 {
		t.Errorf("%d were found", found)
	}
}

// Of the same things the same is told, however often it is asked.
func TestAskedAgain(t *testing.T) {
	x, m := made(t, 16, 8).empty(), model{}
	n := put(t, x, m, api.KindFile, bytes(700, 1))
	o := put(t, x, m, api.KindFile, bytes(600, 2)+zeros(300))
	for _, c := range plain(n, o) {
		y, z := x.Clone(), x.Clone()
		for range 3 {
			if a, b := c.do(y), c.do(z); a != b {
				t.Errorf("%s = %s and %s", c.brief(), a.brief(), b.brief())
			}
		}
		holds(t, "the one that was cloned", x, maps.Clone(m))
	}
}
