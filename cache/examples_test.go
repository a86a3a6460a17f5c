package cache_test

import (
	"testing"

	"signet/api"
)

func TestFirstExamples(t *testing.T) {
	b := full(1)
	s := made(t, 4)
	r := s.puts(3, b, wrote(b))
	if r.At != 3 {
		t.Errorf("Put: %v", r)
	}
	s.gets(r, b, hit())
	if !s.c.Has(r) {
		t.Error("Has: false")
	}
	s.fails(ref(3, full(2)), api.ErrTampered, bad())
	s.gets(api.Ref{}, api.Block{}, change{})

	s = made(t, 0)
	r = s.puts(3, b, wrote(b))
	s.gets(r, b, read())
	s.gets(r, b, read())
}

func TestSecondExamples(t *testing.T) {
	s := made(t, 1)
	s.puts(3, full(1), wrote(full(1)))
	s.has(s.puts(4, full(2), wrote(full(2))))
}

func TestThirdExamples(t *testing.T) {
	b := full(1)
	s := made(t, 4)
	r := s.puts(3, b, wrote(b))
	s.lay(3, full(2))
	s.gets(r, b, hit())
	s.sweeps([]api.Ref{r}, bad(full(2)))
	s.fails(r, api.ErrTampered, bad())
}
