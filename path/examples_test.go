package path_test

import (
	"testing"

	"signet/api"
	"signet/path"
)

func TestFirstExamples(t *testing.T) {
	wantParse(t, "/a//b/./c/../d", told{names: []string{"a", "b", "d"}})
	wantParse(t, "/a/", told{names: []string{"a"}, dir: true})
	wantParse(t, "/..", told{dir: true})
	wantParse(t, "/", told{dir: true})
	wantParse(t, "a", told{err: api.ErrPath})
	wantParse(t, "/a/"+rep("p", 57), told{at: 3, err: api.ErrName})
}

func TestSecondExamples(t *testing.T) {
	wantPrint(t, []string{"a", "b"}, "/a/b", 0, api.OK)
	wantPrint(t, nil, "/", 0, api.OK)
	wantSplit(t, "/a/b", []string{"a"}, "b", api.OK)
	wantSplit(t, "/", nil, "", api.ErrPath)
	clean, err := path.Clean("//a/.")
	wantText(t, "Clean", clean, err, "/a", api.OK)
}

func TestThirdExamples(t *testing.T) {
	s, err := path.Join("/a/b", "../c")
	wantText(t, "Join", s, err, "/a/c", api.OK)
	s, err = path.Relative("/a/b", "/a/c/d")
	wantText(t, "Relative", s, err, "../c/d", api.OK)
	s, err = path.Relative("/a", "/a/")
	wantText(t, "Relative", s, err, ".", api.OK)
	if !path.Match("/a*/?", "/ab/c/") || path.Match("/*", "/a/b") {
		t.Error("Match(/a*/?, /ab/c/) or Match(/*, /a/b) is wrong")
	}
	if got := path.Compare([]string{"a"}, []string{"a", "b"}); got != -1 {
		t.Errorf("Compare([a], [a b]) = %d; want -1", got)
	}
	s, err = path.Common("/a/b", "/a/c")
	wantText(t, "Common", s, err, "/a", api.OK)
}
