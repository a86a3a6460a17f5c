package branch_test

import (
	"testing"

	"signet/api"
	"signet/branch"
	"signet/find"
)

// The chapter's example 1.
func TestExampleOne(t *testing.T) {
	x := made(t, 16, 8).empty()
	if err := branch.Begin(x, 1); err != api.OK {
		t.Fatal(err)
	}
	if n, err := branch.Mkdir(x, "/a", 1); n != 2 || err != api.OK {
		t.Error("Mkdir(/a)", n, err)
	}
	if n, err := branch.Create(x, "/a/b", 1); n != 3 || err != api.OK {
		t.Error("Create(/a/b)", n, err)
	}
	if n, err := branch.Create(x, "/a/d/", 1); n != 0 || err != api.ErrIsDir {
		t.Error("Create(/a/d/)", n, err)
	}
	if n, err := branch.Rmdir(x, "/a", 1, nil); n != 0 || err != api.ErrEmpty {
		t.Error("Rmdir(/a)", n, err)
	}
	if n, err := branch.Rename(x, "/a", "/a/c", 1, nil); n != 0 || err != api.ErrInside {
		t.Error("Rename(/a, /a/c)", n, err)
	}
	if err := branch.Link(x, "/a/b", "/c", 1); err != api.OK {
		t.Error("Link(/a/b, /c)", err)
	}
	if n, err := branch.Unlink(x, "/a/b", 1, nil); n != 3 || err != api.OK {
		t.Error("Unlink(/a/b)", n, err)
	}
	if i, err := find.Lookup(x, "/c"); i.Links != 1 || i.Number != 3 || err != api.OK {
		t.Error("Lookup(/c)", i, err)
	}
	if n, err := branch.Rmdir(x, "/", 1, nil); n != 0 || err != api.ErrPath {
		t.Error("Rmdir(/)", n, err)
	}
}

// The chapter's example 2.
func TestExampleTwo(t *testing.T) {
	x := made(t, 16, 8).empty()
	branch.Begin(x, 1)
	branch.Mkdir(x, "/a", 1)
	branch.Create(x, "/a/b", 1)
	branch.Mkdir(x, "/a/c", 1)
	branch.Create(x, "/a/c/d", 1)
	n, err := branch.Copy(x, "/a", "/e", 2)
	if i, _ := find.Lookup(x, "/e"); n != i.Number || n != 6 || err != api.OK {
		t.Error("Copy(/a, /e)", n, err, i)
	}
	if same, err := branch.Same(x, "/a", "/e"); !same || err != api.OK {
		t.Error("Same(/a, /e)", same, err)
	}
	if n, err := branch.Copy(x, "/a", "/a/x", 2); n != 0 || err != api.ErrInside {
		t.Error("Copy(/a, /a/x)", n, err)
	}
	if n, err := branch.RemoveAll(x, "/a", 2, nil); n != 4 || err != api.OK {
		t.Error("RemoveAll(/a)", n, err)
	}
}
