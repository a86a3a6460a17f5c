package node_test

import (
	"strings"
	"testing"

	"signet/api"
	"signet/node"
)

func TestFirstExamples(t *testing.T) {
	if _, err := node.Block(api.Node{Level: 0}); err != api.ErrArg {
		t.Errorf("Block of level 0: %d", err)
	}
	if _, err := node.Read(api.Block{}); err != api.ErrNode {
		t.Errorf("Read of zeros: %d", err)
	}
	n := api.Node{Level: 1}
	b, err := node.Block(n)
	if err != api.OK {
		t.Errorf("Block: %d", err)
	}
	if m, err := node.Read(b); m != n || err != api.OK || !node.Empty(m) {
		t.Errorf("Read of Block: %v, %d, %v", m, err, node.Empty(m))
	}
	if r, is := node.Decode(strings.Repeat("\x00", 36), 0); !node.None(r) || !is {
		t.Errorf("Decode of zeros: %v, %v", r, is)
	}
	if _, is := node.Decode("\x00\x00\x00\x00"+strings.Repeat("\x01", 32), 0); is {
		t.Error("Decode with the number 0 and a digest that is not zero: true")
	}
}
