package commit

import (
	"signet/api"
	"signet/inodes"
	"signet/node"
	"signet/super"
)

// Commit makes the working tree the committed one.
func (s *State) Commit() api.Errno {
	fresh, err := s.fitting()
	if err == api.OK && fresh > 0 {
		err = s.swing()
	}
	if err == api.ErrCut && s != nil {
		s.dead = true
	}
	return err
}

// swing does both phases.
func (s *State) swing() api.Errno {
	// Whatever others did with the room since the last swing has no part in the next tree.
	s.room.Back()
	// Behind the room's swing nothing is left that could go back.
	defer s.room.Back()
	n, err := s.layOut()
	if err != api.OK {
		return err
	}
	if err := s.write(n); err != api.OK {
		return err
	}
	if err := s.register.Write(n.slot); err != api.OK {
		return err
	}
	s.room.Swing()
	s.slot, s.root, s.mapped = n.slot, n.root, n.mapped
	// It is the working form itself that was handed out: it stands on another tree now.
	*s.inodes = *n.inodes
	return api.OK
}

// next is the working tree laid out: what is committed, when it is written and the register has swung.
type next struct {
	slot   api.Slot
	root   api.Super
	mapped []uint32
	inodes *inodes.Inodes
	writes []api.Write
}

// layOut lays the working tree out. All that has to be read is read here, and nothing is written.
func (s *State) layOut() (next, api.Errno) {
	out, err := s.inodes.Out(s.room.Take)
	if err != api.OK {
		return next{}, err
	}
	if err := s.letGo(out.Let); err != api.OK {
		return next{}, err
	}
	at, err := s.room.Take()
	if err != api.OK {
		return next{}, err
	}
	// Last of all, as the map has a bit for each block that was taken ahead.
	mapTree, mapWrites, err := layMap(s.cache, s.room)
	if err != api.OK {
		return next{}, err
	}
	n := next{writes: append(out.Writes, mapWrites...), mapped: numbers(mapWrites)}
	n.inodes, err = inodes.Open(s.cache, out.Table, out.High)
	if err != api.OK {
		return next{}, err
	}
	n.root = api.Super{
		Blocks:  s.root.Blocks,
		Counter: s.Stamp(),
		Table:   out.Table,
		Inodes:  out.High,
		Map:     mapTree,
		Used:    s.room.Count(api.RoomUsed) + s.room.Count(api.RoomTaken),
	}
	b, err := super.Encode(n.root)
	if err != api.OK {
		return next{}, err
	}
	n.writes = append(n.writes, api.Write{At: at, Data: b})
	n.slot = api.Slot{Counter: s.Stamp(), Root: node.Of(s.cache.Log(), at, b)}
	return n, api.OK
}

// letGo lets go what the next tree does not keep: these blocks of the inodes, the map's and the root block.
func (s *State) letGo(let []uint32) api.Errno {
	mapped := s.mapped
	if len(mapped) == 0 {
		var err api.Errno
		if mapped, err = blocksOf(s.cache, s.root.Map); err != api.OK {
			return err
		}
	}
	let = append(append(let, mapped...), s.slot.Root.At)
	_, err := s.room.LetAll(let)
	return err
}

// write writes what was laid out, and sets a barrier.
func (s *State) write(n next) api.Errno {
	// Where the register has gone on without this state, other blocks are used than its room says, and none may be written.
	now, err := s.register.Read()
	if err != api.OK {
		return err
	}
	if now.Counter != s.slot.Counter {
		return api.ErrBack
	}
	for _, w := range n.writes {
		if _, err := s.cache.Put(w.At, w.Data); err != api.OK {
			return err
		}
	}
	return s.cache.Disk().Barrier()
}
