package commit

import "signet/api"

// New is how many blocks would be new.
func (s *State) New() (int, api.Errno) {
	if s.Dead() {
		return 0, api.ErrCut
	}
	fresh, err := s.inodes.New()
	if err != api.OK || fresh == 0 {
		return 0, err
	}
	mapped, _ := Map(s.root.Blocks)
	return fresh + mapped + 1, api.OK
}

// Fits tells whether the working tree fits.
func (s *State) Fits() api.Errno {
	_, err := s.fitting()
	return err
}

// fitting is how many blocks would be new, if there is room for them.
func (s *State) fitting() (int, api.Errno) {
	fresh, err := s.New()
	if err != api.OK {
		return 0, err
	}
	if s.root.Used+fresh > s.root.Blocks-1 {
		return 0, api.ErrNoSpace
	}
	return fresh, api.OK
}
