package disk

import (
	"slices"

	"signet/api"
)

// Cut sets a cut of the power.
func (d *Disk) Cut(c api.Cut) {
	if d == nil || c.Event < d.events || len(d.cuts) >= api.MaxCuts {
		return
	}
	d.cuts = append(d.cuts, c)
}

// Event is the next event: whether it takes place.
func (d *Disk) Event() (bool, api.Errno) {
	if d.Dead() {
		return false, api.ErrCut
	}
	takes, err := d.next()
	if takes {
		d.log = append(d.log, api.Raw{Kind: api.RawSwing})
	}
	return takes, err
}

// next counts an event: whether it takes place, and ErrCut, if the power fails at it.
func (d *Disk) next() (bool, api.Errno) {
	event := d.events
	d.events++
	ahead := slices.Contains(d.cuts, api.Cut{Event: event})
	behind := slices.Contains(d.cuts, api.Cut{Event: event, After: true})
	if ahead || behind {
		d.dead = true
		return !ahead, api.ErrCut
	}
	return true, api.OK
}

// Events is how many events there were.
func (d *Disk) Events() int {
	if d == nil {
		return 0
	}
	return d.events
}

// Dead tells whether the power is cut.
func (d *Disk) Dead() bool {
	return d == nil || d.dead
}

// Revive gives power again.
func (d *Disk) Revive() {
	if d != nil {
		d.dead = false
	}
}
