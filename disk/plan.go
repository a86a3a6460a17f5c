package disk

import "signet/api"

// Plan is what the adversary does from now on.
func (d *Disk) Plan(steps []api.Step) {
	if d == nil {
		return
	}
	d.plan = map[int][]api.Step{}
	for _, s := range steps {
		if s.Op >= d.ops && d.does(s) {
			d.plan[s.Op] = append(d.plan[s.Op], s)
		}
	}
}

// does tells whether a step does something. What it asks of At and Back holds for each kind, also for one that makes no use of them.
func (d *Disk) does(s api.Step) bool {
	return d.has(s.At) && s.Kind >= api.StepBlock && s.Kind <= api.StepAll && s.Back >= 0 && s.Back < s.Op
}

// tamper does a step of the adversary.
func (d *Disk) tamper(s api.Step) {
	switch s.Kind {
	case api.StepBlock:
		d.lay(s.At, s.Data)
	case api.StepBack:
		d.lay(s.At, d.past.was(s.Back, s.At))
	case api.StepAll:
		for at := range d.now {
			d.lay(at, d.past.was(s.Back, at))
		}
	}
}
