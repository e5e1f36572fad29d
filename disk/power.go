package disk

import "homestead/api"

// power is there, or has failed; while it is there it may be bound to fail, behind the steps that are left.
type power struct {
	failed, bound bool
	left          int
}

// bind has the power fail behind n steps (0 of a number below 0), unless it has failed.
func (p *power) bind(n int) {
	if !p.failed {
		*p = power{bound: true, left: max(n, 0)}
	}
}

// step takes one, or has the power fail if none is left.
func (p *power) step() api.Errno {
	if !p.bound {
		return api.OK
	}
	if p.left == 0 {
		*p = power{failed: true}
		return api.ErrDown
	}
	p.left--
	return api.OK
}

// restore brings the power back, bound to nothing.
func (p *power) restore() {
	*p = power{}
}
