package stack

import "slices"

// pile has room for some things, one on top of the other. The zero one has no room, and New did not make it.
type pile[E any] struct {
	room int
	// Whether one was lost for want of room, and that was not settled.
	lost bool
	// From the bottom on.
	things []E
}

// made tells whether New made p: no other one has room.
func (p *pile[E]) made() bool {
	return p.room > 0
}

// push lays e on top; if there is no room, false, and e is lost, which is noted.
func (p *pile[E]) push(e E) bool {
	if len(p.things) < p.room {
		p.things = append(p.things, e)
		return true
	}
	// One that New did not make has no room ever, and notes nothing.
	p.lost = p.made()
	return false
}

// pop is the topmost thing, which is gone then; zero and false, if there is none.
func (p *pile[E]) pop() (E, bool) {
	var none E
	if len(p.things) == 0 {
		return none, false
	}
	top := len(p.things) - 1
	e := p.things[top]
	// Else what is gone would still be kept, behind the end.
	p.things[top] = none
	p.things = p.things[:top]
	return e, true
}

// count is how many things there are.
func (p *pile[E]) count() int {
	return len(p.things)
}

// over tells whether a loss is noted.
func (p *pile[E]) over() bool {
	return p.lost
}

// settle tells whether a loss was noted; none is then.
func (p *pile[E]) settle() bool {
	was := p.lost
	p.lost = false
	return was
}

// all is the things, from the bottom on.
func (p *pile[E]) all() []E {
	return slices.Clone(p.things)
}

// copied is a pile of the same things, room and note, apart from p.
func (p *pile[E]) copied() pile[E] {
	return pile[E]{room: p.room, lost: p.lost, things: p.all()}
}
