package graph

import "scutage/api"

// thread is one that may be live. One that is not live is zero: it holds nothing.
type thread struct {
	held
	live bool
}

// held is values, one on top of the other.
type held struct {
	count int
	// As many as there may be, in each one: to copy the struct is to copy the values.
	values [api.MaxRoots]api.Value
}

// full tells whether there is no room.
func (h *held) full() bool {
	return h.count == len(h.values)
}

// push lays v on top; ErrCount, if there is no room.
func (h *held) push(v api.Value) api.Errno {
	if h.full() {
		return api.ErrCount
	}
	h.values[h.count] = v
	h.count++
	return api.OK
}

// get is value i, from the bottom on; ErrRange, if there is none.
func (h *held) get(i int) (api.Value, api.Errno) {
	if i < 0 || i >= h.count {
		return api.Value{}, api.ErrRange
	}
	return h.values[i], api.OK
}

// pop is the topmost value, which is gone then; ErrRange, if there is none.
func (h *held) pop() (api.Value, api.Errno) {
	v, e := h.get(h.count - 1)
	if e == api.OK {
		h.count--
	}
	return v, e
}

// all is the values, from the bottom on.
func (h *held) all() []api.Value {
	all := make([]api.Value, h.count)
	copy(all, h.values[:])
	return all
}
