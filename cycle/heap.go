package cycle

import (
	"scutage/api"
	"scutage/shade"
	"scutage/store"
	"scutage/sweep"
	"scutage/trace"
	"scutage/word"
)

// heap is objects, their marks, and who goes through them. The zero one has nothing, and all can be asked of it.
type heap struct {
	objects *store.Store
	grey    *shade.Grey
	tracer  *trace.Tracer
	sweeper *sweep.Sweeper
	// The global object's address.
	global int
}

// newHeap has the global object alone.
func newHeap(c api.Config) heap {
	h := heap{objects: store.New(c.Pages, c.Threads+1), grey: shade.New(c.Stack)}
	h.tracer = trace.New(h.objects, h.grey, c.Pages, c.Chunk)
	h.sweeper = sweep.New(h.objects, h.grey, c.Pages)
	// The last thread is the collector's own: no other object is ever made from its page.
	h.global, _ = h.objects.Slow(c.Threads, api.Globals)
	return h
}

// has tells whether an object begins at a.
func (h *heap) has(a int) bool {
	return h.objects.Fields(a) >= 0
}

// takes tells whether v may be, and refers to an object, if it is a reference.
func (h *heap) takes(v api.Value) bool {
	return word.Check(v) == api.OK && (v.Kind != api.Reference || h.has(int(v.N)))
}

// marked tells whether an object begins at a, and is marked.
func (h *heap) marked(a int) bool {
	return h.has(a) && h.grey.Is(a)
}

// white tells whether v is a reference to an object that is not marked.
func (h *heap) white(v api.Value) bool {
	return v.Kind == api.Reference && h.has(int(v.N)) && !h.grey.Is(int(v.N))
}

// shade shades these addresses, in order.
func (h *heap) shade(addresses ...int) {
	for _, a := range addresses {
		h.grey.Shade(a)
	}
}

// unmark clears these addresses' marks.
func (h *heap) unmark(addresses ...int) {
	for _, a := range addresses {
		h.grey.Clear(a)
	}
}
