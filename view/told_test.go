package view_test

import (
	"slices"
	"testing"

	"scutage/api"
	"scutage/config"
	"scutage/graph"
	"scutage/machine"
	"scutage/view"
)

// step is any one of few threads, such as may do something.
func (r *rule) step() api.Step {
	x := api.Step{Kind: one(r, 1, 2, 3, 3, 3, 3, 4, 5, 6, 7, 8, 8, 8, 9, 9, 10, 10, 10, 10, 10), T: r.next(2)}
	switch x.Kind {
	case 2:
		if !r.seldom(6) {
			x.Kind = 10
		}
	case 3:
		x.N, x.Cost = int64(1+r.next(3)), 1
	case 4:
		x.N = int64(r.next(9) - 3)
	}
	if x.Kind == 7 || x.Kind == 9 || x.Kind == 10 {
		x.I = r.next(6)
	}
	if x.Kind == 9 || x.Kind == 10 {
		x.F = r.next(4)
	}
	if x.Kind == 10 {
		x.J = r.next(6)
	}
	return x
}

// TestTold: views of graphs and machines have no fault, all that is in them can be reached, and both are the same.
func TestTold(t *testing.T) {
	for i := range 30 {
		r := rule(i*15485863 + 7)
		g, _ := graph.New(config.Usual())
		m, _ := machine.New(config.Usual())
		c := g.Clone()
		for n := range 250 {
			x := r.step()
			a := m.Step(x)
			g.Do(x, a.Code)
			if n%9 > 0 {
				continue
			}
			v, w := g.View(), m.View()
			same(t, v, w, true)
			checks(t, v, api.OK)
			var serials []int64
			for _, n := range v.Nodes {
				serials = append(serials, n.Serial)
				finds(t, v, n.Serial)
			}
			reaches(t, v, serials...)
			counts(t, v, words(v))
			clones(t, v)
		}
		if g.Made() < 8 || len(g.View().Nodes) < 2 {
			t.Errorf("script %d tells too little: %d made, %d reached", i, g.Made(), len(g.View().Nodes))
		}
		same(t, c.View(), g.View(), false)
	}
}

// TestToldNew: a new graph's view, in numbers that the chapters tell.
func TestToldNew(t *testing.T) {
	g, _ := graph.New(config.Usual())
	v := g.View()
	checks(t, v, api.OK)
	counts(t, v, 5)
	reaches(t, v, 0)
	if n, ok := view.Find(v, 0); !ok || !slices.Equal(n.Fields, make([]api.Value, 4)) {
		t.Errorf("P27.1: Find(_, 0) = %v, %v", n, ok)
	}
}
