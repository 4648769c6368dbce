package cycle_test

import (
	"slices"

	"scutage/api"
)

// The phases, as the chapter counts them.
const (
	idle = iota
	on
	scan
	tracing
	drain
	sweeping
)

const (
	// pageWords, addresses, mostRoots and mostFields are as the chapters ahead write them out.
	pageWords  = 32
	addresses  = 2048
	mostRoots  = 16
	mostFields = 127
	// large and other are the kinds of a large object's pages.
	large = 5
	other = 6
)

// sizes are the words of a cell of each small class, counts the cells of its page, and most the most fields of its objects, as the chapters ahead write them out; of no class at 0.
var (
	sizes  = []int{0, 2, 4, 8, 16}
	counts = []int{0, 16, 8, 4, 2}
	most   = []int{0, 1, 3, 7, 15}
)

// classOf is the class of an object with n fields.
func classOf(n int) int {
	for k := 1; k <= 4; k++ {
		if n <= most[k] {
			return k
		}
	}
	return large
}

// object is what stands at an address.
type object struct {
	serial int64
	fields []api.Value
}

// entry is what waits: an object's address, and from which field on.
type entry struct {
	at, from int
}

// thread is what a thread has.
type thread struct {
	live bool
	// Whether it has confirmed since the epoch was raised.
	agreed bool
	roots  []api.Value
	noted  []int
}

// plain is what a collector must be, in plain lists.
type plain struct {
	room, chunk int
	kinds       []int
	// The addresses of each small page's free cells, the first one first.
	free [][]int
	// Whose each page is; -1: nobody's.
	owner []int
	// What begins at each address; nil: no object.
	at    [addresses]*object
	made  int64
	marks [addresses]bool
	list  []entry
	over  bool
	// The page that is looked at next, again; -1: none.
	again int
	// The page that is swept next.
	next    int
	threads []thread
	phase   int
	cycles  int
	units   int
	global  int
}

// newPlain is a new collector's, of a config that may be.
func newPlain(c api.Config) *plain {
	m := &plain{
		room:    c.Stack,
		chunk:   c.Chunk,
		kinds:   make([]int, c.Pages),
		free:    make([][]int, c.Pages),
		owner:   slices.Repeat([]int{-1}, c.Pages),
		again:   -1,
		next:    c.Pages,
		threads: make([]thread, c.Threads),
	}
	m.global = m.make(c.Threads, 4)
	return m
}

// run is where n free pages begin that follow one another, the lowest ones; -1: there are none.
func (m *plain) run(n int) int {
	for p := range m.kinds {
		if p+n <= len(m.kinds) && !slices.ContainsFunc(m.kinds[p:p+n], func(kind int) bool { return kind != 0 }) {
			return p
		}
	}
	return -1
}

// own is the page that thread t has for class k; -1: none.
func (m *plain) own(t int, k int) int {
	for p, owner := range m.owner {
		if owner == t && m.kinds[p] == k {
			return p
		}
	}
	return -1
}

// open is a page of class k with a free cell that is thread t's then; -1: there is none.
func (m *plain) open(t int, k int) int {
	elder := m.own(t, k)
	if elder >= 0 && len(m.free[elder]) > 0 {
		return elder
	}
	p := -1
	for i, kind := range m.kinds {
		if p < 0 && kind == k && m.owner[i] == -1 && len(m.free[i]) > 0 {
			p = i
		}
	}
	if p < 0 {
		p = m.carve(k)
	}
	if p >= 0 {
		if elder >= 0 {
			m.owner[elder] = -1
		}
		m.owner[p] = t
	}
	return p
}

// carve makes the lowest free page be of class k; -1: there is none.
func (m *plain) carve(k int) int {
	p := m.run(1)
	if p >= 0 {
		m.kinds[p], m.free[p] = k, nil
		for i := range counts[k] {
			m.free[p] = append(m.free[p], p*pageWords+i*sizes[k])
		}
	}
	return p
}

// fits tells whether thread t's page has a free cell for an object with n fields.
func (m *plain) fits(t int, n int) bool {
	k := classOf(n)
	p := m.own(t, k)
	return k != large && p >= 0 && len(m.free[p]) > 0
}

// make makes an object with n fields for thread t, and answers where; -1: there is no room.
func (m *plain) make(t int, n int) int {
	k := classOf(n)
	if k == large {
		return m.span(n)
	}
	p := m.open(t, k)
	if p < 0 {
		return -1
	}
	a := m.free[p][0]
	m.free[p] = slices.Clone(m.free[p][1:])
	return m.begin(a, n)
}

func (m *plain) span(n int) int {
	// One word more than fields, and the last page need not be full.
	count := (1 + n + pageWords - 1) / pageWords
	p := m.run(count)
	if p < 0 {
		return -1
	}
	for i := range count {
		m.kinds[p+i] = other
	}
	m.kinds[p] = large
	return m.begin(p*pageWords, n)
}

// begin makes an object with n fields stand at a, and marks it as the chapter says.
func (m *plain) begin(a int, n int) int {
	m.at[a] = &object{serial: m.made, fields: make([]api.Value, n)}
	m.made++
	switch m.phase {
	case scan:
		m.shade(a)
	case tracing, drain:
		m.marks[a] = true
	case sweeping:
		m.marks[a] = m.next <= a/pageWords
	}
	return a
}

// drop frees the object at a.
func (m *plain) drop(a int) {
	m.at[a] = nil
	p := a / pageWords
	if m.kinds[p] != large {
		m.free[p] = append([]int{a}, m.free[p]...)
		return
	}
	m.kinds[p] = 0
	for p++; p < len(m.kinds) && m.kinds[p] == other; p++ {
		m.kinds[p] = 0
	}
}

// in are the addresses of the objects that begin in page p, rising.
func (m *plain) in(p int) []int {
	var l []int
	for a := p * pageWords; a < (p+1)*pageWords; a++ {
		if m.at[a] != nil {
			l = append(l, a)
		}
	}
	return l
}

// trim makes page p be free, if it is a small class's, nobody's, and has no object.
func (m *plain) trim(p int) {
	if m.kinds[p] != large && m.kinds[p] != other && m.owner[p] == -1 && len(m.in(p)) == 0 {
		m.kinds[p] = 0
	}
}

// freePages is how many pages are free.
func (m *plain) freePages() int {
	n := 0
	for _, kind := range m.kinds {
		if kind == 0 {
			n++
		}
	}
	return n
}

// rest lets e wait, if there is room.
func (m *plain) rest(e entry) {
	if len(m.list) == m.room {
		m.over = true
		return
	}
	m.list = append(m.list, e)
}

func (m *plain) shade(a int) {
	if !m.marks[a] {
		m.marks[a] = true
		m.rest(entry{a, 0})
	}
}

func (m *plain) shadeAll(fields []api.Value) {
	for _, v := range fields {
		if v.Kind == api.Reference {
			m.shade(int(v.N))
		}
	}
}

// nothingToDo tells whether the tracer has nothing to do.
func (m *plain) nothingToDo() bool {
	return len(m.list) == 0 && m.again < 0 && !m.over
}

// trace is a tracer's unit.
func (m *plain) trace() bool {
	if m.nothingToDo() {
		return false
	}
	if len(m.list) > 0 {
		e := m.list[len(m.list)-1]
		m.list = m.list[:len(m.list)-1]
		m.take(e)
		return true
	}
	if m.again < 0 {
		m.over, m.again = false, 0
	}
	for _, a := range m.in(m.again) {
		if m.marks[a] {
			m.shadeAll(m.at[a].fields)
		}
	}
	m.again++
	if m.again == len(m.kinds) {
		m.again = -1
	}
	return true
}

// take goes through what e says.
func (m *plain) take(e entry) {
	if m.at[e.at] == nil || e.from >= len(m.at[e.at].fields) {
		return
	}
	part := m.at[e.at].fields[e.from:]
	if len(part) > m.chunk {
		part = part[:m.chunk]
		m.rest(entry{e.at, e.from + m.chunk})
	}
	m.shadeAll(part)
}

// sweep is a sweeper's unit.
func (m *plain) sweep() {
	for _, a := range m.in(m.next) {
		if !m.marks[a] {
			m.drop(a)
		}
		m.marks[a] = false
	}
	m.trim(m.next)
	m.next++
}

// behind are the live threads that have not confirmed, rising.
func (m *plain) behind() []int {
	var l []int
	for t, x := range m.threads {
		if x.live && !x.agreed {
			l = append(l, t)
		}
	}
	return l
}

// live are the live threads, rising.
func (m *plain) live() []int {
	var l []int
	for t, x := range m.threads {
		if x.live {
			l = append(l, t)
		}
	}
	return l
}

// is tells whether t is live.
func (m *plain) is(t int) bool {
	return t >= 0 && t < len(m.threads) && m.threads[t].live
}

func (m *plain) raise() {
	for t := range m.threads {
		m.threads[t].agreed = false
	}
}

// lead is what follows when a thread has confirmed, has come or gone, or the epoch was raised.
func (m *plain) lead() {
	for len(m.behind()) == 0 {
		switch m.phase {
		case on:
			for t := range m.threads {
				m.threads[t].noted = nil
			}
			m.shade(m.global)
			m.phase = scan
			m.raise()
		case scan:
			m.phase = tracing
		case drain:
			m.phase = tracing
			if m.nothingToDo() && !slices.ContainsFunc(m.threads, func(x thread) bool { return len(x.noted) > 0 }) {
				m.phase, m.next = sweeping, 0
			}
		default:
			return
		}
	}
}

func (m *plain) start() bool {
	if m.phase != idle {
		return false
	}
	m.phase, m.units = on, 0
	m.raise()
	m.lead()
	return true
}

func (m *plain) attach(t int) bool {
	if t < 0 || t >= len(m.threads) || m.threads[t].live {
		return false
	}
	m.threads[t] = thread{live: true, agreed: true}
	m.lead()
	return true
}

func (m *plain) detach(t int) bool {
	if !m.is(t) {
		return false
	}
	if m.phase == scan || m.phase == tracing || m.phase == drain {
		for _, a := range m.threads[t].noted {
			m.shade(a)
		}
	}
	m.threads[t] = thread{}
	for p, owner := range m.owner {
		if owner == t {
			m.owner[p] = -1
			m.trim(p)
		}
	}
	m.lead()
	return true
}

func (m *plain) poll(t int) bool {
	if !m.is(t) || m.threads[t].agreed {
		return false
	}
	m.threads[t].agreed = true
	switch m.phase {
	case scan:
		m.shadeAll(m.threads[t].roots)
	case drain:
		for _, a := range m.threads[t].noted {
			m.shade(a)
		}
		m.threads[t].noted = nil
	}
	m.lead()
	return true
}

func (m *plain) unit() bool {
	switch m.phase {
	case tracing:
		if !m.trace() {
			m.phase = drain
			m.raise()
			m.lead()
			return false
		}
	case sweeping:
		m.sweep()
		if m.next == len(m.kinds) {
			m.phase = idle
			m.cycles++
		}
	default:
		return false
	}
	m.units++
	return true
}

// may tells whether v may be pushed or written.
func (m *plain) may(v api.Value) bool {
	switch v.Kind {
	case api.Nothing:
		return v.N == 0
	case api.Number:
		return v.N >= -1<<40 && v.N < 1<<40
	case api.Reference:
		return v.N >= 0 && v.N < addresses && m.at[v.N] != nil
	}
	return false
}

func (m *plain) push(t int, v api.Value) bool {
	if !m.is(t) || !m.may(v) || len(m.threads[t].roots) == mostRoots {
		return false
	}
	m.threads[t].roots = append(slices.Clone(m.threads[t].roots), v)
	return true
}

func (m *plain) pop(t int) (api.Value, bool) {
	if !m.is(t) || len(m.threads[t].roots) == 0 {
		return api.Value{}, false
	}
	l := m.threads[t].roots
	m.threads[t].roots = l[:len(l)-1]
	return l[len(l)-1], true
}

// roots are thread t's; nothing of one that is not live.
func (m *plain) roots(t int) []api.Value {
	if !m.is(t) {
		return nil
	}
	return m.threads[t].roots
}

// read is field i of the object at a; false: there is none.
func (m *plain) read(a int, i int) (api.Value, bool) {
	if a < 0 || a >= addresses || m.at[a] == nil || i < 0 || i >= len(m.at[a].fields) {
		return api.Value{}, false
	}
	return m.at[a].fields[i], true
}

func (m *plain) write(t int, a int, i int, v api.Value) bool {
	was, ok := m.read(a, i)
	if !ok || !m.is(t) || !m.may(v) {
		return false
	}
	x := &m.threads[t]
	notes := m.phase == scan || m.phase == tracing || m.phase == drain || m.phase == on && x.agreed
	if b := int(was.N); notes && was.Kind == api.Reference && !m.marks[b] && !slices.Contains(x.noted, b) {
		x.noted = append(slices.Clone(x.noted), b)
	}
	m.at[a].fields[i] = v
	return true
}

// stood are the addresses of the objects, rising.
func (m *plain) stood() []int {
	var l []int
	for p := range m.kinds {
		l = append(l, m.in(p)...)
	}
	return l
}

// marked are the addresses of the objects that are marked, rising.
func (m *plain) marked() []int {
	return slices.DeleteFunc(m.stood(), func(a int) bool { return !m.marks[a] })
}

// from are the addresses that can be reached from these, rising.
func (m *plain) from(l ...int) []int {
	l = slices.Clone(l)
	var met [addresses]bool
	for _, a := range l {
		met[a] = true
	}
	for i := 0; i < len(l); i++ {
		for _, v := range m.at[l[i]].fields {
			if v.Kind == api.Reference && !met[v.N] {
				met[v.N] = true
				l = append(l, int(v.N))
			}
		}
	}
	slices.Sort(l)
	return slices.Compact(l)
}

// reached are the addresses that can be reached from the live threads' roots and from the global object, rising.
func (m *plain) reached() []int {
	l := []int{m.global}
	for _, x := range m.threads {
		for _, v := range x.roots {
			if v.Kind == api.Reference {
				l = append(l, int(v.N))
			}
		}
	}
	return m.from(l...)
}
