package quota_test

import (
	"fmt"
	"maps"
	"math/rand"
	"slices"
	"testing"

	"tollbar/api"
	"tollbar/pair"
	"tollbar/quota"
)

// model is the tree in plain words: all is worked out anew, by whole numbers, from what was asked for.
type model struct {
	nodes map[string]quota.Node
	uses  map[string]quota.Use
}

func newModel() *model {
	return &model{nodes: map[string]quota.Node{}, uses: map[string]quota.Use{}}
}

// modelOf is the model of a tree.
func modelOf(q *quota.Tree) *model {
	m := newModel()
	for _, name := range q.Nodes() {
		m.nodes[name], _ = q.Node(name)
	}
	for _, u := range q.Uses() {
		m.uses[u.ID] = u
	}
	return m
}

// kinds are an amount's numbers.
func kinds(c complex128) [2]int { return [2]int{int(real(c)), int(imag(c))} }

func plus(a, b [2]int) [2]int { return [2]int{a[0] + b[0], a[1] + b[1]} }

func (m *model) total(name string) [2]int {
	sum := kinds(m.nodes[name].Own)
	for _, n := range m.nodes {
		if n.Parent == name {
			sum = plus(sum, m.total(n.Name))
		}
	}
	return sum
}

func (m *model) here(name string) [2]int {
	var sum [2]int
	for _, u := range m.uses {
		if u.Node == name {
			sum = plus(sum, kinds(u.Amount))
		}
	}
	return sum
}

func (m *model) used(name string) [2]int {
	sum := m.here(name)
	for _, n := range m.nodes {
		if n.Parent == name {
			sum = plus(sum, m.used(n.Name))
		}
	}
	return sum
}

func (m *model) claim(name string) [2]int {
	used, total, lend := m.used(name), m.total(name), kinds(m.nodes[name].Lend)
	var claim [2]int
	for i := range claim {
		claim[i] = max(used[i], total[i]-lend[i], 0)
	}
	return claim
}

func (m *model) limit(name string) [2]int {
	if n := m.nodes[name]; n.Parent != "" {
		return plus(m.total(name), kinds(n.Borrow))
	}
	return m.total(name)
}

// holds tells whether the model's tree holds.
func (m *model) holds() bool {
	for name := range m.nodes {
		need, limit := m.here(name), m.limit(name)
		for _, n := range m.nodes {
			if n.Parent == name {
				need = plus(need, m.claim(n.Name))
			}
		}
		if need[0] > limit[0] || need[1] > limit[1] {
			return false
		}
	}
	return true
}

// over tells whether something of the model's is more than MaxAmount.
func (m *model) over(of func(string) [2]int) bool {
	for name := range m.nodes {
		if n := of(name); n[0] > most || n[1] > most {
			return true
		}
	}
	return false
}

func isName(s string) bool {
	for i := range len(s) {
		if s[i] <= ' ' || s[i] >= 0x7f {
			return false
		}
	}
	return len(s) >= 1 && len(s) <= api.MaxLabel
}

func amounts(n quota.Node) bool { return pair.May(n.Own) && pair.May(n.Borrow) && pair.May(n.Lend) }

func (m *model) hasNode(name string) bool { _, ok := m.nodes[name]; return ok }

func (m *model) hasUse(id string) bool { _, ok := m.uses[id]; return ok }

// with is the model after a change.
func (m *model) with(change func(*model)) *model {
	other := &model{nodes: maps.Clone(m.nodes), uses: maps.Clone(m.uses)}
	change(other)
	return other
}

// The calls of the model answer the error, and the model that is behind it.

func (m *model) addNode(n quota.Node) (*model, api.Errno) {
	then := m.with(func(o *model) { o.nodes[n.Name] = n })
	switch {
	case !isName(n.Name):
		return m, api.ErrName
	case !amounts(n):
		return m, api.ErrArg
	case m.hasNode(n.Name):
		return m, api.ErrTwice
	case n.Parent != "" && !m.hasNode(n.Parent):
		return m, api.ErrNone
	case len(m.nodes) == api.MaxNodes:
		return m, api.ErrFull
	case then.over(then.total):
		return m, api.ErrOver
	}
	return then, none
}

func (m *model) removeNode(name string) (*model, api.Errno) {
	if !m.hasNode(name) {
		return m, api.ErrNone
	}
	for _, n := range m.nodes {
		if n.Parent == name {
			return m, api.ErrUsed
		}
	}
	for _, u := range m.uses {
		if u.Node == name {
			return m, api.ErrUsed
		}
	}
	then := m.with(func(o *model) { delete(o.nodes, name) })
	if !then.holds() {
		return m, api.ErrUsed
	}
	return then, none
}

func (m *model) set(n quota.Node) (*model, api.Errno) {
	if !amounts(n) {
		return m, api.ErrArg
	}
	if !m.hasNode(n.Name) {
		return m, api.ErrNone
	}
	n.Parent = m.nodes[n.Name].Parent
	then := m.with(func(o *model) { o.nodes[n.Name] = n })
	switch {
	case then.over(then.total):
		return m, api.ErrOver
	case !then.holds():
		return m, api.ErrUsed
	}
	return then, none
}

func (m *model) admit(u quota.Use) (*model, api.Errno) {
	then := m.with(func(o *model) { o.uses[u.ID] = u })
	switch {
	case !isName(u.ID):
		return m, api.ErrName
	case !pair.May(u.Amount):
		return m, api.ErrArg
	case m.hasUse(u.ID):
		return m, api.ErrTwice
	case !m.hasNode(u.Node):
		return m, api.ErrNone
	case len(m.uses) == api.MaxUses:
		return m, api.ErrFull
	case then.over(then.used):
		return m, api.ErrOver
	case !then.holds():
		return m, api.ErrQuota
	}
	return then, none
}

func (m *model) release(id string) (*model, api.Errno) {
	if !m.hasUse(id) {
		return m, api.ErrNone
	}
	return m.with(func(o *model) { delete(o.uses, id) }), none
}

// room is the greatest number of one kind, found by halves, and each by itself.
func (m *model) room(name string, kind int) int {
	low, high := 0, most+1
	for high-low > 1 {
		var n [2]int
		n[kind] = (low + high) / 2
		if _, err := m.admit(use("~~~", name, c(n[0], n[1]))); err == none {
			low = n[kind]
		} else {
			high = n[kind]
		}
	}
	return low
}

// encode are the model's bytes.
func (m *model) encode() string {
	var nodes, uses []string
	for _, name := range slices.Sorted(maps.Keys(m.nodes)) {
		n := m.nodes[name]
		own, borrow, lend := kinds(n.Own), kinds(n.Borrow), kinds(n.Lend)
		nodes = append(nodes, onNode(n.Name, n.Parent, own[0], own[1], borrow[0], borrow[1], lend[0], lend[1]))
	}
	for _, id := range slices.Sorted(maps.Keys(m.uses)) {
		u := m.uses[id]
		n := kinds(u.Amount)
		uses = append(uses, onUse(u.ID, u.Node, n[0], n[1]))
	}
	return onTree(nodes, uses...)
}

// draw draws calls from a few names and amounts, so that they meet.
type draw struct {
	r     *rand.Rand
	names int
	most  int // of an amount's part, for the most part
}

func (d draw) name() string {
	if d.r.Intn(60) == 0 {
		return []string{"", " ", "x", "n0\n"}[d.r.Intn(4)]
	}
	return fmt.Sprintf("n%d", d.r.Intn(d.names))
}

func (d draw) id() string {
	if d.r.Intn(60) == 0 {
		return []string{"", " ", "y", "u0\x7f"}[d.r.Intn(4)]
	}
	return fmt.Sprintf("u%d", d.r.Intn(2*d.names))
}

func (d draw) part() int {
	if d.r.Intn(60) == 0 {
		return most - d.r.Intn(3)
	}
	return d.r.Intn(d.most + 1)
}

func (d draw) amount() complex128 {
	if d.r.Intn(100) == 0 {
		return nones()[d.r.Intn(len(nones()))]
	}
	return c(d.part(), d.part())
}

func (d draw) node() quota.Node {
	n := node(d.name(), d.name(), d.amount(), d.amount(), d.amount())
	if d.r.Intn(4) == 0 {
		n.Parent = ""
	}
	return n
}

// call does one call to both, and answers what it was, and both errors.
func (d draw) call(q *quota.Tree, m *model) (string, error, *model, api.Errno) {
	switch d.r.Intn(9) {
	case 0, 1:
		n := d.node()
		then, want := m.addNode(n)
		return fmt.Sprintf("AddNode of %v", n), q.AddNode(n), then, want
	case 2:
		name := d.name()
		then, want := m.removeNode(name)
		return fmt.Sprintf("RemoveNode of %q", name), q.RemoveNode(name), then, want
	case 3, 4:
		n := d.node()
		then, want := m.set(n)
		return fmt.Sprintf("Set of %v", n), q.Set(n), then, want
	case 5:
		id := d.id()
		then, want := m.release(id)
		return fmt.Sprintf("Release of %q", id), q.Release(id), then, want
	}
	u := use(d.id(), d.name(), d.amount())
	then, want := m.admit(u)
	return fmt.Sprintf("Admit of %v", u), q.Admit(u), then, want
}

// same looks at all that a tree tells against the model.
func same(t *testing.T, what string, q *quota.Tree, m *model) {
	t.Helper()
	if got, want := string(q.Encode()), m.encode(); got != want {
		t.Fatalf("%s: %s, not %s", what, got, want)
	}
	for name, n := range m.nodes {
		got, err := q.Node(name)
		total, err2 := q.Total(name)
		used, err3 := q.Used(name)
		if got != n || kinds(total) != m.total(name) || kinds(used) != m.used(name) || err != nil || err2 != nil || err3 != nil {
			t.Fatalf("%s: %s is %v, total %v, used %v (%v, %v, %v)", what, name, got, total, used, err, err2, err3)
		}
		// QU5 in its own words.
		if n.Parent != "" {
			total += n.Borrow
		}
		if real(used) > real(total) || imag(used) > imag(total) {
			t.Fatalf("%s: at %s %v is used, of %v", what, name, used, total)
		}
	}
}

// TestQU5Drawn: drawn calls answer as those of the plain tree do, and it holds at all times.
func TestQU5Drawn(t *testing.T) {
	met := map[string]int{}
	for seed := range 60 {
		d := draw{r: rand.New(rand.NewSource(int64(seed))), names: 2 + seed%7, most: []int{1, 3, 9, 30}[seed%4]}
		q, m := quota.New(), newModel()
		for range 400 {
			what, err, then, want := d.call(q, m)
			if number(err) != want {
				t.Fatalf("Seed %d: %s: %v, not %d, at %s", seed, what, err, want, m.encode())
			}
			m = then
			met[fmt.Sprintf("%.5s %d", what, want)]++
			if !m.holds() || m.over(m.total) || m.over(m.used) {
				t.Fatalf("Seed %d: %s: it does not hold: %s", seed, what, m.encode())
			}
			same(t, what, q, m)
			if d.r.Intn(40) == 0 {
				q = decodes(t, string(q.Encode()))
			}
			if d.r.Intn(40) == 0 {
				q = q.Clone()
			}
		}
		for name := range m.nodes {
			if want := c(m.room(name, 0), m.room(name, 1)); len(m.uses) < api.MaxUses {
				room(t, q, name, want)
			}
		}
	}
	for _, way := range []string{"AddNo 0", "AddNo 1", "AddNo 5", "AddNo 6", "AddNo 8", "AddNo 9", "Remov 0", "Remov 8", "Remov 21", "Set o 0", "Set o 1", "Set o 5", "Set o 8", "Set o 21", "Admit 0", "Admit 1", "Admit 5", "Admit 6", "Admit 8", "Admit 9", "Admit 20", "Relea 0", "Relea 8"} {
		if met[way] < 10 {
			t.Errorf("%s was met %d times", way, met[way])
		}
	}
}

// TestQU5Order: what is used and what is there tell all: however a tree came to it, it answers the same.
func TestQU5Order(t *testing.T) {
	d := draw{r: rand.New(rand.NewSource(5)), names: 6, most: 9}
	for range 40 {
		q, m := quota.New(), newModel()
		for range 100 {
			_, _, m, _ = d.call(q, m)
		}
		again := decodes(t, string(q.Encode()))
		for range 100 {
			what := d.r.Int63()
			one, two := draw{rand.New(rand.NewSource(what)), 6, 9}, draw{rand.New(rand.NewSource(what)), 6, 9}
			said, err, then, _ := one.call(q, m)
			_, err2, _, _ := two.call(again, m)
			if number(err) != number(err2) || string(q.Encode()) != string(again.Encode()) || told(q) != told(again) {
				t.Fatalf("%s: %v and %v, %s and %s", said, err, err2, q.Encode(), again.Encode())
			}
			m = then
		}
	}
}
