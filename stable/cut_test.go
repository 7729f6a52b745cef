package stable_test

import (
	"fmt"
	"testing"

	"tollbar/api"
	"tollbar/conf"
	"tollbar/disk"
	"tollbar/raft"
	"tollbar/stable"
)

// cutting is a save on a disk, at each of whose steps the power goes.
type cutting struct {
	name  string
	d     *disk.Disk // as it is ahead of the save
	old   raft.Stored
	n     int // the number of what was saved last
	next  raft.Stored
	reset bool // whether the save lets a tape go
}

// cuttings are saves of each kind: on the first and on the second tape, going on there and going over to the other one.
func cuttings(t *testing.T) []cutting {
	t.Helper()
	first := func(l ...raft.Stored) []string {
		var all []string
		for i, s := range l {
			all = append(all, plain(i+1, s))
		}
		return all
	}
	full := len(first(voted(1))[0])*2 + 10
	a, b, c := voted(1), voted(2), rich()
	behind := []string{plain(5, b), plain(6, a)}
	return []cutting{
		{"on the first one", laid(t, 600, first(a), nil), a, 1, c, false},
		{"on the second one", laid(t, 600, nil, first(a, b)), b, 2, c, false},
		{"on the first one, the second one being old", laid(t, 600, behind, first(c)), a, 6, c, false},
		{"up to the first one's end", laid(t, 2*full, first(a), nil), a, 1, b, false},
		{"up to the second one's end", laid(t, 2*full, nil, first(a)), a, 1, b, false},
		{"over to the second one", laid(t, 2*full, first(b, a), nil), a, 2, b, true},
		{"over to the second one, which is old", laid(t, 2*full, behind, first(a)), a, 6, b, true},
		{"over to the first one", laid(t, 2*full, nil, first(b, a)), a, 2, b, true},
		{"over to the first one, which is old", laid(t, 2*full, first(a, b), behind), a, 6, b, true},
	}
}

// TestST3Cut: the power going within each step of a save, whatever is kept: opened again it is what was saved last, or, once the mark was written and is kept, what the save should have saved; and it can be saved to on.
func TestST3Cut(t *testing.T) {
	for _, x := range cuttings(t) {
		steps, mark := 4, 2
		if x.reset {
			steps, mark = 6, 4
		}
		for step := range steps {
			for whole := range 2 {
				for part := range 3 + len(plain(x.n+1, x.next)) {
					d := x.d.Clone()
					k := opens(t, x.name, d)
					keeps(t, x.name, k, x.n, x.old)
					arms(t, d, step)
					what := fmt.Sprintf("%s, step %d, kept %d %d", x.name, step, whole, part)
					if err := k.Save(x.next); err != api.ErrDown {
						t.Fatalf("%s: %v", what, err)
					}
					keeps(t, what, k, x.n, x.old)
					unopened(t, what, d, conf.Conf{1}, api.ErrDown)
					d.Start([]int{whole, part})
					n, s := x.n, x.old
					if step >= mark && (whole == 1 || part%2 == 1) {
						n, s = x.n+1, x.next
					}
					goesOn(t, what, d, n, s)
				}
			}
		}
		d := x.d.Clone()
		k := opens(t, x.name, d)
		arms(t, d, steps)
		saves(t, x.name, k, x.next)
		d.Sync()
		d.Start(nil)
		goesOn(t, x.name, d, x.n+1, x.next)
	}
}

// goesOn looks at what is opened again, twice, and at that it can be saved to on.
func goesOn(t *testing.T, what string, d *disk.Disk, n int, s raft.Stored) {
	t.Helper()
	still(t, what, d, func() { keeps(t, what, opens(t, what, d), n, s) })
	k := opens(t, what, d)
	keeps(t, what, k, n, s)
	for i := range 5 {
		next := raft.Stored{Term: 90 + i, Conf: conf.Conf{3}}
		saves(t, what, k, next)
		keeps(t, what, opens(t, what, d), n+1+i, next)
	}
}

// TestST3First: the power going within each step of the first save: opened again it is that one, or is begun anew, for whom it is opened then.
func TestST3First(t *testing.T) {
	for size, steps := range map[int]int{69: 6, 70: 4} {
		for step := range steps {
			for whole := range 2 {
				for part := range 35 {
					d := disks(t, size)
					arms(t, d, step)
					what := fmt.Sprintf("%d bytes, step %d, kept %d %d", size, step, whole, part)
					unopened(t, what, d, conf.Conf{1}, api.ErrDown)
					d.Start([]int{whole, part})
					who := 8
					if step >= steps-2 && (whole == 1 || part%2 == 1) {
						who = 1
					}
					k, err := stable.Open(d, conf.Conf{8})
					if err != nil {
						t.Fatalf("%s: %v", what, err)
					}
					keeps(t, what, k, 1, begun(who))
					keeps(t, what, opens(t, what, d), 1, begun(who))
				}
			}
		}
	}
}

// TestST3Saves: saves one behind the other, the power being off and on between them too: opened again it is what was saved last, with Saves as it was.
func TestST3Saves(t *testing.T) {
	d := disks(t, 500)
	k := opens(t, "empty", d)
	for n := range 40 {
		s := voted(n % 7)
		saves(t, fmt.Sprint("save ", n), k, s)
		if n%3 == 0 {
			arms(t, d, 0)
			d.Sync()
			d.Start([]int{n, n})
		}
		if n%2 == 0 {
			k = opens(t, fmt.Sprint("behind save ", n), d)
		}
		keeps(t, fmt.Sprint("behind save ", n), k, n+2, s)
	}
}
