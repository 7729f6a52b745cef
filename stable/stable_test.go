package stable_test

import (
	"fmt"
	"math"
	"slices"
	"strings"
	"testing"

	"tollbar/api"
	"tollbar/conf"
	"tollbar/disk"
	"tollbar/entry"
	"tollbar/raft"
	"tollbar/stable"
	"tollbar/tape"
)

// short is a text of which the midst is left out where it is long.
func short(s string) string {
	if len(s) <= 600 {
		return s
	}
	return fmt.Sprintf("%s..(%d)..%s", s[:300], len(s), s[len(s)-300:])
}

// shown is what is kept, as a text, with all that is in it.
func shown(s raft.Stored) string {
	var b strings.Builder
	fmt.Fprintf(&b, "term %d vote %d conf %v snap %q log %d/%d", s.Term, s.Vote, s.Conf, s.Snap, s.Log.Base, s.Log.Term)
	for _, e := range s.Log.L {
		fmt.Fprintf(&b, " %d/%d:%d:%q", e.Index, e.Term, e.Kind, e.Data)
	}
	return b.String()
}

// nothing is what is kept where nothing is.
var nothing = shown(raft.Stored{})

// of is an entry.
func of(index, term, kind int, data string) entry.Entry {
	return entry.Entry{Index: index, Term: term, Kind: kind, Data: []byte(data)}
}

// logOf is a log.
func logOf(base, term int, l ...entry.Entry) entry.Log {
	return entry.Log{Base: base, Term: term, L: l}
}

// begun is what is kept at first.
func begun(who ...int) raft.Stored { return raft.Stored{Conf: who} }

// rich is something of which no part is empty.
func rich() raft.Stored {
	return raft.Stored{
		Term: 7, Vote: 3, Conf: conf.Conf{1, 2, 30}, Snap: []byte("a text\x00"),
		Log: logOf(5, 2, of(6, 2, entry.Order, "ab"), of(7, 4, entry.Member, "n2;n1;n2;"), of(8, 7, entry.Empty, "")),
	}
}

// with is something that is kept with a change.
func with(s raft.Stored, change func(s *raft.Stored)) raft.Stored {
	s.Log.L = slices.Clone(s.Log.L)
	change(&s)
	return s
}

// sized is something that is kept, of so many bytes as the save of a number.
func sized(t *testing.T, n, size int) raft.Stored {
	t.Helper()
	for length := max(0, size-50); length <= size; length++ {
		s := raft.Stored{Term: 1, Conf: conf.Conf{1, 2}, Snap: []byte(strings.Repeat("s", length))}
		if len(plain(n, s)) == size {
			return s
		}
	}
	t.Fatalf("nothing has %d bytes", size)
	return raft.Stored{}
}

// many are so many entries behind an index.
func many(index, n int) []entry.Entry {
	l := make([]entry.Entry, n)
	for i := range l {
		l[i] = of(index+1+i, 1, entry.Order, "")
	}
	return l
}

// mayBe are some that may be kept, by name.
func mayBe() map[string]raft.Stored {
	m := map[string]raft.Stored{
		"begun":            begun(1, 2, 3),
		"without 1":        begun(64),
		"of many":          begun(58, 59, 60, 61, 62, 63, 64),
		"rich":             rich(),
		"no entries":       with(rich(), func(s *raft.Stored) { s.Log.L = nil }),
		"no text":          with(rich(), func(s *raft.Stored) { s.Snap = nil }),
		"all let go":       {Term: api.MaxIndex, Vote: 64, Conf: conf.Conf{1}, Log: logOf(api.MaxIndex, api.MaxIndex)},
		"a late first":     {Term: api.MaxIndex, Conf: conf.Conf{1}, Log: logOf(0, 0, of(1, api.MaxIndex, entry.Order, "x"))},
		"up to the end":    {Term: 3, Conf: conf.Conf{1}, Log: logOf(api.MaxIndex-1, 2, of(api.MaxIndex, 3, entry.Order, "x"))},
		"the term of Base": {Term: 4, Conf: conf.Conf{1}, Log: logOf(9, 4)},
		"members of all":   {Term: 1, Conf: conf.Conf{1}, Log: logOf(0, 0, of(1, 1, entry.Member, "n7;n58;n59;n60;n61;n62;n63;n64;"))},
		"no members":       {Term: 1, Conf: conf.Conf{1}, Log: logOf(0, 0, of(1, 1, entry.Order, "n0;"), of(2, 1, entry.Empty, "?"))},
		"a long entry":     {Term: api.MaxIndex, Conf: conf.Conf{1}, Log: logOf(api.MaxIndex-1, api.MaxIndex, of(api.MaxIndex, api.MaxIndex, entry.Order, strings.Repeat("d", 4096)))},
		"many entries":     {Term: 1, Conf: conf.Conf{1}, Log: logOf(7, 1, many(7, api.MaxList)...)},
		"much text":        {Conf: conf.Conf{1}, Snap: []byte(strings.Repeat("t", api.MaxBytes))},
	}
	for _, n := range []int{1, 2, 63, 64} {
		m[fmt.Sprint("vote ", n)] = raft.Stored{Vote: n, Conf: conf.Conf{1}}
	}
	for _, n := range []int{1, 1 << 32, api.MaxIndex} {
		m[fmt.Sprint("term ", n)] = raft.Stored{Term: n, Conf: conf.Conf{1}}
	}
	return m
}

// noMembers are members that may not be, by name.
func noMembers() map[string]conf.Conf {
	return map[string]conf.Conf{
		"nil": nil, "none": {}, "0": {0}, "65": {65}, "-1": {-1}, "-1 and 1": {-1, 1}, "twice": {1, 1}, "twice at last": {1, 2, 3, 3},
		"descending": {2, 1}, "descending at last": {1, 3, 2}, "too many": {1, 2, 3, 4, 5, 6, 7, 8}, "65 at last": {1, 65},
		"far": {math.MinInt}, "far above": {1, math.MaxInt}, "1 as a byte": {257},
	}
}

// noLogs are logs that may not be, by name; the last term of those with entries is at most 3.
func noLogs() map[string]entry.Log {
	x := func(index, term int) entry.Entry { return of(index, term, entry.Order, "x") }
	return map[string]entry.Log{
		"Base alone": logOf(1, 0), "Term alone": logOf(0, 1), "Base below 0": logOf(-1, 1), "Term below 0": logOf(1, -1),
		"Base above": logOf(api.MaxIndex+1, 1), "Term above": logOf(1, api.MaxIndex+1),
		"above the end": logOf(api.MaxIndex, 1, x(api.MaxIndex+1, 1)),
		"too many":      logOf(7, 1, many(7, api.MaxList+1)...),
		"a gap ahead":   logOf(0, 0, x(2, 1)), "a gap behind Base": logOf(5, 1, x(7, 1)), "Base again": logOf(5, 1, x(5, 1)),
		"a gap": logOf(0, 0, x(1, 1), x(3, 1)), "twice": logOf(0, 0, x(1, 1), x(1, 1)), "backwards": logOf(0, 0, x(2, 1), x(1, 1)),
		"a term that falls": logOf(0, 0, x(1, 2), x(2, 1), x(3, 3)), "below Term": logOf(5, 2, x(6, 1), x(7, 3)),
		"the index 0": logOf(0, 0, x(0, 1)), "the term 0": logOf(0, 0, x(1, 0)), "a term below 0": logOf(0, 0, x(1, -1)),
		"a term above": logOf(0, 0, x(1, api.MaxIndex+1)),
		"the kind 3":   logOf(0, 0, of(1, 1, 3, "")), "the kind -1": logOf(0, 0, of(1, 1, -1, "")),
		"long data": logOf(0, 0, of(1, 1, entry.Order, strings.Repeat("d", 4097))),
	}
}

// mayNot are some that may not be kept, by name: for each of the reasons.
func mayNot() map[string]raft.Stored {
	m := map[string]raft.Stored{"nothing": {}}
	for _, n := range []int{-1, math.MinInt, api.MaxIndex + 1, math.MaxInt} {
		m[fmt.Sprint("term ", n)] = raft.Stored{Term: n, Conf: conf.Conf{1}}
	}
	for _, n := range []int{-1, math.MinInt, 65, 257, 1 << 32, api.MaxIndex, api.MaxIndex + 1, math.MaxInt} {
		m[fmt.Sprint("vote ", n)] = raft.Stored{Vote: n, Conf: conf.Conf{1}}
	}
	for n := range 7 {
		m[fmt.Sprint("below the last entry: ", n)] = with(rich(), func(s *raft.Stored) { s.Term = n })
	}
	for n := range 4 {
		m[fmt.Sprint("below Base: ", n)] = raft.Stored{Term: n, Conf: conf.Conf{1}, Log: logOf(9, 4)}
	}
	for i := range rich().Log.L {
		for _, n := range []int{-6, -1, 1, 2, 1 << 40} {
			m[fmt.Sprintf("the index of %d, %d off", i, n)] = with(rich(), func(s *raft.Stored) { s.Log.L[i].Index += n })
		}
	}
	for name, c := range noMembers() {
		m["members: "+name] = with(rich(), func(s *raft.Stored) { s.Conf = c })
		told := func(s *raft.Stored) { s.Log.L[1].Data = conf.Encode(c) }
		m["members of an entry: "+name] = with(rich(), told)
	}
	for _, data := range []string{"", "?", "n1;", "n1;n1", "n1;n1;n", "n2;n1;", "n1;n1;n2;", "i1;i1;"} {
		told := func(s *raft.Stored) { s.Log.L[1].Data = []byte(data) }
		m[fmt.Sprintf("the data %q of an entry", data)] = with(rich(), told)
	}
	for name, l := range noLogs() {
		m["log: "+name] = raft.Stored{Term: 9, Conf: conf.Conf{1}, Log: l}
	}
	return m
}

// disks is a new disk.
func disks(t *testing.T, size int) *disk.Disk {
	t.Helper()
	d, err := disk.New(size)
	if err != nil {
		t.Fatalf("disk of %d: %v", size, err)
	}
	return d
}

// arms lets the power go behind so many steps.
func arms(t *testing.T, d *disk.Disk, steps int) {
	t.Helper()
	if err := d.Arm(steps); err != nil {
		t.Fatalf("Arm: %v", err)
	}
}

// areas are those of the tapes on a disk.
func areas(d *disk.Disk) [2]tape.Area {
	half := d.Size() / 2
	return [2]tape.Area{{At: 0, Len: half}, {At: half, Len: d.Size() - half}}
}

// onDisk are a disk's bytes.
func onDisk(t *testing.T, d *disk.Disk) string {
	t.Helper()
	b, err := d.Read(0, d.Size())
	if err != nil {
		t.Fatalf("Read: %v", err)
	}
	return string(b)
}

// records are what stands on the two tapes.
func records(t *testing.T, d *disk.Disk) [2][]string {
	t.Helper()
	var all [2][]string
	for i, a := range areas(d) {
		_, l, err := tape.Open(d, a)
		if err != nil {
			t.Fatalf("tape %d: %v", i, err)
		}
		for _, b := range l {
			all[i] = append(all[i], string(b))
		}
	}
	return all
}

// laid is a disk with records on its tapes.
func laid(t *testing.T, size int, first, second []string) *disk.Disk {
	t.Helper()
	d := disks(t, size)
	for i, a := range areas(d) {
		x, _, err := tape.Open(d, a)
		if err != nil {
			t.Fatalf("tape %d: %v", i, err)
		}
		for _, b := range [][]string{first, second}[i] {
			if err := x.Append([]byte(b)); err != nil {
				t.Fatalf("tape %d: %v", i, err)
			}
		}
	}
	return d
}

// keeps looks at what a keeper has.
func keeps(t *testing.T, what string, k *stable.Keeper, n int, s raft.Stored) {
	t.Helper()
	if got := k.Saves(); got != n {
		t.Fatalf("%s: Saves %d, not %d", what, got, n)
	}
	if got, want := shown(k.Load()), shown(s); got != want {
		t.Fatalf("%s: Load %s, not %s", what, short(got), short(want))
	}
}

// opens opens a keeper, and must; of a disk that has nothing, for 1 and 2.
func opens(t *testing.T, what string, d *disk.Disk) *stable.Keeper {
	t.Helper()
	k, err := stable.Open(d, conf.Conf{1, 2})
	if err != nil || k == nil {
		t.Fatalf("%s: Open: %v, %v", what, k, err)
	}
	return k
}

// saves saves, and must.
func saves(t *testing.T, what string, k *stable.Keeper, s raft.Stored) {
	t.Helper()
	n := k.Saves()
	if err := k.Save(s); err != nil {
		t.Fatalf("%s: Save: %v", what, err)
	}
	keeps(t, what, k, n+1, s)
}

// still looks at that a call takes no step, and changes nothing on a disk that is on.
func still(t *testing.T, what string, d *disk.Disk, call func()) {
	t.Helper()
	before := onDisk(t, d)
	arms(t, d, 0)
	call()
	if d.Down() || d.Waits() != 0 || onDisk(t, d) != before {
		t.Fatalf("%s: it took a step: down %v, %d wait", what, d.Down(), d.Waits())
	}
	d.Start(nil)
}

// TestExample: the document's own.
func TestExample(t *testing.T) {
	d := disks(t, 4000)
	k, err := stable.Open(d, conf.Conf{1, 2, 3})
	if err != nil {
		t.Fatalf("Open: %v", err)
	}
	keeps(t, "empty", k, 1, begun(1, 2, 3))
}

// TestST2Nil: a nil Keeper for every call.
func TestST2Nil(t *testing.T) {
	var k *stable.Keeper
	for _, s := range []raft.Stored{{}, begun(1), rich()} {
		if err := k.Save(s); err != api.ErrArg {
			t.Errorf("Save: %v", err)
		}
	}
	if s := shown(k.Load()); s != nothing {
		t.Errorf("Load: %s", s)
	}
	if n := k.Saves(); n != 0 {
		t.Errorf("Saves: %d", n)
	}
}
