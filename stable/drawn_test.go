package stable_test

import (
	"bytes"
	"fmt"
	"math/rand"
	"slices"
	"strconv"
	"strings"
	"testing"

	"tollbar/api"
	"tollbar/conf"
	"tollbar/disk"
	"tollbar/entry"
	"tollbar/raft"
	"tollbar/stable"
)

// drawnConf are members.
func drawnConf(r *rand.Rand) conf.Conf {
	c := conf.Conf(r.Perm(64)[:1+r.Intn(api.MaxMembers)])
	for i := range c {
		c[i]++
	}
	slices.Sort(c)
	return c
}

// drawnText are bytes, at most so many.
func drawnText(r *rand.Rand, most int) []byte {
	b := make([]byte, r.Intn(1+r.Intn(most+1)))
	for i := range b {
		b[i] = "\x00\x01\x02nb;:a"[r.Intn(8)]
	}
	return b
}

// drawn is something that may be kept.
func drawn(r *rand.Rand, most int) raft.Stored {
	s := raft.Stored{Vote: r.Intn(65), Conf: drawnConf(r), Snap: drawnText(r, most)}
	if r.Intn(3) > 0 {
		s.Log.Base, s.Log.Term = 1+r.Intn(1<<r.Intn(40)), 1+r.Intn(1<<r.Intn(30))
	}
	term := max(1, s.Log.Term)
	for i := range r.Intn(5) {
		term += r.Intn(3) / 2
		e := entry.Entry{Index: s.Log.Base + 1 + i, Term: term, Kind: r.Intn(3), Data: drawnText(r, most/4)}
		if e.Kind == entry.Member {
			e.Data = []byte(plainConf(drawnConf(r)))
		}
		s.Log.L = append(s.Log.L, e)
	}
	s.Term = term + r.Intn(1<<r.Intn(35))
	if len(s.Log.L) == 0 && s.Log.Term == 0 {
		s.Term--
	}
	return s
}

// run is a keeper on its way, and what must be kept: n and s; where a save was cut short, next may be it instead.
type run struct {
	r    *rand.Rand
	d    *disk.Disk
	k    *stable.Keeper
	n    int
	s    raft.Stored
	next raft.Stored
	dead bool
}

// target is where a save of so many bytes goes by what stands on the tapes: which tape, and whether it is let go; -1, if there is no room.
func (x *run) target(t *testing.T, size int) (int, bool) {
	t.Helper()
	all := records(t, x.d)
	on := 0
	if !slices.Contains(all[0], plain(x.n, x.s)) {
		on = 1
	}
	used := 0
	for _, b := range all[on] {
		used += 5 + len(b)
	}
	a := areas(x.d)
	switch {
	case size <= a[on].Len-used-5:
		return on, false
	case size <= a[1-on].Len-5:
		return 1 - on, true
	}
	return -1, false
}

// save saves something that is drawn.
func (x *run) save(t *testing.T) {
	t.Helper()
	s := drawn(x.r, 1<<x.r.Intn(9))
	switch x.r.Intn(8) {
	case 0:
		s = x.s
	case 1:
		s.Vote = 65 + x.r.Intn(9)
	case 2:
		s = with(x.s, func(s *raft.Stored) { s.Vote = x.r.Intn(65) })
	}
	if x.dead {
		if err := x.k.Save(s); err != api.ErrDown {
			t.Fatalf("a dead keeper: %v", err)
		}
		return
	}
	on, reset := x.target(t, len(plain(x.n+1, s)))
	before := x.d.Clone()
	err := x.k.Save(s)
	switch {
	case s.Vote > 64 && err == api.ErrArg, shown(s) == shown(x.s) && err == nil, on < 0 && err == api.ErrFull:
		if x.d.Down() || onDisk(t, x.d) != onDisk(t, before) {
			t.Fatalf("%v: it took a step", err)
		}
	case s.Vote > 64 || on < 0:
		t.Fatalf("%s: %v", shown(s), err)
	case err == api.ErrDown:
		x.next, x.dead = s, true
	case err != nil || onDisk(t, x.d) != onDisk(t, appended(t, cleared(t, before), on, reset, plain(x.n+1, s))):
		t.Fatalf("%s: %v, or not as the tape's calls make the disk", shown(s), err)
	default:
		x.n, x.s = x.n+1, s
	}
	keeps(t, "drawn", x.k, x.n, x.s)
}

// cleared is a disk with the power on, and nothing armed.
func cleared(t *testing.T, d *disk.Disk) *disk.Disk {
	t.Helper()
	d.Start(nil)
	return d
}

// again opens it again, the power being back.
func (x *run) again(t *testing.T) {
	t.Helper()
	x.d.Start([]int{x.r.Intn(4), x.r.Intn(40)})
	k := opens(t, "again", x.d)
	if x.dead && k.Saves() == x.n+1 {
		x.n, x.s = x.n+1, x.next
	}
	keeps(t, "again", k, x.n, x.s)
	x.k, x.dead = k, false
}

// TestST3Drawn: drawn saves on disks of drawn sizes, the power going wherever, whatever is kept: opened again it is what was saved last, or what the save that was cut short should have saved, and can be saved to on.
func TestST3Drawn(t *testing.T) {
	for seed := range 400 {
		r := rand.New(rand.NewSource(int64(seed)))
		d := disks(t, 75+r.Intn(1<<(4+r.Intn(8))))
		x := &run{r: r, d: d, k: opens(t, "empty", d), n: 1, s: begun(1, 2)}
		for range 60 {
			if r.Intn(6) == 0 {
				arms(t, d, r.Intn(16))
			}
			x.save(t)
			if d.Down() && r.Intn(2) == 0 || r.Intn(20) == 0 && !d.Down() {
				x.again(t)
			}
			if d.Down() && !x.dead {
				t.Fatalf("the power is gone, and the keeper is not dead")
			}
		}
		x.again(t)
	}
}

// taker takes off things by their plain forms.
type taker struct {
	s  string
	ok bool
}

// digits takes off a letter, digits and a sign: the number, at most so great.
func (x *taker) digits(letter, end string, most uint64) int {
	head, rest, found := strings.Cut(x.s, end)
	told, right := strings.CutPrefix(head, letter)
	n, err := strconv.ParseUint(told, 10, 64)
	if !found || !right || err != nil || n > most || strconv.FormatUint(n, 10) != told {
		x.ok = false
		return 0
	}
	x.s = rest
	return int(n)
}

// bytes takes off bytes.
func (x *taker) bytes(most uint64) string {
	n := x.digits("b", ":", most)
	if !x.ok || n > len(x.s) {
		x.ok = false
		return ""
	}
	b := x.s[:n]
	x.s = x.s[n:]
	return b
}

// takenConf are members that a text tells.
func takenConf(s string) (conf.Conf, bool) {
	x := taker{s, true}
	var c conf.Conf
	ahead := 0
	for range x.digits("n", ";", 7) {
		who := x.digits("n", ";", 64)
		x.ok = x.ok && who > ahead
		ahead = who
		c = append(c, who)
	}
	return c, x.ok && x.s == "" && len(c) > 0
}

// takenEntry is an entry that a text tells, behind an index and a term.
func takenEntry(s string, index, term int) (entry.Entry, bool) {
	x := taker{s, true}
	e := entry.Entry{Index: x.digits("n", ";", api.MaxIndex), Term: x.digits("n", ";", api.MaxIndex), Kind: x.digits("n", ";", 2), Data: []byte(x.bytes(4096))}
	told := true
	if e.Kind == entry.Member {
		_, told = takenConf(string(e.Data))
	}
	return e, x.ok && x.s == "" && told && e.Index == index+1 && e.Term >= max(term, 1)
}

// plainDecode is what bytes tell.
func plainDecode(b string) (int, raft.Stored, bool) {
	x := taker{b, true}
	var n [5]int
	for i := range n {
		n[i] = x.digits("n", ";", api.MaxIndex)
	}
	c, told := takenConf(x.bytes(512))
	s := raft.Stored{Term: n[1], Vote: n[2], Log: entry.Log{Base: n[3], Term: n[4]}, Conf: c, Snap: []byte(x.bytes(api.MaxBytes))}
	index, term := n[3], n[4]
	for range x.digits("n", ";", api.MaxList) {
		e, right := takenEntry(x.bytes(4200), index, term)
		told = told && right
		index, term = e.Index, e.Term
		s.Log.L = append(s.Log.L, e)
	}
	may := n[0] > 0 && n[1] >= term && n[2] <= 64 && (n[3] == 0) == (n[4] == 0)
	return n[0], s, x.ok && x.s == "" && told && may
}

// TestST1Drawn: what is drawn comes back as it was; of what was changed at some places all is told that is so many bytes, and nothing else.
func TestST1Drawn(t *testing.T) {
	good := 0
	for seed := range 3000 {
		r := rand.New(rand.NewSource(int64(seed)))
		n, s := 1+r.Intn(1<<r.Intn(40)), drawn(r, 1<<r.Intn(7))
		b := stable.Encode(n, s)
		if string(b) != plain(n, s) {
			t.Fatalf("Encode: %q, not %q", b, plain(n, s))
		}
		decodes(t, fmt.Sprint("seed ", seed), string(b), n, s)
		for range 20 {
			c := changedBytes(r, b)
			n, s, right := plainDecode(string(c))
			if !right {
				refuses(t, fmt.Sprintf("%q", c), string(c))
				continue
			}
			decodes(t, fmt.Sprintf("%q", c), string(c), n, s)
			if got := stable.Encode(n, s); !bytes.Equal(got, c) {
				t.Errorf("%q: laid again %q", c, got)
			}
			good++
		}
	}
	if good < 1000 {
		t.Errorf("%d changed bytes only tell something", good)
	}
}

// changedBytes are bytes with something changed, mostly a digit.
func changedBytes(r *rand.Rand, b []byte) []byte {
	c := slices.Clone(b)
	for range 1 + r.Intn(2) {
		at := r.Intn(len(c))
		switch r.Intn(8) {
		case 0:
			c = slices.Delete(c, at, at+1)
		case 1:
			c = slices.Insert(c, at, "0123456789n;b:"[r.Intn(14)])
		case 2:
			c[at] = byte(r.Intn(256))
		default:
			if c[at] >= '0' && c[at] <= '9' {
				c[at] = byte('0' + r.Intn(10))
			}
		}
	}
	return c
}
