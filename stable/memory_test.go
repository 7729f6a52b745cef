package stable_test

import (
	"fmt"
	"slices"
	"testing"

	"tollbar/api"
	"tollbar/conf"
	"tollbar/entry"
	"tollbar/raft"
	"tollbar/stable"
)

// list is a list that is handed in or answered, its spare room too.
type list struct {
	same   func() bool      // whether it is as it was
	mark   func(n int)      // writes over all of it
	marked func(n int) bool // whether all of it is so still
}

// whole is a list of numbers.
func whole[T byte | int](l []T) list {
	return wholeOf(l, func(n int) T { return T(n) }, func(a, b T) bool { return a == b })
}

// wholeOf is a list of anything, of which each is written over by what a number makes.
func wholeOf[T any](l []T, make func(n int) T, equal func(a, b T) bool) list {
	l = l[:cap(l)]
	before := slices.Clone(l)
	same := func() bool { return slices.EqualFunc(l, before, equal) }
	mark := func(n int) {
		for i := range l {
			l[i] = make(n)
		}
	}
	other := func(n int) func(x T) bool { return func(x T) bool { return !equal(x, make(n)) } }
	return list{same, mark, func(n int) bool { return !slices.ContainsFunc(l, other(n)) }}
}

// roomy is a list with spare room, in which something stands.
func roomy[T any](l []T, other T) []T {
	own := append(make([]T, 0, len(l)+5), l...)
	for i := len(own); i < cap(own); i++ {
		own[:cap(own)][i] = other
	}
	return own
}

// roomyStored is what is kept, with spare room everywhere.
func roomyStored(s raft.Stored) raft.Stored {
	s.Conf, s.Snap = roomy(s.Conf, 9), roomy(s.Snap, '~')
	s.Log.L = roomy(s.Log.L, of(-7, -7, -7, "!"))
	for i := range s.Log.L {
		s.Log.L[i].Data = roomy(s.Log.L[i].Data, '~')
	}
	return s
}

// lists are those of what is kept.
func lists(s raft.Stored) []list {
	all := []list{whole([]int(s.Conf)), whole(s.Snap)}
	for _, e := range s.Log.L {
		all = append(all, whole(e.Data))
	}
	make := func(n int) entry.Entry { return entry.Entry{Index: -n} }
	return append(all, wholeOf(s.Log.L, make, func(a, b entry.Entry) bool {
		return a.Index == b.Index && a.Term == b.Term && a.Kind == b.Kind && len(a.Data) == len(b.Data)
	}))
}

// areSame looks at that lists are as they were.
func areSame(t *testing.T, what string, all []list) {
	t.Helper()
	for i, l := range all {
		if !l.same() {
			t.Errorf("%s: the list %d was changed", what, i)
		}
	}
}

// areApart looks at that no two lists have anything in common, by writing over all of them.
func areApart(t *testing.T, what string, all []list) {
	t.Helper()
	for i, l := range all {
		l.mark(i + 1)
	}
	for i, l := range all {
		if !l.marked(i + 1) {
			t.Errorf("%s: the list %d is shared", what, i)
		}
	}
}

// handed are some that may be kept, and such that may not.
func handed() map[string]raft.Stored {
	m := map[string]raft.Stored{
		"nothing": {}, "begun": begun(1, 2), "rich": rich(), "below": with(rich(), func(s *raft.Stored) { s.Term = 1 }),
		"let go": with(rich(), func(s *raft.Stored) { s.Log.L = nil }), "voted": voted(3),
		"empty": {Conf: conf.Conf{1}, Snap: []byte{}, Log: logOf(0, 0, many(0, 0)...)},
	}
	return m
}

// TestRule3Save: what is handed in is neither changed nor kept, its spare room neither; what is told is apart from it, from what is kept, and from what is told else.
func TestRule3Save(t *testing.T) {
	for name, s := range handed() {
		d := disks(t, 3000)
		k := opens(t, "empty", d)
		given := roomyStored(s)
		all := lists(given)
		want := shown(s)
		if err := k.Save(given); err != nil {
			want = shown(begun(1, 2))
		}
		areSame(t, name, all)
		one, two := k.Load(), k.Load()
		areApart(t, name, slices.Concat(all, lists(one), lists(two)))
		if got := shown(k.Load()); got != want {
			t.Errorf("%s: behind a change of all else: %s, not %s", name, got, want)
		}
		if got := shown(opens(t, "again", d).Load()); got != want {
			t.Errorf("%s: again: %s, not %s", name, got, want)
		}
	}
}

// TestRule3Open: the members that are handed in are neither changed nor kept.
func TestRule3Open(t *testing.T) {
	for _, size := range []int{9, 20, 400, 3000} {
		d := disks(t, size)
		first := roomy(conf.Conf{1, 2, 3}, 9)
		all := []list{whole([]int(first))}
		k, err := stable.Open(d, first)
		areSame(t, "Open", all)
		if err != nil {
			continue
		}
		areApart(t, "Open", append(all, lists(k.Load())...))
		keeps(t, "Open, behind a change", k, 1, begun(1, 2, 3))
		saves(t, "one more", k, rich())
		k = opens(t, "again", d)
		areApart(t, "again", slices.Concat(lists(k.Load()), lists(k.Load())))
		keeps(t, "again, behind a change", k, 2, rich())
	}
}

// TestRule3Bytes: Encode and Decode change nothing, and what they tell is apart from it.
func TestRule3Bytes(t *testing.T) {
	for name, s := range handed() {
		given := roomyStored(s)
		all := lists(given)
		one, two := stable.Encode(3, given), stable.Encode(3, given)
		if string(one) != plain(3, s) || string(two) != plain(3, s) {
			t.Errorf("Encode, %s: %q, then %q", name, one, two)
		}
		areSame(t, "Encode, "+name, all)
		areApart(t, "Encode, "+name, append(all, whole(one), whole(two)))

		for _, b := range []string{plain(3, s), plain(3, s) + "n", plain(0, s), "?"} {
			bytes := roomy([]byte(b), '~')
			all := []list{whole(bytes)}
			_, first, err := stable.Decode(bytes)
			_, second, again := stable.Decode(bytes)
			if shown(first) != shown(second) || (err == nil) != (again == nil) {
				t.Errorf("Decode, %q: %s, %v, then %s, %v", b, shown(first), err, shown(second), again)
			}
			areSame(t, "Decode, "+name, all)
			areApart(t, "Decode, "+name, slices.Concat(all, lists(first), lists(second)))
		}
	}
}

// told are all that the calls of a run tell, on a disk of its own; with other calls between them that change nothing, where that is asked for.
func told(t *testing.T, size, down int, between bool) string {
	t.Helper()
	d := disks(t, size)
	arms(t, d, down)
	s := ""
	for n := range 3 {
		k, err := stable.Open(d, conf.Conf{1, 2})
		s += fmt.Sprint(k != nil, err)
		for i := range 6 {
			for _, x := range []raft.Stored{voted(i), rich(), {}, voted(i), rich()} {
				if between {
					clear(k.Load().Conf)
					k.Saves()
					stable.Decode(stable.Encode(i, x))
					stable.Open(disks(t, size), conf.Conf{5})
					d.Clone().Start([]int{1, 1})
				}
				s += fmt.Sprint(k.Save(x), k.Saves(), shown(k.Load()))
			}
		}
		d.Start([]int{n, 3})
	}
	return s + onDisk(t, d)
}

// TestRule4: the same calls answer the same, whatever else is called.
func TestRule4(t *testing.T) {
	for _, size := range []int{74, 75, 130, 300, 1000} {
		for down := range 40 {
			want := told(t, size, down, false)
			if again := told(t, size, down, false); again != want {
				t.Errorf("%d bytes, down behind %d: %s, then %s", size, down, short(want), short(again))
			}
			if again := told(t, size, down, true); again != want {
				t.Errorf("%d bytes, down behind %d, calls between: %s, then %s", size, down, short(want), short(again))
			}
		}
	}
}

// TestRule3Zero: beside an error all else is zero.
func TestRule3Zero(t *testing.T) {
	for _, b := range []string{"", "n1;", plain(1, rich())[:20], plain(1, rich()) + ";", plain(api.MaxIndex+1, rich())} {
		if n, s, err := stable.Decode([]byte(b)); n != 0 || s.Log.L != nil || s.Conf != nil || s.Snap != nil || shown(s) != nothing || err == nil {
			t.Errorf("%q: %d, %s, %v", b, n, shown(s), err)
		}
	}
}
