package disk_test

import (
	"math/rand"
	"strconv"
	"testing"

	"tollbar/api"
	"tollbar/disk"
)

// model is a disk told as plainly as can be: the text that is safe, and what was written over it since.
type model struct {
	safe  string
	waits []struct {
		at int
		b  string
	}
	down bool
	goes int // within which step the power goes; -1: none
}

// over is a text with another one written over it.
func over(s string, at int, b string) string { return s[:at] + b + s[at+len(b):] }

// read is the text with all writes.
func (m *model) read() string {
	s := m.safe
	for _, w := range m.waits {
		s = over(s, w.at, w.b)
	}
	return s
}

// step tells whether the power goes within this step.
func (m *model) step() bool {
	m.down = m.goes == 0
	if m.goes >= 0 {
		m.goes--
	}
	return m.down
}

// write is a write that lies within.
func (m *model) write(at int, b string) error {
	if m.down {
		return api.ErrDown
	}
	m.waits = append(m.waits[:len(m.waits):len(m.waits)], struct {
		at int
		b  string
	}{at, b})
	if m.step() {
		return api.ErrDown
	}
	return nil
}

func (m *model) sync() error {
	if m.down || m.step() {
		return api.ErrDown
	}
	m.safe, m.waits = m.read(), nil
	return nil
}

func (m *model) start(keep ...int) {
	var first, second int
	if len(keep) > 0 {
		first = keep[0]
	}
	if len(keep) > 1 {
		second = keep[1]
	}
	s := m.safe
	for range counted(first, len(m.waits)+1) {
		s = over(s, m.waits[0].at, m.waits[0].b)
		m.waits = m.waits[1:]
	}
	if len(m.waits) > 0 {
		next := m.waits[0]
		s = over(s, next.at, next.b[:counted(second, len(next.b)+1)])
	}
	*m = model{safe: s, goes: -1}
}

// pair is a disk and its model.
type pair struct {
	d *disk.Disk
	m model
}

// same looks at both.
func (p *pair) same(t *testing.T, done string) {
	t.Helper()
	if p.d.Down() != p.m.down || p.d.Waits() != len(p.m.waits) || p.d.Size() != len(p.m.safe) {
		t.Fatalf("%s: down %v, %d wait, not %v, %d", done, p.d.Down(), p.d.Waits(), p.m.down, len(p.m.waits))
	}
	b, err := p.d.Read(0, p.d.Size())
	if p.m.down {
		if err != api.ErrDown || len(b) != 0 {
			t.Fatalf("%s: %q, %v, the power gone", done, b, err)
		}
	} else if err != nil || string(b) != p.m.read() {
		t.Fatalf("%s: %q, %v, not %q", done, told(b), err, told([]byte(p.m.read())))
	}
}

// act does something that is drawn to both, and tells what.
func (p *pair) act(t *testing.T, draw *rand.Rand) string {
	t.Helper()
	size := len(p.m.safe)
	same := func(done string, got, want error) string {
		t.Helper()
		if got != want {
			t.Fatalf("%s: %v, not %v", done, got, want)
		}
		return done
	}
	switch draw.Intn(8) {
	case 0, 1, 2, 3:
		at := draw.Intn(size + 1)
		b := make([]byte, draw.Intn(size-at+1))
		for i := range b {
			b[i] = byte('a' + draw.Intn(26))
		}
		return same("write "+strconv.Itoa(at)+" "+string(b), p.d.Write(at, b), p.m.write(at, string(b)))
	case 4, 5:
		return same("sync", p.d.Sync(), p.m.sync())
	case 6:
		n := draw.Intn(9)
		if !p.m.down {
			p.m.goes = n
		}
		return same("arm "+strconv.Itoa(n), p.d.Arm(n), nil)
	}
	if !p.m.down && draw.Intn(4) > 0 {
		return "nothing"
	}
	done := "start"
	keep := make([]int, draw.Intn(4))
	for i := range keep {
		keep[i] = draw.Intn(41) - 20
		done += " " + strconv.Itoa(keep[i])
	}
	p.d.Start(keep)
	p.m.start(keep...)
	return done
}

// TestDI4Model: whatever is done, what is read is what was written, and what was synced stays: the disk answers what the model does, and so does each of its clones.
func TestDI4Model(t *testing.T) {
	for seed := range 300 {
		draw := rand.New(rand.NewSource(int64(seed)))
		size := 1 + draw.Intn(12)
		pairs := []*pair{{made(t, size), model{safe: string(make([]byte, size)), goes: -1}}}
		for range 400 {
			p := pairs[draw.Intn(len(pairs))]
			done := p.act(t, draw)
			for _, one := range pairs {
				one.same(t, "seed "+strconv.Itoa(seed)+", "+done)
			}
			if draw.Intn(40) == 0 {
				pairs = append(pairs, &pair{p.d.Clone(), p.m})
				pairs = pairs[max(0, len(pairs)-4):]
			}
		}
	}
}

// TestDI4Stays: what was synced stays, wherever the power goes behind it, and whatever is kept: but where there was a write since, each byte is as it was.
func TestDI4Stays(t *testing.T) {
	for steps := range 8 {
		for first := range 8 {
			for second := range 8 {
				d := made(t, 12)
				writes(t, d, 0, "synced text!")
				syncs(t, d)
				arms(t, d, steps)
				for i := range 8 {
					if d.Write(i%3, []byte("-----")) != nil {
						break
					}
				}
				d.Start([]int{first, second})
				b, err := d.Read(0, 12)
				if err != nil || string(b[7:]) != "text!" {
					t.Fatalf("%d steps, %d and %d kept: %q, %v", steps, first, second, b, err)
				}
				for i, c := range b[:7] {
					if c != '-' && c != "synced text!"[i] {
						t.Fatalf("%d steps, %d and %d kept: %q", steps, first, second, b)
					}
				}
			}
		}
	}
}

// fill overwrites bytes, and the spare room behind them.
func fill(b []byte) {
	b = b[:cap(b)]
	for i := range b {
		b[i] = '#'
	}
}

// TestRule3Memory: the disk keeps and changes no argument, and what it answers is new, spare room too.
func TestRule3Memory(t *testing.T) {
	d := made(t, 6)
	in := []byte("abcd and room")
	if err := d.Write(1, in[:4]); err != nil || string(in) != "abcd and room" {
		t.Errorf("Write: %v, and the argument is %q", err, in)
	}
	fill(in)
	holds(t, "the argument overwritten", d, ".abcd.", 1)
	lost, synced := d.Clone(), d.Clone()
	lost.Start([]int{0, 3})
	holds(t, "a begin of it kept", lost, ".abc..", 0)
	syncs(t, synced)
	synced.Start(nil)
	holds(t, "synced", synced, ".abcd.", 0)
	for _, one := range []*disk.Disk{d, lost, synced} {
		want := "ab"
		for _, n := range []int{2, 0, 2} {
			first, err := one.Read(1, n)
			second, _ := one.Read(1, n)
			fill(first)
			if err != nil || string(second) != want[:n] {
				t.Errorf("Read's answers share: %q, %v", second, err)
			}
			fill(second)
		}
	}
	holds(t, "the answers overwritten", d, ".abcd.", 1)
	d.Start([]int{1})
	holds(t, "and started", d, ".abcd.", 0)
	holds(t, "the one started", lost, ".abc..", 0)
	holds(t, "the one synced", synced, ".abcd.", 0)
}

// TestRule3Keep: Start changes its argument not, nor does it hang on it later.
func TestRule3Keep(t *testing.T) {
	d := made(t, 3)
	writes(t, d, 0, "abc")
	keep := []int{0, 2, 5}
	d.Start(keep[:2])
	if keep[0] != 0 || keep[1] != 2 || keep[2] != 5 {
		t.Errorf("the argument is %v", keep)
	}
	keep[0], keep[1] = 1, 1
	holds(t, "the argument overwritten", d, "ab.", 0)
}
