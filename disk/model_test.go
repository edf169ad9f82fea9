package disk_test

import (
	"fmt"
	"slices"
	"testing"

	"bourne/api"
	"bourne/disk"
)

// dice gives the same numbers in every run, so that a failure can be repeated.
type dice uint64

func (d *dice) next() uint64 {
	*d += 0x9e3779b97f4a7c15
	x := uint64(*d)
	x = (x ^ x>>30) * 0xbf58476d1ce4e5b9
	x = (x ^ x>>27) * 0x94d049bb133111eb
	return x ^ x>>31
}

// below returns a number from 0 to n - 1.
func (d *dice) below(n int) int { return int(d.next() % uint64(n)) }

// pick returns one of a few numbers.
func (d *dice) pick(l ...int) int { return l[d.below(len(l))] }

// file returns one of few file numbers, so that most calls meet what others left, and at times no file number.
func (d *dice) file() int {
	if d.below(12) == 0 {
		return d.pick(noFiles()...)
	}
	return d.pick(0, 0, 0, 1, 1, 2, 7)
}

func (d *dice) text() string {
	b := make([]byte, d.below(5))
	for i := range b {
		b[i] = "abcdefgh\x00\xff"[d.below(10)]
	}
	return string(b)
}

func (d *dice) keep() []int {
	l := make([]int, d.below(6))
	for i := range l {
		l[i] = d.pick(0, 0, 1, 2, 3, -1, most, least)
	}
	return l
}

// cell is a byte of a file, and the number of the append that brought it; 0 if it is durable. The appends are numbered on and on, and never anew: so the numbers of the cells are the list of the pending appends, without a list.
type cell struct {
	b  byte
	by int
}

// model is a disk by the definitions of the chapter, byte by byte.
type model struct {
	files   [files][]cell
	appends int
	down    bool
	lost    int
	armed   bool
	calls   int
	keep    []int
}

func (m *model) copy() *model {
	c := *m
	for f := range c.files {
		c.files[f] = slices.Clone(c.files[f])
	}
	return &c
}

func bytesOf(l []cell) string {
	var b []byte
	for _, c := range l {
		b = append(b, c.b)
	}
	return string(b)
}

func durable(l []cell) []cell {
	l = slices.Clone(l)
	for i := range l {
		l[i].by = 0
	}
	return l
}

func pending(l []cell) bool {
	return slices.ContainsFunc(l, func(c cell) bool { return c.by != 0 })
}

// index returns the index of an append in the list of the pending ones.
func (m *model) index(by int) int {
	earlier := map[int]bool{}
	for _, l := range m.files {
		for _, c := range l {
			if 0 < c.by && c.by < by {
				earlier[c.by] = true
			}
		}
	}
	return len(earlier)
}

func (m *model) crash(keep []int) {
	if m.down {
		return
	}
	before := m.copy()
	for f, l := range before.files {
		var left []cell
		end, at := 0, map[int]int{}
		for i, c := range l {
			index := before.index(c.by)
			switch {
			case c.by == 0, index < len(keep) && at[c.by] < keep[index]:
				end = i + 1
			default:
				c.b = 0
			}
			at[c.by]++
			left = append(left, cell{c.b, 0})
		}
		m.files[f] = left[:end]
	}
	m.down, m.armed = true, false
}

// change performs one of the four calls that change files; known says whether its files are, appends that it is an Append.
func (m *model) change(known, appends bool, perform func() api.Errno) api.Errno {
	if m.down {
		return api.ErrDown
	}
	checked := func() api.Errno {
		if !known {
			return api.ErrArg
		}
		return perform()
	}
	m.calls--
	if !m.armed || m.calls > 0 {
		return checked()
	}
	if appends {
		checked()
	}
	m.crash(m.keep)
	return api.ErrDown
}

func isFile(f int) bool { return f >= 0 && f <= 7 }

func (m *model) add(f int, s string) api.Errno {
	return m.change(isFile(f), true, func() api.Errno {
		m.appends++
		for _, b := range []byte(s) {
			m.files[f] = append(m.files[f], cell{b, m.appends})
		}
		return api.OK
	})
}

func (m *model) flush(f int) api.Errno {
	return m.change(isFile(f), false, func() api.Errno {
		if m.lost > 0 {
			m.lost--
			return api.ErrLost
		}
		m.files[f] = durable(m.files[f])
		return api.OK
	})
}

func (m *model) cut(f, n int) api.Errno {
	return m.change(isFile(f), false, func() api.Errno {
		if n < 0 || n > len(m.files[f]) {
			return api.ErrArg
		}
		m.files[f] = slices.Clone(m.files[f][:n])
		return api.OK
	})
}

func (m *model) turn(f, g int) api.Errno {
	return m.change(isFile(f) && isFile(g), false, func() api.Errno {
		switch {
		case f == g:
			return api.ErrArg
		case pending(m.files[g]):
			return api.ErrState
		}
		m.files[f], m.files[g] = m.files[g], nil
		return api.OK
	})
}

// pair is a disk, and what it should be.
type pair struct {
	d *disk.Disk
	m *model
}

// differs returns what is not as it should be, or nothing.
func (p pair) differs() string {
	if p.d.Down() != p.m.down {
		return fmt.Sprint("down: ", p.d.Down())
	}
	for f, l := range p.m.files {
		want, wantErr := bytesOf(l), api.OK
		if p.m.down {
			want, wantErr = "", api.ErrDown
		}
		if s, e := p.d.Read(f); s != want || e != wantErr {
			return fmt.Sprintf("the file %d: got %q, %d, want %q, %d", f, s, e, want, wantErr)
		}
		if p.d.Size(f) != len(l) {
			return fmt.Sprintf("the size of the file %d: got %d, want %d", f, p.d.Size(f), len(l))
		}
	}
	return ""
}

// call makes a call of both, and returns what it was, and both results.
func (p pair) call(d *dice) (string, api.Errno, api.Errno) {
	switch f := d.file(); d.below(16) {
	default:
		s := d.text()
		return fmt.Sprintf("Append(%d, %q)", f, s), p.d.Append(f, s), p.m.add(f, s)
	case 6, 7:
		return fmt.Sprintf("Flush(%d)", f), p.d.Flush(f), p.m.flush(f)
	case 8:
		n := d.pick(0, 1, 2, 3, 5, 8, p.d.Size(f), p.d.Size(f)-1, p.d.Size(f)-2, p.d.Size(f)+1, -1, least, most)
		return fmt.Sprintf("Cut(%d, %d)", f, n), p.d.Cut(f, n), p.m.cut(f, n)
	case 9, 10:
		g := d.file()
		return fmt.Sprintf("Turn(%d, %d)", f, g), p.d.Turn(f, g), p.m.turn(f, g)
	case 11:
		n := d.pick(0, 0, 1, 2, -1, least)
		p.d.Lose(n)
		p.m.lost = max(n, 0)
		return fmt.Sprintf("Lose(%d)", n), 0, 0
	case 12:
		n, keep := d.pick(1, 2, 3, 5, 9, 0, -1, least, most), d.keep()
		p.m.armed, p.m.calls, p.m.keep = n >= 1, n, slices.Clone(keep)
		p.d.Arm(n, keep)
		return fmt.Sprintf("Arm(%d, %d)", n, keep), 0, 0
	case 13:
		keep := d.keep()
		p.m.crash(keep)
		p.d.Crash(keep)
		return fmt.Sprintf("Crash(%d)", keep), 0, 0
	case 14, 15:
		p.m.down = false
		p.d.Start()
		return "Start()", 0, 0
	}
}

// P6.1 to P6.4: random calls of several disks, of which some are copies of others, by the definitions.
func TestDisksAreTheModel(t *testing.T) {
	d := dice(1)
	for range 200 {
		pairs := []pair{{disk.New(), &model{}}, {disk.New(), &model{}}, {disk.New(), &model{}}}
		var log []string
		for range 300 {
			i := d.below(len(pairs))
			if d.below(20) == 0 {
				j := d.below(len(pairs))
				pairs[i] = pair{pairs[j].d.Copy(), pairs[j].m.copy()}
				log = append(log, fmt.Sprintf("%d = a copy of %d", i, j))
			}
			call, got, want := pairs[i].call(&d)
			log = append(log, fmt.Sprintf("%d: %s", i, call))
			if got != want {
				t.Fatalf("%s: got %d, want %d, after %q", call, got, want, log)
			}
			for j, p := range pairs {
				if wrong := p.differs(); wrong != "" {
					t.Fatalf("the disk %d: %s, after %q", j, wrong, log)
				}
			}
		}
	}
}

// P6.5: what a crash leaves, of disks that random calls have made.
func TestCrashesOnlyTakeAway(t *testing.T) {
	d := dice(2)
	holes := 0
	for range 2000 {
		p := pair{disk.New(), &model{}}
		for range 30 {
			p.call(&d)
		}
		p.d.Start()
		before, safe := contents(p.d), after(p.d)
		for range 20 {
			left := after(p.d, d.keep()...)
			for f, s := range left {
				if len(s) > len(before[f]) || len(s) < len(safe[f]) || s[:len(safe[f])] != before[f][:len(safe[f])] {
					t.Fatalf("the file %d was %q, of it durable %q, and is %q", f, before[f], safe[f], s)
				}
				for i := range s {
					if s[i] != before[f][i] && s[i] != 0 {
						t.Fatalf("the file %d was %q, and is %q", f, before[f], s)
					}
					if s[i] != before[f][i] {
						holes++
					}
				}
			}
		}
	}
	if holes == 0 {
		t.Error("no later append survived while an earlier one was lost")
	}
}

// P4: the same calls have the same results.
func TestRepeatable(t *testing.T) {
	one, two := dice(3), dice(3)
	a, b := pair{disk.New(), &model{}}, pair{disk.New(), &model{}}
	for range 3000 {
		call, got, _ := a.call(&one)
		_, again, _ := b.call(&two)
		if got != again || contents(a.d) != contents(b.d) {
			t.Fatalf("%s: got %d, then %d", call, got, again)
		}
	}
}
