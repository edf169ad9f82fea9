package wal_test

import (
	"fmt"
	"slices"
	"testing"

	"bourne/api"
	"bourne/disk"
	"bourne/wal"
)

// dice gives the same numbers in every run, so that a failure can be repeated.
type dice uint64

func (d *dice) next() uint64 {
	*d += 0x9e3779b97f4a7c15
	x := uint64(*d)
	x = (x ^ x>>30) * 0xbf58476d1ce4e5b9
	x = (x ^ x>>27) * 0x94d049bb133111eb
	return x ^ x>>31
}

// below returns a number from 0 to n - 1.
func (d *dice) below(n int) int { return int(d.next() % uint64(n)) }

// pick returns one of a few numbers.
func (d *dice) pick(l ...int) int { return l[d.below(len(l))] }

// row returns a row of bytes that records begin and end with, or one with records in it.
func (d *dice) row() string {
	if d.below(6) == 0 {
		return recordsOf(d.row(), "")
	}
	b := make([]byte, d.below(6))
	for i := range b {
		b[i] = "\x00\x00W\xe9ab\x01"[d.below(7)]
	}
	return string(b)
}

func (d *dice) rows() []string {
	l := make([]string, d.below(4))
	for i := range l {
		l[i] = d.row()
	}
	return l
}

func (d *dice) keep() []int {
	l := make([]int, d.below(7))
	for i := range l {
		l[i] = d.pick(0, 1, 2, 5, 7, 9, most, most, most, most, -1, least)
	}
	return l
}

// P7.1: of random files, made of records and parts of them, with a few wrong bytes.
func TestValidPartsOfRandomFiles(t *testing.T) {
	d := dice(1)
	found := 0
	for range 3000 {
		file := ""
		for range d.below(5) {
			record := recordOf(d.row())
			switch d.below(8) {
			case 0:
				record = record[:d.below(len(record))]
			case 1:
				record = string(make([]byte, d.below(10)))
			case 2:
				b := []byte(record)
				b[d.below(len(b))] ^= byte(d.pick(1, 2, 4, 8, 16, 32, 64, 128, 255))
				record = string(b)
			}
			file += record
		}
		want := validOf(file)
		k := holding(0, file)
		l := open(t, k, 0)
		expectRows(t, fmt.Sprintf("the file %q", file), l, want...)
		if got := after(k); got != [files]string{recordsOf(want...)} {
			t.Errorf("the file %q: got %q", file, got)
		}
		found += len(want)
	}
	if found < 2000 {
		t.Error("only", found, "rows")
	}
}

// model is a log by its properties, without bytes: its rows, how many of them are durable, and the pending appends of both files in their order.
type model struct {
	rows    []string
	durable int
	pending []pendingAppend
	lost    int
	calls   int // until the scheduled crash; 0 if there is none
	keep    []int
	down    bool
}

// pendingAppend is a pending append to the file of the log, or to the spare one after it.
type pendingAppend struct {
	spare bool
	size  int
}

func (m *model) forget(spare bool) {
	m.pending = slices.DeleteFunc(m.pending, func(p pendingAppend) bool { return p.spare == spare })
}

// crash keeps the rows up to, but not including, the first one whose record does not survive as a whole.
func (m *model) crash(keep []int) {
	left := m.durable
	for i, p := range m.pending {
		if p.spare {
			continue
		}
		if i >= len(keep) || keep[i] < p.size {
			break
		}
		left++
	}
	m.rows, m.durable, m.pending, m.calls, m.down = slices.Clone(m.rows[:left]), left, nil, 0, true
}

// call is a call of the disk that counts.
func (m *model) call(perform func() api.Errno) api.Errno {
	if m.calls == 1 {
		m.crash(m.keep)
		return api.ErrDown
	}
	m.calls = max(m.calls-1, 0)
	return perform()
}

// add is an append, which is made also if the crash comes.
func (m *model) add(spare bool, size int) api.Errno {
	if size > 0 {
		m.pending = append(m.pending, pendingAppend{spare, size})
	}
	return m.call(func() api.Errno { return api.OK })
}

func (m *model) sync(spare bool) api.Errno {
	return m.call(func() api.Errno {
		if m.lost > 0 {
			m.lost--
			return api.ErrLost
		}
		m.forget(spare)
		return api.OK
	})
}

// drop is a cut of a file, or a turn that replaces it.
func (m *model) drop(spare bool) api.Errno {
	return m.call(func() api.Errno {
		m.forget(spare)
		return api.OK
	})
}

// append has the row in the log at a crash, where it can survive. After any other failure it is not.
func (m *model) append(row string) api.Errno {
	m.rows = append(m.rows, row)
	return m.add(false, 7+len(row))
}

func (m *model) flush() api.Errno {
	e := m.sync(false)
	if e == api.OK {
		m.durable = len(m.rows)
	}
	return e
}

func (m *model) rewrite(rows []string, spareSize int) api.Errno {
	if spareSize > 0 {
		if e := m.drop(true); e != api.OK {
			return e
		}
	}
	if e := m.add(true, len(recordsOf(rows...))); e != api.OK {
		return e
	}
	if e := m.sync(true); e != api.OK {
		return e
	}
	e := m.drop(false)
	if e == api.OK {
		m.rows, m.durable = slices.Clone(rows), len(rows)
	}
	return e
}

// open cuts away torn bytes by a call of their own. They are durable: only a crash tears.
func (m *model) open(size, spareSize int) api.Errno {
	if size > len(recordsOf(m.rows...)) {
		if e := m.call(func() api.Errno { return api.OK }); e != api.OK {
			return e
		}
	}
	if spareSize > 0 {
		if e := m.drop(true); e != api.OK {
			return e
		}
	}
	return m.flush()
}

// course is a log to which random calls are made, and what it should be.
type course struct {
	dice  *dice
	d     *disk.Disk
	l     *wal.Log
	m     *model
	made  []string
	found int // how many rows were found after crashes
}

// newCourse returns a course of a new log.
func newCourse(t *testing.T, dice *dice) *course {
	d := disk.New()
	return &course{dice: dice, d: d, l: open(t, d, 0), m: &model{}}
}

// one makes a call, opens the log if it ends with a crash, and returns what is not as it should be, or nothing.
func (x *course) one() string {
	want := slices.Clone(x.m.rows)
	if wrong := x.call(); wrong != "" {
		return wrong
	}
	if !x.m.down {
		want = x.m.rows
	}
	if got := x.l.All(); !slices.Equal(got, want) || x.l.Len() != len(want) || x.d.Down() != x.m.down {
		return fmt.Sprintf("rows: got %q, want %q; down: %v", got, want, x.d.Down())
	}
	if x.m.down {
		if wrong := x.start(); wrong != "" {
			return wrong
		}
	}
	if got := contents(x.d)[0]; got != recordsOf(x.m.rows...) {
		return fmt.Sprintf("file: got %q, want the records of %q", got, x.m.rows)
	}
	return ""
}

// call makes a random call of the log or of its disk, and of the model.
func (x *course) call() string {
	switch spare := x.d.Size(1); x.dice.below(14) {
	default:
		row := x.dice.row()
		return x.same(fmt.Sprintf("Append(%q)", row), x.l.Append(row), x.m.append(row))
	case 7, 8:
		return x.same("Flush", x.l.Flush(), x.m.flush())
	case 9:
		rows := x.dice.rows()
		return x.same(fmt.Sprintf("Rewrite(%q)", rows), x.l.Rewrite(rows), x.m.rewrite(rows, spare))
	case 10:
		x.m.lost = x.dice.pick(0, 1, 1, 2)
		x.d.Lose(x.m.lost)
		return x.same(fmt.Sprintf("Lose(%d)", x.m.lost), 0, 0)
	case 11:
		return x.arm()
	case 12:
		keep := x.dice.keep()
		x.d.Crash(keep)
		x.m.crash(keep)
		return x.same(fmt.Sprintf("Crash(%d)", keep), 0, 0)
	case 13: // without a crash, too
		_, wrong := x.open()
		return wrong
	}
}

// same keeps what was called, and returns what is wrong with the result, or nothing.
func (x *course) same(call string, got, want api.Errno) string {
	x.made = append(x.made, fmt.Sprintf("%s: %d", call, got))
	if got != want {
		return fmt.Sprintf("got %d, want %d", got, want)
	}
	return ""
}

func (x *course) arm() string {
	x.m.calls, x.m.keep = x.dice.pick(0, 1, 2, 3, 4, 6), x.dice.keep()
	x.d.Arm(x.m.calls, x.m.keep)
	return x.same(fmt.Sprintf("Arm(%d, %d)", x.m.calls, x.m.keep), 0, 0)
}

// open opens the log once more, and reports whether it did: a lost flush or a crash can come in between.
func (x *course) open() (bool, string) {
	want := x.m.open(x.d.Size(0), x.d.Size(1))
	l, e := wal.Open(x.d, 0)
	wrong := x.same("Open", e, want)
	if (l != nil) != (e == api.OK) {
		wrong = "a log and an error"
	}
	if wrong != "" || e != api.OK {
		return false, wrong
	}
	x.l = l
	if got := l.All(); !slices.Equal(got, x.m.rows) {
		return false, fmt.Sprintf("rows of Open: got %q, want %q", got, x.m.rows)
	}
	return true, ""
}

// start starts the machine and opens the log, as often as it takes.
func (x *course) start() string {
	for {
		x.d.Start()
		x.m.down = false
		if x.dice.below(3) == 0 {
			x.arm()
		}
		opened, wrong := x.open()
		if opened {
			x.found += x.l.Len()
		}
		if opened || wrong != "" {
			return wrong
		}
	}
}

// P7.1 to P7.5, P7.7, P7.8: random calls with crashes at any call and with any parts of appends lost, by the properties.
func TestLogsAreTheModel(t *testing.T) {
	d := dice(2)
	found := 0
	for range 400 {
		x := newCourse(t, &d)
		for range 100 {
			if wrong := x.one(); wrong != "" {
				t.Fatalf("%s, after %q", wrong, x.made)
			}
		}
		found += x.found
	}
	if found < 5000 {
		t.Error("only", found, "rows were found after crashes")
	}
}

// P4: the same calls have the same results.
func TestRepeatable(t *testing.T) {
	one, two := dice(3), dice(3)
	x, y := newCourse(t, &one), newCourse(t, &two)
	for range 500 {
		x.one()
		y.one()
		if contents(x.d) != contents(y.d) || !slices.Equal(x.made, y.made) || !slices.Equal(x.l.All(), y.l.All()) {
			t.Fatalf("%q, then %q", x.made, y.made)
		}
	}
}
