package disk_test

import (
	"math"
	"slices"
	"strings"
	"testing"

	"bourne/api"
	"bourne/disk"
)

const (
	files = 8
	limit = 1 << 24
	least = math.MinInt
	most  = math.MaxInt
)

// noFiles are numbers that no file has.
func noFiles() []int { return []int{-1, files, files + 1, -files, least, most, 1 << 32, -1 << 32} }

// expect reports a call that does not return what it has to.
func expect(t *testing.T, call string, got, want api.Errno) {
	t.Helper()
	if got != want {
		t.Errorf("%s: got %d, want %d", call, got, want)
	}
}

// contents returns the bytes of all files, of a disk that may be down.
func contents(d *disk.Disk) [files]string {
	c := d.Copy()
	c.Start()
	var l [files]string
	for f := range l {
		l[f], _ = c.Read(f)
	}
	return l
}

// after returns the bytes of all files that a crash would leave.
func after(d *disk.Disk, keep ...int) [files]string {
	c := d.Copy()
	c.Crash(keep)
	return contents(c)
}

// only returns a keep by which a crash leaves n bytes of the pending append with the index i.
func only(i, n int) []int { return append(make([]int, i), n) }

// view is all that can be found out about a disk with few pending appends. Views can be compared.
type view struct {
	down    bool
	sizes   [files]int
	bytes   [files]string
	durable [files]string
	pending [6][2][files]string // what a crash leaves that keeps one byte, or all, of one pending append
	lost    int
	calls   int // until the scheduled crash; 0 if there is none
	left    [files]string
}

func viewOf(d *disk.Disk) view {
	v := view{down: d.Down(), bytes: contents(d), durable: after(d)}
	for f := range v.sizes {
		v.sizes[f] = d.Size(f)
	}
	for i := range v.pending {
		v.pending[i] = [2][files]string{after(d, only(i, 1)...), after(d, only(i, most)...)}
	}
	c := d.Copy()
	c.Start()
	c.Arm(0, nil)
	for c.Flush(7) == api.ErrLost {
		v.lost++
	}
	c = d.Copy()
	c.Start()
	for n := 1; n <= 20; n++ {
		if c.Turn(0, 0) == api.ErrDown {
			v.calls, v.left = n, contents(c)
			break
		}
	}
	return v
}

// full returns a disk on which something of everything is found: durable bytes, pending appends of several files, lost flushes, and a schedule.
func full() *disk.Disk {
	d := disk.New()
	d.Append(0, "abc")
	d.Flush(0)
	d.Append(2, "xyz")
	d.Flush(2)
	d.Append(0, "de")
	d.Append(1, "pq")
	d.Append(0, "fgh")
	d.Append(3, "r")
	d.Lose(2)
	d.Arm(3, []int{1, 0, 2})
	return d
}

// fallen returns a disk that is down, with durable bytes, lost flushes and a schedule.
func fallen() *disk.Disk {
	d := full()
	d.Crash([]int{1, 1, 1, 1})
	d.Arm(2, []int{1})
	return d
}

func TestExamples(t *testing.T) { // P6.3
	for _, c := range []struct {
		keep []int
		want string
	}{
		{[]int{1, 2}, "abcd\x00\x00\x00hi"},
		{[]int{2}, "abcde"},
		{[]int{0, 0}, "abc"},
	} {
		d := disk.New()
		d.Append(0, "abc")
		d.Flush(0)
		d.Append(0, "defg")
		d.Append(0, "hi")
		d.Crash(c.keep)
		d.Start()
		if s, e := d.Read(0); s != c.want || e != api.OK {
			t.Errorf("after a crash that keeps %v: got %q, %d, want %q", c.keep, s, e, c.want)
		}
	}
}

func TestNew(t *testing.T) { // P6.1
	d := disk.New()
	disk.New().Append(0, "another disk")
	if v := viewOf(d); v != (view{}) {
		t.Error("a new disk:", v)
	}
	for f := range files {
		if s, e := d.Read(f); s != "" || e != api.OK {
			t.Errorf("the file %d: got %q, %d", f, s, e)
		}
	}
}

func TestDown(t *testing.T) { // P6.1, P6.3
	d := disk.New()
	for range 3 {
		if d.Down() {
			t.Fatal("down before the crash")
		}
		d.Crash(nil)
		if !d.Down() {
			t.Fatal("up after the crash")
		}
		d.Crash(nil)
		if !d.Down() {
			t.Fatal("a second crash brings it up")
		}
		d.Start()
	}
}

func TestSize(t *testing.T) { // P6.1
	d := full()
	want := [files]int{8, 2, 3, 1}
	check := func(when string) {
		for f, n := range want {
			if d.Size(f) != n {
				t.Errorf("%s: the size of the file %d: got %d, want %d", when, f, d.Size(f), n)
			}
		}
		for _, f := range noFiles() {
			if d.Size(f) != 0 {
				t.Errorf("%s: the size of no file %d: %d", when, f, d.Size(f))
			}
		}
	}
	check("up")
	d.Crash([]int{1, 0, 2})
	want = [files]int{7, 0, 3}
	check("down")
	d.Start()
	check("up again")
}

func TestCopyIsEqual(t *testing.T) { // P6.1: including what Lose and Arm have set
	for _, fresh := range []func() *disk.Disk{disk.New, full, fallen} {
		if d := fresh(); viewOf(d.Copy()) != viewOf(d) || viewOf(d.Copy().Copy()) != viewOf(fresh()) {
			t.Error("a copy differs:", viewOf(d.Copy()), viewOf(d))
		}
	}
	v := viewOf(full().Copy())
	if v.lost != 2 || v.calls != 3 || v.left != [files]string{"abcd\x00fg", "", "xyz"} {
		t.Error("the copy of a disk:", v.lost, v.calls, v.left)
	}
	if v := viewOf(fallen().Copy()); !v.down || v.lost != 2 || v.calls != 2 {
		t.Error("the copy of a disk that is down:", v.down, v.lost, v.calls)
	}
}

// changes are calls of which each changes something on a disk that is full or fallen.
func changes() []func(*disk.Disk) {
	return []func(*disk.Disk){
		func(d *disk.Disk) { d.Start(); d.Append(0, "!") },
		func(d *disk.Disk) { d.Start(); d.Append(5, "!") },
		func(d *disk.Disk) { d.Start(); d.Flush(0) },
		func(d *disk.Disk) { d.Start(); d.Lose(0); d.Flush(0); d.Append(0, "?!") },
		func(d *disk.Disk) { d.Start(); d.Cut(0, 1); d.Append(0, "?!") },
		func(d *disk.Disk) { d.Start(); d.Cut(0, 4); d.Append(0, "?!") },
		func(d *disk.Disk) { d.Start(); d.Turn(0, 2); d.Append(2, "?!") },
		func(d *disk.Disk) { d.Start(); d.Crash(nil) },
		func(d *disk.Disk) { d.Start(); d.Crash([]int{1, 1, 1, 1}); d.Start(); d.Append(0, "?!") },
		func(d *disk.Disk) { d.Lose(5) },
		func(d *disk.Disk) { d.Arm(1, []int{most}) },
		func(d *disk.Disk) { d.Start(); d.Arm(1, []int{2, 2}); d.Flush(0) },
	}
}

func TestCopyIsIndependent(t *testing.T) { // P6.1: in both directions
	for _, fresh := range []func() *disk.Disk{full, fallen} {
		want := viewOf(fresh())
		for i, change := range changes() {
			d := fresh()
			c := d.Copy()
			change(d)
			if viewOf(c) != want {
				t.Errorf("change %d of a disk changes its copy: %v", i, viewOf(c))
			}
			if viewOf(d) == want {
				t.Errorf("change %d changes nothing", i)
			}
			changed := viewOf(d)
			for _, other := range changes() {
				other(c)
			}
			if viewOf(d) != changed {
				t.Errorf("the changes of a copy change a disk after change %d: %v", i, viewOf(d))
			}
		}
	}
}

// results returns the results of all calls that return an error, for the files f and g.
func results(d *disk.Disk, f, g int) map[string]api.Errno {
	s, read := d.Read(f)
	if s != "" && read != api.OK {
		read = -1
	}
	return map[string]api.Errno{
		"Read":   read,
		"Append": d.Append(f, "s"),
		"Flush":  d.Flush(f),
		"Cut":    d.Cut(f, 0),
		"Turn":   d.Turn(f, g),
	}
}

func TestDownIsTheFirstError(t *testing.T) { // P6.2
	long := strings.Repeat("s", limit+1)
	for _, f := range append(noFiles(), 0, 1, 7) {
		for _, g := range append(noFiles(), 0, 1, 7) {
			d := fallen()
			l := results(d, f, g)
			l["Append of too much"] = d.Append(f, long)
			l["Cut of too much"] = d.Cut(f, most)
			l["Cut of less than nothing"] = d.Cut(f, -1)
			for call, got := range l {
				expect(t, call, got, api.ErrDown)
			}
			if viewOf(d) != viewOf(fallen()) {
				t.Error("calls while it is down change the disk:", f, g, viewOf(d))
			}
		}
	}
}

func TestNoFile(t *testing.T) { // P6.2
	for _, f := range noFiles() {
		d := full()
		d.Arm(0, nil)
		want := viewOf(d)
		for call, got := range results(d, f, 2) {
			expect(t, call, got, api.ErrArg)
		}
		expect(t, "Turn to no file", d.Turn(2, f), api.ErrArg)
		expect(t, "Turn of no file to itself", d.Turn(f, f), api.ErrArg)
		expect(t, "Append of nothing", d.Append(f, ""), api.ErrArg)
		expect(t, "Append of too much", d.Append(f, strings.Repeat("s", limit+1)), api.ErrArg)
		expect(t, "Cut of nothing", d.Cut(f, 1), api.ErrArg)
		if viewOf(d) != want {
			t.Error("calls with the file number", f, "change the disk:", viewOf(d))
		}
	}
}

func TestAppend(t *testing.T) { // P6.2
	d := disk.New()
	for i, s := range []string{"ab", "", "c", "", "\x00\xff"} {
		expect(t, "Append", d.Append(7, s), api.OK)
		expect(t, "Append to another file", d.Append(i, s), api.OK)
	}
	// Empty appends are not in the list, so that these are its elements.
	want := []struct {
		f int
		s string
	}{{7, "ab"}, {0, "ab"}, {7, "\x00\x00c"}, {2, "c"}, {7, "\x00\x00\x00\x00\xff"}, {4, "\x00\xff"}}
	for i, p := range want {
		left := [files]string{}
		left[p.f] = p.s
		if got := after(d, only(i, most)...); got != left {
			t.Errorf("what is left of the pending append %d: got %q, want %q", i, got, left)
		}
	}
	if got := contents(d); got != [files]string{0: "ab", 2: "c", 4: "\x00\xff", 7: "abc\x00\xff"} {
		t.Errorf("the files: got %q", got)
	}
}

func TestAppendToAFullFile(t *testing.T) { // P6.2
	d := disk.New()
	long := strings.Repeat("0123456789abcdef", limit/16)
	expect(t, "an Append of more than a file", d.Append(0, long+"x"), api.ErrFull)
	expect(t, "an Append of a whole file", d.Append(0, long), api.OK)
	for range 2 { // while the bytes are pending, and when they are durable
		expect(t, "an Append to a full file", d.Append(0, "x"), api.ErrFull)
		expect(t, "an empty Append to a full file", d.Append(0, ""), api.OK)
		expect(t, "an Append to another file", d.Append(1, "x"), api.OK)
		expect(t, "Flush", d.Flush(0), api.OK)
	}
	if s, e := d.Read(0); s != long || e != api.OK || d.Size(0) != limit {
		t.Error("a full file is not what was appended:", e, d.Size(0))
	}
	expect(t, "Cut", d.Cut(0, limit-2), api.OK)
	expect(t, "an Append of three bytes", d.Append(0, "xyz"), api.ErrFull)
	expect(t, "an Append of two bytes", d.Append(0, "xy"), api.OK)
	expect(t, "an Append of a third byte", d.Append(0, "z"), api.ErrFull)
	if s, _ := d.Read(0); s != long[:limit-2]+"xy" || d.Size(1) != 2 {
		t.Error("the end of a full file:", s[limit-4:], d.Size(1))
	}
}

func TestRead(t *testing.T) { // P6.2: it changes nothing, and gives durable and pending bytes
	d := full()
	for f, want := range [files]string{"abcdefgh", "pq", "xyz", "r"} {
		if s, e := d.Read(f); s != want || e != api.OK {
			t.Errorf("the file %d: got %q, %d, want %q", f, s, e, want)
		}
	}
	if viewOf(d) != viewOf(full()) {
		t.Error("reading changes a disk:", viewOf(d))
	}
}

func TestFlush(t *testing.T) { // P6.2
	d := full()
	d.Lose(0)
	d.Arm(0, nil)
	expect(t, "Flush", d.Flush(0), api.OK)
	if got := after(d); got != [files]string{"abcdefgh", "", "xyz"} {
		t.Errorf("durable: %q", got)
	}
	// The appends of the other files are still pending, and now the first ones of the list.
	if got := after(d, 1, 1); got != [files]string{"abcdefgh", "p", "xyz", "r"} {
		t.Errorf("what is left of the others: %q", got)
	}
	before := viewOf(d)
	expect(t, "Flush of a file without pending appends", d.Flush(0), api.OK)
	expect(t, "Flush of an empty file", d.Flush(7), api.OK)
	if viewOf(d) != before {
		t.Error("a flush with nothing to do changes the disk:", viewOf(d))
	}
	expect(t, "Append", d.Append(0, "i"), api.OK)
	if got := after(d, 0, 0, 1); got != [files]string{"abcdefghi", "", "xyz"} {
		t.Errorf("what is left of an append after the flush: %q", got)
	}
}

func TestLostFlushes(t *testing.T) { // P6.2, P6.3
	d := full()
	d.Arm(0, nil)
	before := viewOf(d)
	expect(t, "Flush of no file", d.Flush(8), api.ErrArg)
	expect(t, "the first Flush", d.Flush(0), api.ErrLost)
	before.lost = 1
	if viewOf(d) != before {
		t.Error("after a lost flush:", viewOf(d))
	}
	expect(t, "the second Flush, of a file with nothing to flush", d.Flush(6), api.ErrLost)
	expect(t, "the third Flush", d.Flush(0), api.OK)
	if got := after(d); got != [files]string{"abcdefgh", "", "xyz"} {
		t.Errorf("durable: %q", got)
	}
}

func TestLose(t *testing.T) { // P6.3: the number is set, not increased
	for _, c := range []struct {
		numbers []int
		want    int
	}{
		{[]int{0}, 0}, {[]int{1}, 1}, {[]int{3}, 3}, {[]int{3, 2}, 2}, {[]int{2, 3}, 3}, {[]int{3, 0}, 0},
		{[]int{-1}, 0}, {[]int{3, -1}, 0}, {[]int{least}, 0}, {[]int{2, least}, 0}, {[]int{-5, 1}, 1}, {[]int{most, 4}, 4},
	} {
		d := disk.New()
		for _, n := range c.numbers {
			d.Lose(n)
		}
		if v := viewOf(d); v != (view{lost: c.want}) {
			t.Errorf("Lose of %v: got %v", c.numbers, v)
		}
	}
	d := disk.New()
	d.Lose(most)
	for range 1000 {
		expect(t, "Flush", d.Flush(0), api.ErrLost)
	}
	d = disk.New()
	d.Crash(nil)
	d.Lose(2)
	d.Start()
	d.Crash(nil)
	d.Start()
	if v := viewOf(d); v != (view{lost: 2}) {
		t.Error("lost flushes after a crash:", v)
	}
}

func TestCut(t *testing.T) { // P6.2
	for _, c := range []struct {
		n       int
		durable string
		keeps   [4]string // what crashes leave of the file 0 that keep all of one of the pending appends
	}{
		{0, "", [4]string{"", "", "", ""}},
		{1, "a", [4]string{"a", "a", "a", "a"}},
		{3, "abc", [4]string{"abc", "abc", "abc", "abc"}},
		{4, "abc", [4]string{"abcd", "abc", "abc", "abc"}},
		{5, "abc", [4]string{"abcde", "abc", "abc", "abc"}},
		{6, "abc", [4]string{"abcde", "abc", "abc\x00\x00f", "abc"}},
		{8, "abc", [4]string{"abcde", "abc", "abc\x00\x00fgh", "abc"}},
	} {
		d := full()
		d.Arm(0, nil)
		expect(t, "Cut", d.Cut(0, c.n), api.OK)
		if s, e := d.Read(0); s != "abcdefgh"[:c.n] || e != api.OK || d.Size(0) != c.n {
			t.Errorf("after a cut to %d bytes: got %q, %d", c.n, s, e)
		}
		if got := after(d); got != [files]string{c.durable, "", "xyz"} {
			t.Errorf("durable after a cut to %d bytes: %q", c.n, got)
		}
		for i, want := range c.keeps {
			if got := after(d, only(i, most)...)[0]; got != want {
				t.Errorf("what is left of the pending append %d after a cut to %d bytes: got %q, want %q", i, c.n, got, want)
			}
		}
	}
}

func TestCutRenumbers(t *testing.T) { // P6.2: what is gone is not in the list
	for n, want := range []int{0, 0, 0, 0, 1, 1, 2, 2, 2} { // how many pending appends of the file 0 are left
		d := full()
		d.Arm(0, nil)
		d.Cut(0, n)
		d.Append(4, "new")
		if got := after(d, only(want+2, 2)...)[4]; got != "ne" {
			t.Errorf("an append after a cut to %d bytes: got %q", n, got)
		}
	}
}

func TestCutOutOfRange(t *testing.T) { // P6.2
	for f, size := range [files]int{8, 2, 3, 1} {
		d := full()
		d.Arm(0, nil)
		before := viewOf(d)
		for _, n := range []int{-1, size + 1, size + 2, least, most, -size - 1} {
			expect(t, "Cut", d.Cut(f, n), api.ErrArg)
		}
		expect(t, "Cut to the size", d.Cut(f, size), api.OK)
		if viewOf(d) != before {
			t.Errorf("the file %d: cuts of nothing change the disk: %v", f, viewOf(d))
		}
	}
}

func TestAppendAfterCut(t *testing.T) { // P6.2
	d := full()
	d.Lose(0)
	d.Arm(0, nil)
	d.Cut(0, 4)
	d.Append(0, "XY")
	if s, _ := d.Read(0); s != "abcdXY" {
		t.Errorf("got %q", s)
	}
	if got := after(d, 0, 0, 0, 1)[0]; got != "abc\x00X" {
		t.Errorf("what is left of the append: %q", got)
	}
	d.Cut(0, 2)
	d.Append(0, "Z")
	if got := after(d); got != [files]string{"ab", "", "xyz"} {
		t.Errorf("durable: %q", got)
	}
	d.Flush(0)
	if got := after(d); got != [files]string{"abZ", "", "xyz"} {
		t.Errorf("durable after a flush: %q", got)
	}
}

func TestTurn(t *testing.T) { // P6.2
	d := full()
	d.Arm(0, nil)
	expect(t, "Turn", d.Turn(0, 2), api.OK)
	if got := contents(d); got != [files]string{"xyz", "pq", "", "r"} {
		t.Errorf("the files: %q", got)
	}
	if got := after(d); got != [files]string{0: "xyz"} {
		t.Errorf("durable: %q", got)
	}
	// The pending appends of the file 0 are gone, those of the others are not.
	if got := after(d, 1, 1); got != [files]string{"xyz", "p", "", "r"} {
		t.Errorf("what is left of the others: %q", got)
	}
	d.Append(2, "new")
	d.Append(0, "!")
	d.Append(2, "er")
	if got := contents(d); got != [files]string{"xyz!", "pq", "newer", "r"} {
		t.Errorf("after appends: %q", got)
	}
	if got := after(d, 0, 0, 1, 1); got != [files]string{0: "xyz!", 2: "n"} {
		t.Errorf("what is left of the appends: %q", got)
	}
	expect(t, "Turn of an empty file", d.Turn(0, 7), api.OK)
	if got := contents(d); got != [files]string{"", "pq", "newer", "r"} {
		t.Errorf("after the turn of an empty file: %q", got)
	}
	if got := after(d, 0, 0, 1); got != [files]string{2: "n"} {
		t.Errorf("what is left after the turn of an empty file: %q", got)
	}
}

func TestTurnErrors(t *testing.T) { // P6.2
	d := full()
	d.Arm(0, nil)
	before := viewOf(d)
	for f := range files {
		expect(t, "Turn of a file to itself", d.Turn(f, f), api.ErrArg) // also where it has pending appends
		for _, g := range []int{0, 1, 3} {
			if f != g {
				expect(t, "Turn of a file with pending appends", d.Turn(f, g), api.ErrState)
			}
		}
	}
	if viewOf(d) != before {
		t.Error("turns that fail change the disk:", viewOf(d))
	}
	d.Cut(0, 3)
	expect(t, "Turn after its pending appends were cut", d.Turn(2, 0), api.OK)
	d.Lose(0)
	d.Flush(1)
	expect(t, "Turn after a flush", d.Turn(0, 1), api.OK)
	if got := after(d); got != [files]string{"pq", "", "abc"} {
		t.Errorf("durable: %q", got)
	}
}

func TestCrashKeeps(t *testing.T) { // P6.3: full has the pending appends de (0), pq (1), fgh (0), r (3)
	for _, c := range []struct {
		keep       []int
		zero, one  string
		three, two string
	}{
		{nil, "abc", "", "", "xyz"},
		{[]int{}, "abc", "", "", "xyz"},
		{[]int{0, 0, 0, 0}, "abc", "", "", "xyz"},
		{[]int{-1, least, -7, -most}, "abc", "", "", "xyz"},
		{[]int{2, 2, 3, 1}, "abcdefgh", "pq", "r", "xyz"},
		{[]int{3, 3, 4, 2}, "abcdefgh", "pq", "r", "xyz"},
		{[]int{most, most, most, most, most}, "abcdefgh", "pq", "r", "xyz"},
		{[]int{1}, "abcd", "", "", "xyz"},
		{[]int{1, 0, 1}, "abcd\x00f", "", "", "xyz"},
		{[]int{1, 0, 0, 1}, "abcd", "", "r", "xyz"},
		{[]int{0, 1, 2}, "abc\x00\x00fg", "p", "", "xyz"},
		{[]int{-1, -1, most, -1}, "abc\x00\x00fgh", "", "", "xyz"},
		{[]int{2, 0, 0, 0, 5, 5}, "abcde", "", "", "xyz"},
	} {
		d := full()
		keep := slices.Clone(c.keep)
		d.Crash(keep)
		want := [files]string{c.zero, c.one, c.two, c.three}
		if got := contents(d); got != want {
			t.Errorf("after a crash that keeps %v: got %q, want %q", c.keep, got, want)
		}
		if !slices.Equal(keep, c.keep) {
			t.Errorf("a crash changes its argument from %v to %v", c.keep, keep)
		}
		// All that remains is durable, and nothing is pending.
		d.Start()
		if v := viewOf(d); v.durable != want || v.bytes != want || v.pending[0][1] != want || v.calls != 0 {
			t.Errorf("after a crash that keeps %v, and a start: %v", c.keep, v)
		}
		d.Append(0, "new")
		want[0] += "n"
		if got := after(d, 1); got != want {
			t.Errorf("after another crash: got %q, want %q", got, want)
		}
	}
}

func TestCrashReadsItsArgumentOnly(t *testing.T) { // P3: elements beyond the length of keep do not count
	d := full()
	l := []int{1, most, most, most}
	d.Crash(l[:1])
	if got := contents(d); got != [files]string{"abcd", "", "xyz"} {
		t.Errorf("a crash: got %q", got)
	}
	d = full()
	d.Arm(1, l[:1])
	d.Flush(0)
	if got := contents(d); got != [files]string{"abcd", "", "xyz"} {
		t.Errorf("a scheduled crash: got %q", got)
	}
}

func TestCrashOfADiskThatIsDown(t *testing.T) { // P6.3, P6.4: it does nothing, and so cancels nothing
	d := fallen()
	before := viewOf(d)
	d.Crash([]int{most, most})
	if viewOf(d) != before {
		t.Error("another crash changes the disk:", viewOf(d))
	}
}

func TestStart(t *testing.T) { // P6.3
	d := full()
	d.Start()
	if viewOf(d) != viewOf(full()) {
		t.Error("the start of a disk that is up changes it:", viewOf(d))
	}
	d = fallen()
	want := viewOf(d)
	d.Start()
	want.down = false
	if viewOf(d) != want {
		t.Error("a start changes more than it should:", viewOf(d))
	}
	if s, e := d.Read(0); s != "abcd\x00f" || e != api.OK {
		t.Errorf("a file after a start: got %q, %d", s, e)
	}
}

// counted are calls that the schedule counts: those that succeed on a full disk, and those that fail.
func counted() map[string]func(*disk.Disk) api.Errno {
	return map[string]func(*disk.Disk) api.Errno{
		"Append":                 func(d *disk.Disk) api.Errno { return d.Append(4, "new") },
		"Append of nothing":      func(d *disk.Disk) api.Errno { return d.Append(4, "") },
		"Append to no file":      func(d *disk.Disk) api.Errno { return d.Append(-1, "new") },
		"Append of too much":     func(d *disk.Disk) api.Errno { return d.Append(4, strings.Repeat("s", limit+1)) },
		"Flush":                  func(d *disk.Disk) api.Errno { return d.Flush(0) },
		"Flush of no file":       func(d *disk.Disk) api.Errno { return d.Flush(most) },
		"Cut":                    func(d *disk.Disk) api.Errno { return d.Cut(0, 1) },
		"Cut of too much":        func(d *disk.Disk) api.Errno { return d.Cut(0, 9) },
		"Cut of no file":         func(d *disk.Disk) api.Errno { return d.Cut(8, 0) },
		"Turn":                   func(d *disk.Disk) api.Errno { return d.Turn(0, 2) },
		"Turn of a pending file": func(d *disk.Disk) api.Errno { return d.Turn(2, 0) },
		"Turn to itself":         func(d *disk.Disk) api.Errno { return d.Turn(2, 2) },
		"Turn to no file":        func(d *disk.Disk) api.Errno { return d.Turn(2, least) },
	}
}

func TestArmedCallIsNotPerformed(t *testing.T) { // P6.4
	for name, call := range counted() {
		for _, keep := range [][]int{nil, {1, 0, 1}, {2, 2, 3, 1, 3}, {0, 0, 0, 0, 2}} {
			d := full()
			d.Arm(1, keep)
			expect(t, name, call(d), api.ErrDown)
			want := full()
			if name == "Append" {
				want.Arm(0, nil)
				call(want)
			}
			want.Crash(keep)
			if viewOf(d) != viewOf(want) {
				t.Errorf("%s at a crash that keeps %v: got %v, want %v", name, keep, viewOf(d), viewOf(want))
			}
		}
	}
}

func TestArmedAppend(t *testing.T) { // P6.4: the last one of the list, and as torn as any other
	for _, c := range []struct {
		keep []int
		want [files]string
	}{
		{nil, [files]string{"abc", "", "xyz"}},
		{[]int{0, 0, 0, 0, 2}, [files]string{"abc", "", "xyz", "", "ne"}},
		{[]int{1, 0, 0, 1, most}, [files]string{"abcd", "", "xyz", "r", "new"}},
		{[]int{0, 0, 0, 0, 0, 1}, [files]string{"abc", "", "xyz"}},
	} {
		d := full()
		d.Arm(1, c.keep)
		expect(t, "Append", d.Append(4, "new"), api.ErrDown)
		if got := contents(d); got != c.want || !d.Down() {
			t.Errorf("an append at a crash that keeps %v: got %q, want %q", c.keep, got, c.want)
		}
	}
}

func TestArmCounts(t *testing.T) { // P6.4: every one of the four calls, whether it succeeds or fails
	for name, call := range counted() {
		for n := 2; n <= 4; n++ {
			d, free := full(), full()
			d.Arm(n, []int{1, 1})
			free.Arm(0, nil)
			for range n - 1 {
				if got, want := call(d), call(free); got != want || d.Down() {
					t.Errorf("%s before the crash: got %d, want %d", name, got, want)
				}
			}
			expect(t, name, call(d), api.ErrDown)
			if !d.Down() {
				t.Errorf("%s: still up after call %d", name, n)
			}
		}
	}
}

func TestArmDoesNotCountOthers(t *testing.T) { // P6.4
	d := full()
	d.Arm(2, []int{1})
	for range 5 {
		d.Read(0)
		d.Read(-1)
		d.Size(0)
		d.Down()
		d.Lose(2)
		d.Start()
		d.Copy().Flush(0)
	}
	want := viewOf(full())
	want.calls, want.left = 2, [files]string{"abcd", "", "xyz"}
	if got := viewOf(d); got != want {
		t.Error("calls that do not count:", got.calls, got.left)
	}
	d.Crash(nil)
	d.Arm(2, []int{1})
	for range 5 {
		for call, got := range results(d, 0, 1) {
			expect(t, call, got, api.ErrDown)
		}
	}
	d.Start()
	expect(t, "the first Flush that counts", d.Flush(-1), api.ErrArg)
	expect(t, "the second Flush that counts", d.Flush(-1), api.ErrDown)
}

func TestArmReplaces(t *testing.T) { // P6.4
	for _, c := range []struct {
		first, second, want int
	}{
		{2, 4, 4}, {4, 2, 2}, {3, 3, 3}, {2, 0, 0}, {2, -1, 0}, {2, least, 0}, {0, 2, 2}, {-1, 1, 1}, {least, 1, 1}, {1, most, 0}, {most, 1, 1},
	} {
		d := full()
		d.Arm(c.first, []int{2})
		d.Arm(c.second, []int{1})
		v := viewOf(d)
		left := [files]string{}
		if c.want > 0 {
			left = [files]string{"abcd", "", "xyz"}
		}
		if v.calls != c.want || v.left != left {
			t.Errorf("Arm of %d, then of %d: got a crash at call %d that leaves %q", c.first, c.second, v.calls, v.left)
		}
	}
	d := full()
	d.Arm(3, []int{2})
	d.Flush(-1)
	d.Flush(-1)
	d.Arm(3, []int{1})
	if v := viewOf(d); v.calls != 3 {
		t.Error("a schedule that was replaced is begun anew: got a crash at call", v.calls)
	}
}

func TestACrashCancelsTheSchedule(t *testing.T) { // P6.4
	d := full()
	d.Crash(nil)
	d.Start()
	if v := viewOf(d); v.calls != 0 {
		t.Error("after a crash: another one at call", v.calls)
	}
	d = full()
	d.Arm(1, []int{1})
	d.Turn(0, 0)
	d.Start()
	if v := viewOf(d); v.calls != 0 {
		t.Error("after the scheduled crash: another one at call", v.calls)
	}
}

func TestArmDoesNotRetainItsArgument(t *testing.T) { // P3
	d := full()
	keep := []int{1, 0, 1}
	d.Arm(1, keep)
	keep[0], keep[2] = 2, most
	c := d.Copy()
	d.Flush(0)
	c.Flush(0)
	want := [files]string{"abcd\x00f", "", "xyz"}
	if contents(d) != want || contents(c) != want {
		t.Errorf("got %q, and of a copy %q", contents(d), contents(c))
	}
	if !slices.Equal(keep, []int{2, 0, most}) {
		t.Error("the argument was changed:", keep)
	}
}

func TestTurnIsAtomic(t *testing.T) { // P6.5
	for n, want := range map[int]string{1: "old", 2: "old", 3: "old", 4: "new", 5: "new", 6: "new"} {
		for _, keep := range [][]int{nil, {most}, {1, 2}, {0, most}} {
			d := disk.New()
			d.Append(0, "old")
			d.Flush(0)
			d.Arm(n, keep)
			d.Append(1, "new")
			d.Flush(1)
			d.Turn(0, 1)
			d.Append(1, "more")
			d.Append(1, "and more")
			d.Flush(7)
			if got := contents(d)[0]; got != want || !d.Down() {
				t.Errorf("a crash at call %d that keeps %v: got %q, want %q", n, keep, got, want)
			}
		}
	}
}

func TestManyAppends(t *testing.T) { // P1: in a time that grows with the size only
	d := disk.New()
	for i := range limit / 64 {
		d.Append(i%2, strings.Repeat("x", 64))
		if i%4 == 3 {
			d.Flush(0)
			d.Flush(1)
		}
	}
	if d.Size(0) != limit/2 || d.Size(1) != limit/2 || len(after(d)[0]) != limit/2 {
		t.Error("sizes:", d.Size(0), d.Size(1))
	}
}
