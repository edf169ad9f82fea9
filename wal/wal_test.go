package wal_test

import (
	"encoding/hex"
	"math"
	"math/bits"
	"slices"
	"strings"
	"testing"

	"bourne/api"
	"bourne/disk"
	"bourne/wal"
)

const (
	files    = 8
	fileSize = 1 << 24
	rowSize  = 1 << 20
	least    = math.MinInt
	most     = math.MaxInt
)

// expect reports a call that does not return what it has to.
func expect(t *testing.T, call string, got, want api.Errno) {
	t.Helper()
	if got != want {
		t.Errorf("%s: got %d, want %d", call, got, want)
	}
}

// expectRows reports a log that has other rows than it should.
func expectRows(t *testing.T, when string, l *wal.Log, want ...string) {
	t.Helper()
	if got := l.All(); !slices.Equal(got, want) || l.Len() != len(want) {
		t.Errorf("%s: got %d rows %.300q, want %.300q", when, l.Len(), got, want)
	}
}

// open opens a log that has to open.
func open(t *testing.T, d *disk.Disk, f int) *wal.Log {
	t.Helper()
	l, e := wal.Open(d, f)
	if e != api.OK || l == nil {
		t.Fatalf("Open of the file %d: got %v, %d", f, l != nil, e)
	}
	return l
}

// reopen crashes the machine, starts it, and opens a log.
func reopen(t *testing.T, d *disk.Disk, f int, keep ...int) *wal.Log {
	t.Helper()
	d.Crash(keep)
	d.Start()
	return open(t, d, f)
}

// contents returns the bytes of all files, of a disk that may be down.
func contents(d *disk.Disk) [files]string {
	c := d.Copy()
	c.Start()
	var l [files]string
	for f := range l {
		l[f], _ = c.Read(f)
	}
	return l
}

// after returns the bytes of all files that a crash would leave.
func after(d *disk.Disk, keep ...int) [files]string {
	c := d.Copy()
	c.Crash(keep)
	return contents(c)
}

// view is all that can be found out about a disk with few pending appends. Views can be compared.
type view struct {
	down    bool
	bytes   [files]string
	durable [files]string
	pending [8][2][files]string // what a crash leaves that keeps one byte, or all, of one pending append
	lost    int
	calls   int // until the scheduled crash; 0 if there is none
	left    [files]string
}

func viewOf(d *disk.Disk) view {
	v := view{down: d.Down(), bytes: contents(d), durable: after(d)}
	for i := range v.pending {
		others := make([]int, i)
		v.pending[i] = [2][files]string{after(d, append(others, 1)...), after(d, append(others, most)...)}
	}
	c := d.Copy()
	c.Start()
	c.Arm(0, nil)
	for c.Flush(7) == api.ErrLost {
		v.lost++
	}
	c = d.Copy()
	c.Start()
	for n := 1; n <= 20; n++ {
		if c.Turn(0, 0) == api.ErrDown {
			v.calls, v.left = n, contents(c)
			break
		}
	}
	return v
}

// crcOf is the CRC-16 of HDLC, the other way round: with the most significant bit first, and all bytes and the result turned.
func crcOf(s string) int {
	r := uint16(0xffff)
	for i := range len(s) {
		r ^= uint16(bits.Reverse8(s[i])) << 8
		for range 8 {
			carry := r >> 15
			r = r<<1 ^ carry*0x1021
		}
	}
	return int(^bits.Reverse16(r))
}

// framed is a record of which everything is given.
func framed(first byte, size int, row string, crc int, last byte) string {
	return string([]byte{first, byte(size >> 16), byte(size >> 8), byte(size)}) + row + string([]byte{byte(crc >> 8), byte(crc), last})
}

// recordOf is the record of a row, by the definition.
func recordOf(row string) string {
	s := framed(87, len(row), row, 0, 233)
	return framed(87, len(row), row, crcOf(s[1:len(s)-3]), 233)
}

func recordsOf(rows ...string) string {
	s := ""
	for _, row := range rows {
		s += recordOf(row)
	}
	return s
}

// pattern is a string of n bytes.
func pattern(n int) string {
	b := make([]byte, n)
	for i := range b {
		b[i] = byte(7*i + 3*(i>>8) + 1)
	}
	return string(b)
}

// holding returns a disk whose file f has these bytes durably.
func holding(f int, s string) *disk.Disk {
	d := disk.New()
	if d.Append(f, s) != api.OK || d.Flush(f) != api.OK {
		panic("a file that cannot be")
	}
	return d
}

// noLogs are numbers of no log: a log needs the file after its own one, too.
func noLogs() []int { return []int{-1, 7, 8, 9, -7, least, most, 1 << 32, -1 << 32} }

func TestExamples(t *testing.T) { // P7.1, P7.7
	d := disk.New()
	l := open(t, d, 0)
	expectRows(t, "a new log", l)
	expect(t, "Append", l.Append("a"), api.OK)
	expect(t, "Flush", l.Flush(), api.OK)
	expect(t, "Append", l.Append("b"), api.OK)
	expect(t, "Append", l.Append("c"), api.OK)
	expectRows(t, "after three appends", l, "a", "b", "c")
	l = reopen(t, d, 0, 0, most)
	expectRows(t, "after the loss of the second one", l, "a")
	expect(t, "Rewrite", l.Rewrite([]string{"x", ""}), api.OK)
	expectRows(t, "after the rewrite", l, "x", "")
	expectRows(t, "after the rewrite and a crash", reopen(t, d, 0), "x", "")
}

// The records are those of a program in Python, with a CRC of its own.
var knownRecords = []struct{ row, hex string }{
	{"", "57000000c6cce9"},
	{"a", "57000001619789e9"},
	{"\x00", "5700000100e506e9"},
	{"\x00\x00\x00\x00\x00", "57000005000000000097f4e9"},
	{"W", "5700000157c33ce9"},
	{"\xe9", "57000001e99fc9e9"},
	{"abc", "570000036162638aabe9"},
	{"W\x00\x00\x00\xc6\xcc\xe9", "5700000757000000c6cce98f27e9"},
	{"W\x00\x00\x04weirr,\xe9", "5700000b5700000477656972722ce93daae9"},
	{"\xff\xff\xff", "57000003ffffffe409e9"},
}

func TestKnownRecords(t *testing.T) { // P7.1, P7.2: the records of the definition
	for _, c := range knownRecords {
		d := disk.New()
		l := open(t, d, 3)
		expect(t, "Append", l.Append(c.row), api.OK)
		if got := hex.EncodeToString([]byte(contents(d)[3])); got != c.hex || recordOf(c.row) != contents(d)[3] {
			t.Errorf("the record of %q: got %s, want %s", c.row, got, c.hex)
		}
		bytes, _ := hex.DecodeString(c.hex)
		expectRows(t, "a file with the record", open(t, holding(5, string(bytes)), 5), c.row)
	}
}

func TestKnownLongRecords(t *testing.T) { // P7.1, P7.2: the ends are those of a program in Python
	for _, c := range []struct {
		size       int
		first, end string
	}{
		{255, "\x57\x00\x00\xff", "\xb8\x11\xe9"},
		{256, "\x57\x00\x01\x00", "\xd3\x3c\xe9"},
		{65535, "\x57\x00\xff\xff", "\xd0\xe7\xe9"},
		{65536, "\x57\x01\x00\x00", "\xe8\x4c\xe9"},
		{rowSize - 1, "\x57\x0f\xff\xff", "\x1b\x2a\xe9"},
		{rowSize, "\x57\x10\x00\x00", "\x79\x69\xe9"},
	} {
		d := disk.New()
		row := pattern(c.size)
		expect(t, "Append", open(t, d, 0).Append(row), api.OK)
		if s := contents(d)[0]; s != c.first+row+c.end {
			t.Errorf("the record of a row of %d bytes: %d bytes, %x..%x", c.size, len(s), s[:4], s[len(s)-3:])
		}
		l := reopen(t, d, 0, most)
		expectRows(t, "a long row", l, row)
	}
}

func TestOpenOfNoLog(t *testing.T) { // P7.1: ErrArg, also before ErrDown
	check := func(d *disk.Disk, f int, want api.Errno) {
		t.Helper()
		if l, e := wal.Open(d, f); l != nil || e != want {
			t.Errorf("Open of the file %d: got %v, %d, want %d", f, l != nil, e, want)
		}
	}
	for _, f := range append(noLogs(), 0, 6) {
		check(nil, f, api.ErrArg)
	}
	fresh := func() *disk.Disk {
		d := holding(0, "no record")
		d.Append(1, "spare")
		d.Lose(1)
		d.Arm(2, []int{most})
		return d
	}
	d, down := fresh(), fresh()
	down.Crash([]int{most})
	before, beforeDown := viewOf(d), viewOf(down)
	for _, f := range noLogs() {
		check(d, f, api.ErrArg)
		check(down, f, api.ErrArg)
	}
	for f := range 7 {
		check(down, f, api.ErrDown)
	}
	if viewOf(d) != before || viewOf(down) != beforeDown {
		t.Error("an Open that fails at once changes the disk")
	}
}

func TestOpenOfEveryFile(t *testing.T) { // P7.1: the files f and f + 1, and no other ones
	for f := range 7 {
		d := disk.New()
		want := [files]string{}
		for g := range files {
			want[g] = recordsOf("row", strings.Repeat("x", g)) + "torn"
			d.Append(g, want[g])
		}
		expectRows(t, "a log", open(t, d, f), "row", strings.Repeat("x", f))
		want[f], want[f+1] = recordsOf("row", strings.Repeat("x", f)), ""
		if got := contents(d); got != want {
			t.Errorf("after Open of the file %d: got %q, want %q", f, got, want)
		}
		durable := [files]string{}
		durable[f] = want[f]
		if got := after(d); got != durable {
			t.Errorf("durable after Open of the file %d: got %q", f, got)
		}
	}
}

// fileCases are files, and the rows of their valid parts.
func fileCases() []struct {
	name, file string
	rows       []string
} {
	long := pattern(rowSize + 1)
	return []struct {
		name, file string
		rows       []string
	}{
		{"nothing", "", nil},
		{"zeros", strings.Repeat("\x00", 40), nil},
		{"no record", "abcdefghijklmno", nil},
		{"less than a record", "W\x00\x00\x00\xc6\xcc", nil},
		{"only first bytes", "WWWWWWWWWWWWWWW", nil},
		{"only last bytes", strings.Repeat("\xe9", 20), nil},
		{"one record", recordsOf("one"), []string{"one"}},
		{"an empty row", recordsOf(""), []string{""}},
		{"many empty rows", recordsOf("", "", "", ""), []string{"", "", "", ""}},
		{"records", recordsOf("one", "", "three", "\x00"), []string{"one", "", "three", "\x00"}},
		{"a record, and zeros", recordsOf("one") + "\x00\x00\x00", []string{"one"}},
		{"zeros, and a record", "\x00" + recordsOf("one"), nil},
		{"a hole of one byte", recordsOf("one") + "\x00" + recordsOf("two"), []string{"one"}},
		{"a hole of one record", recordsOf("one") + strings.Repeat("\x00", len(recordOf("two"))) + recordsOf("three"), []string{"one"}},
		{"something in between", recordsOf("one") + "W" + recordsOf("two"), []string{"one"}},
		{"a row with records in it", recordsOf(recordsOf("one", "two"), "three"), []string{recordsOf("one", "two"), "three"}},
		{"a torn row with records in it", recordOf(recordsOf("one", "two"))[:4+len(recordsOf("one", "two"))], nil},
		{"another first byte", framed(88, 3, "one", crcOf("\x00\x00\x03one"), 233), nil},
		{"another last byte", framed(87, 3, "one", crcOf("\x00\x00\x03one"), 232), nil},
		{"another checksum", framed(87, 3, "one", crcOf("\x00\x00\x03one")^256, 233), nil},
		{"a checksum of the row only", framed(87, 3, "one", crcOf("one"), 233), nil},
		{"a checksum of too much", framed(87, 3, "one", crcOf("W\x00\x00\x03one"), 233), nil},
		{"a size that is too small", framed(87, 2, "one", crcOf("\x00\x00\x02one"), 233), nil},
		{"a size that is too great", framed(87, 4, "one", crcOf("\x00\x00\x04one"), 233), nil},
		{"a size the other way round", framed(87, 3<<16, "one", crcOf("\x03\x00\x00one"), 233), nil},
		{"the greatest size", framed(87, 1<<24-1, "one", crcOf("\xff\xff\xffone"), 233), nil},
		{"a long row", recordsOf("one", long[:rowSize], "two"), []string{"one", long[:rowSize], "two"}},
		{"a long row that is torn", recordsOf("one") + recordOf(long[:rowSize])[:rowSize+6], []string{"one"}},
		{"a row that is too long", recordsOf("one", long, "two"), []string{"one"}},
	}
}

func TestValidPart(t *testing.T) { // P7.1
	for _, c := range fileCases() {
		for _, spare := range []string{"", "spare"} {
			d := holding(2, c.file)
			d.Append(3, spare)
			l := open(t, d, 2)
			expectRows(t, c.name, l, c.rows...)
			want := [files]string{2: recordsOf(c.rows...)}
			if contents(d) != want || after(d) != want {
				t.Errorf("%s: the file has %d bytes, not %d", c.name, len(contents(d)[2]), len(want[2]))
			}
			expect(t, c.name+": Append", l.Append("next"), api.OK)
			expect(t, c.name+": Flush", l.Flush(), api.OK)
			expectRows(t, c.name+", and one more", reopen(t, d, 2), append(slices.Clone(c.rows), "next")...)
		}
	}
}

func TestTornRecords(t *testing.T) { // P7.1: every beginning of a record, with and without zeros and records after it
	for _, row := range []string{"", "a", "\x00", "\x00\x00\x00\x00\x00\x00\x00\x00\x00", "W\x00\x00\x00\xc6\xcc\xe9", strings.Repeat("\xe9", 12), strings.Repeat("x", 300), recordsOf("a", "b")} {
		record := recordOf(row)
		for n := range record {
			for _, end := range []string{"", strings.Repeat("\x00", len(record)-n), strings.Repeat("\x00", len(record)-n) + recordsOf("later", "")} {
				d := holding(0, recordsOf("one")+record[:n]+end)
				expectRows(t, "a torn record", open(t, d, 0), "one")
				if got := contents(d)[0]; got != recordsOf("one") {
					t.Errorf("%d bytes of the record of %q: the file is %q", n, row, got)
				}
			}
		}
	}
}

// validOf is the valid part of a short file by the definition: the longest of all prefixes that are concatenations of records.
func validOf(file string) []string {
	ends := map[int][]string{0: nil}
	longest := 0
	for i := range len(file) {
		rows, ok := ends[i]
		for j := i + 7; ok && j <= len(file); j++ {
			if row := file[i+4 : j-3]; file[i:j] == recordOf(row) {
				ends[j] = append(slices.Clone(rows), row)
				longest = max(longest, j)
			}
		}
	}
	return ends[longest]
}

func TestValidPartOfWrongBits(t *testing.T) { // P7.1
	file := recordsOf("", "ab", "\x00", "W")
	for bit := range 8 * len(file) {
		b := []byte(file)
		b[bit/8] ^= 1 << (bit % 8)
		want := validOf(string(b))
		expectRows(t, "a wrong bit", open(t, holding(0, string(b)), 0), want...)
		if len(want) > 3 {
			t.Error("the bit", bit, "is not in the way")
		}
	}
}

func TestAppendOfLongRows(t *testing.T) { // P7.2: too long, before the disk is called
	d := disk.New()
	l := open(t, d, 0)
	l.Append("one")
	d.Arm(1, nil)
	long := pattern(rowSize + 1)
	for range 3 {
		expect(t, "Append of too much", l.Append(long), api.ErrFull)
	}
	expectRows(t, "after it", l, "one")
	if d.Down() || contents(d) != [files]string{recordsOf("one")} {
		t.Error("an Append of too much changes the disk")
	}
	d.Arm(0, nil)
	expect(t, "Append of a long row", l.Append(long[:rowSize]), api.OK)
	expectRows(t, "after it", l, "one", long[:rowSize])
}

func TestAppendToAFullFile(t *testing.T) { // P7.2: an error of the disk
	d := disk.New()
	l := open(t, d, 0)
	row := pattern(rowSize - 7)
	var rows []string
	for range 15 {
		expect(t, "Append", l.Append(row), api.OK)
		rows = append(rows, row)
	}
	rest := row[:rowSize-7-20]
	for _, wrong := range []string{row + "x", row + pattern(7)} {
		expect(t, "Append of more than fits", l.Append(wrong), api.ErrFull)
	}
	expectRows(t, "after it", l, rows...)
	expect(t, "Append of nearly all that fits", l.Append(rest), api.OK)
	expect(t, "Append of more than fits", l.Append(pattern(14)), api.ErrFull)
	expect(t, "Append of what fits", l.Append(pattern(13)), api.OK)
	expect(t, "Append of an empty row", l.Append(""), api.ErrFull)
	rows = append(rows, rest, pattern(13))
	expectRows(t, "a full log", l, rows...)
	if d.Size(0) != fileSize {
		t.Error("the file has", d.Size(0), "bytes")
	}
	expectRows(t, "a full log after a crash", reopen(t, d, 0, slices.Repeat([]int{most}, 17)...), rows...)
}

func TestLogOfManyRows(t *testing.T) { // P1: in a time that grows with the size only
	d := holding(0, strings.Repeat(recordOf(""), fileSize/7)+"W")
	l := open(t, d, 0)
	if l.Len() != fileSize/7 || len(l.All()) != fileSize/7 || d.Size(0) != fileSize/7*7 {
		t.Error("got", l.Len(), "rows")
	}
}

// steps are calls that a disk has to get one after another, until one of them fails.
type steps []func(*disk.Disk) api.Errno

func (l steps) run(d *disk.Disk) api.Errno {
	for _, call := range l {
		if e := call(d); e != api.OK {
			return e
		}
	}
	return api.OK
}

func cut(f, n int) func(*disk.Disk) api.Errno {
	return func(d *disk.Disk) api.Errno { return d.Cut(f, n) }
}

func add(f int, s string) func(*disk.Disk) api.Errno {
	return func(d *disk.Disk) api.Errno { return d.Append(f, s) }
}

func flush(f int) func(*disk.Disk) api.Errno {
	return func(d *disk.Disk) api.Errno { return d.Flush(f) }
}

func turn(f, g int) func(*disk.Disk) api.Errno {
	return func(d *disk.Disk) api.Errno { return d.Turn(f, g) }
}

// troubles prepare a disk, so that some step fails: with crashes at every call, and lost flushes.
func troubles() []func(*disk.Disk) {
	l := []func(*disk.Disk){func(*disk.Disk) {}, func(d *disk.Disk) { d.Lose(1) }, func(d *disk.Disk) { d.Lose(2) }, func(d *disk.Disk) { d.Crash([]int{most}) }}
	for n := 1; n <= 6; n++ {
		for _, keep := range [][]int{nil, {most, most, most, most, most, most}, {2, 3, 2, 3, 2, 3}, {0, most, 0, most}, {most, 0, most, 0, 9}} {
			l = append(l, func(d *disk.Disk) { d.Arm(n, keep) }, func(d *disk.Disk) { d.Arm(n, keep); d.Lose(1) })
		}
	}
	return l
}

func TestOpenSteps(t *testing.T) { // P7.1: exactly these calls, and what the calls before a failure did remains
	valid := recordsOf("one", "")
	for _, c := range []struct {
		name, durable, pending, spare string
		want                          steps
	}{
		{"a new log", "", "", "", steps{flush(4)}},
		{"a whole log", valid, "", "", steps{flush(4)}},
		{"pending rows", recordsOf("one"), recordsOf(""), "", steps{flush(4)}},
		{"a spare file", valid, "", "spare", steps{cut(5, 0), flush(4)}},
		{"a torn row", valid, "W\x00", "", steps{cut(4, len(valid)), flush(4)}},
		{"a torn row that is durable", valid + "W\x00", "", "spare", steps{cut(4, len(valid)), cut(5, 0), flush(4)}},
		{"no rows", "none", "none", "spare", steps{cut(4, 0), cut(5, 0), flush(4)}},
	} {
		for i, trouble := range troubles() {
			d := holding(4, c.durable)
			d.Append(4, c.pending)
			d.Append(5, c.spare)
			d.Append(6, "another file")
			twin := d.Copy()
			trouble(d)
			trouble(twin)
			l, got := wal.Open(d, 4)
			want := api.ErrDown
			if !twin.Down() {
				want = c.want.run(twin)
			}
			if got != want || (l != nil) != (want == api.OK) || viewOf(d) != viewOf(twin) {
				t.Errorf("Open of %s, trouble %d: got %v, %d, want %d; files %q, want %q", c.name, i, l != nil, got, want, contents(d), contents(twin))
			}
		}
	}
}

// scene is a log with rows that are durable, and rows that are not.
func scene(t *testing.T, spare string) (*disk.Disk, *wal.Log) {
	d := holding(1, recordsOf("safe", "\x00"))
	d.Append(0, "another file")
	l := open(t, d, 1)
	l.Append("one")
	d.Append(2, spare)
	l.Append("two")
	return d, l
}

var sceneRows = []string{"safe", "\x00", "one", "two"}

func TestSteps(t *testing.T) { // P7.2, P7.4, P7.5: exactly these calls, and a log that is unchanged when one fails
	rewriting := func(s string) steps { return steps{add(2, s), flush(2), turn(1, 2)} }
	for _, c := range []struct {
		name, spare string
		do          func(*wal.Log) api.Errno
		want        steps
		rows        []string
	}{
		{"Append", "spare", func(l *wal.Log) api.Errno { return l.Append("three") }, steps{add(1, recordOf("three"))}, append(slices.Clone(sceneRows), "three")},
		{"Append of an empty row", "", func(l *wal.Log) api.Errno { return l.Append("") }, steps{add(1, recordOf(""))}, append(slices.Clone(sceneRows), "")},
		{"Flush", "spare", func(l *wal.Log) api.Errno { return l.Flush() }, steps{flush(1)}, sceneRows},
		{"Rewrite", "", func(l *wal.Log) api.Errno { return l.Rewrite([]string{"x", ""}) }, rewriting(recordsOf("x", "")), []string{"x", ""}},
		{"Rewrite with a spare file", "spare", func(l *wal.Log) api.Errno { return l.Rewrite([]string{"x", ""}) }, append(steps{cut(2, 0)}, rewriting(recordsOf("x", ""))...), []string{"x", ""}},
		{"Rewrite of nothing", "", func(l *wal.Log) api.Errno { return l.Rewrite(nil) }, rewriting(""), nil},
		{"Rewrite of nothing with a spare file", "spare", func(l *wal.Log) api.Errno { return l.Rewrite([]string{}) }, append(steps{cut(2, 0)}, rewriting("")...), nil},
	} {
		for i, trouble := range troubles() {
			d, l := scene(t, c.spare)
			twin, _ := scene(t, c.spare)
			trouble(d)
			trouble(twin)
			got, want := c.do(l), c.want.run(twin)
			if got != want || viewOf(d) != viewOf(twin) {
				t.Errorf("%s, trouble %d: got %d, want %d; files %q, want %q", c.name, i, got, want, contents(d), contents(twin))
			}
			if want == api.OK {
				expectRows(t, c.name, l, c.rows...)
			} else {
				expectRows(t, c.name+" that fails", l, sceneRows...)
			}
		}
	}
}

func TestFlushIsOfThisFile(t *testing.T) { // P7.2
	d, l := scene(t, "spare")
	expect(t, "Flush", l.Flush(), api.OK)
	if got := after(d); got != [files]string{"", recordsOf(sceneRows...)} {
		t.Errorf("durable: %q", got)
	}
	if got := after(d, most, most); got != [files]string{"another file", recordsOf(sceneRows...), "spare"} {
		t.Errorf("what is left of the others: %q", got)
	}
}

func TestLostFlush(t *testing.T) { // P7.2
	d, l := scene(t, "")
	d.Lose(1)
	expect(t, "a lost Flush", l.Flush(), api.ErrLost)
	expectRows(t, "after it", l, sceneRows...)
	expectRows(t, "after it and a crash", reopen(t, d.Copy(), 1), "safe", "\x00")
	expect(t, "another Flush", l.Flush(), api.OK)
	expectRows(t, "after it and a crash", reopen(t, d, 1), sceneRows...)
}

func TestAllAndLen(t *testing.T) { // P7.3
	d := disk.New()
	l := open(t, d, 6)
	var rows []string
	for i := range 200 {
		expectRows(t, "a growing log", l, rows...)
		row := pattern(i % 9)
		expect(t, "Append", l.Append(row), api.OK)
		rows = append(rows, row)
		before := viewOf(d)
		expectRows(t, "a growing log", l, rows...)
		if viewOf(d) != before {
			t.Fatal("All or Len changes the disk")
		}
	}
	expectRows(t, "opened once more", open(t, d, 6), rows...)
}

func TestRewrite(t *testing.T) { // P7.4, P7.7
	for _, rows := range [][]string{nil, {""}, {"x"}, {"x", "", "\x00", "W"}, {"", "", ""}, sceneRows, {recordsOf("a", "b")}, {pattern(70000), "y"}} {
		d, l := scene(t, "spare")
		expect(t, "Rewrite", l.Rewrite(rows), api.OK)
		expectRows(t, "after it", l, rows...)
		want := [files]string{"another file", recordsOf(rows...)}
		if contents(d) != want || after(d, most) != want {
			t.Errorf("the files after a Rewrite of %.100q: got %.300q", rows, contents(d))
		}
		expect(t, "Append", l.Append("next"), api.OK)
		expect(t, "Flush", l.Flush(), api.OK)
		rows = append(slices.Clone(rows), "next")
		expectRows(t, "after a further row", l, rows...)
		expectRows(t, "after a crash", reopen(t, d, 1), rows...)
	}
}

func TestRewriteOfLongRows(t *testing.T) { // P7.4: too long, before anything is done
	d, l := scene(t, "spare")
	d.Arm(1, nil)
	before := viewOf(d)
	long := pattern(rowSize + 1)
	for _, rows := range [][]string{{long}, {"a", long}, {long, "a"}, {"a", long, "b", long}} {
		expect(t, "Rewrite", l.Rewrite(rows), api.ErrFull)
	}
	expectRows(t, "after it", l, sceneRows...)
	if viewOf(d) != before {
		t.Error("a Rewrite with a row that is too long changes the disk")
	}
	d.Arm(0, nil)
	expect(t, "Rewrite with long rows", l.Rewrite([]string{long[1:], "a", long[:rowSize]}), api.OK)
	expectRows(t, "after it", reopen(t, d, 1), long[1:], "a", long[:rowSize])
}

func TestRewriteOfTooManyRows(t *testing.T) { // P7.4: an error of the disk, which has emptied the file f + 1 before
	row := pattern(rowSize - 7)
	rows := slices.Repeat([]string{row}, 16) // their records fill a file
	for _, more := range [][]string{{""}, {"a"}, {pattern(rowSize)}, rows} {
		d, l := scene(t, "spare")
		expect(t, "Rewrite of too much", l.Rewrite(append(slices.Clone(rows), more...)), api.ErrFull)
		expectRows(t, "after it", l, sceneRows...)
		if got := contents(d); got != [files]string{"another file", recordsOf(sceneRows...)} {
			t.Errorf("the files after it: %.300q", got)
		}
		expect(t, "Append", l.Append("next"), api.OK)
		expectRows(t, "after it", l, append(slices.Clone(sceneRows), "next")...)
	}
	d, l := scene(t, "spare")
	expect(t, "Rewrite of a full file", l.Rewrite(rows), api.OK)
	expectRows(t, "after it", l, rows...)
	if d.Size(1) != fileSize {
		t.Error("the file has", d.Size(1), "bytes")
	}
	expect(t, "Append to a full file", l.Append(""), api.ErrFull)
	expectRows(t, "after a crash", reopen(t, d, 1), rows...)
}

func TestRewriteAfterALostFlush(t *testing.T) { // P7.4: what a Rewrite that failed left in the file f + 1 is in no later one
	d, l := scene(t, "")
	d.Lose(2)
	expect(t, "Rewrite", l.Rewrite([]string{"lost"}), api.ErrLost)
	expect(t, "Rewrite", l.Rewrite([]string{"lost too", "lost"}), api.ErrLost)
	expectRows(t, "after it", l, sceneRows...)
	expectRows(t, "after it and a crash", reopen(t, d.Copy(), 1, most, most, most, most, most), sceneRows...)
	expect(t, "Rewrite", l.Rewrite([]string{"found"}), api.OK)
	expectRows(t, "after it and a crash", reopen(t, d, 1), "found")
}

func TestDown(t *testing.T) { // P7.5
	long := pattern(rowSize + 1)
	for _, spare := range []string{"", "spare"} {
		d, l := scene(t, spare)
		d.Crash([]int{most, most, most, most})
		before := viewOf(d)
		for range 2 {
			expect(t, "Append", l.Append("three"), api.ErrDown)
			expect(t, "Append of too much", l.Append(long), api.ErrFull)
			expect(t, "Flush", l.Flush(), api.ErrDown)
			expect(t, "Rewrite", l.Rewrite([]string{"x"}), api.ErrDown)
			expect(t, "Rewrite of nothing", l.Rewrite(nil), api.ErrDown)
			expect(t, "Rewrite of too much", l.Rewrite([]string{"x", long}), api.ErrFull)
			expect(t, "Rewrite of too many", l.Rewrite(slices.Repeat([]string{long[1:]}, 20)), api.ErrDown)
			expectRows(t, "down", l, sceneRows...)
		}
		if viewOf(d) != before {
			t.Errorf("calls while the disk is down change it: %q", contents(d))
		}
	}
}

func TestResultsAreFresh(t *testing.T) { // P7.6
	_, l := scene(t, "")
	spoil := func() {
		one, two := l.All(), l.All()
		for i := range one {
			one[i] = "spoilt"
		}
		_ = append(one[:1], "spoilt", "spoilt")
		_ = append(two, "spoilt", "spoilt")
		if i := slices.Index(two, "spoilt"); i >= 0 {
			t.Error("two results share their memory")
		}
	}
	spoil()
	expectRows(t, "after its result was changed", l, sceneRows...)
	before := l.All()
	for i := range 20 {
		expect(t, "Append", l.Append("more"), api.OK)
		spoil()
		expectRows(t, "after its result was changed", l, append(slices.Clone(sceneRows), slices.Repeat([]string{"more"}, i+1)...)...)
	}
	expect(t, "Rewrite", l.Rewrite([]string{"x", "y"}), api.OK)
	spoil()
	expectRows(t, "after its result was changed", l, "x", "y")
	if !slices.Equal(before, sceneRows) {
		t.Error("a result was changed later:", before)
	}
}

func TestArgumentsAreNotRetained(t *testing.T) { // P7.6, P3
	d, l := scene(t, "")
	rows := []string{"x", "y", pattern(rowSize + 1), "z"}
	part := rows[:2]
	expect(t, "Rewrite", l.Rewrite(part), api.OK)
	part[0] = "spoilt"
	expectRows(t, "after the argument was changed", l, "x", "y")
	expect(t, "Append", l.Append("w"), api.OK)
	if !slices.Equal(rows, []string{"spoilt", "y", pattern(rowSize + 1), "z"}) {
		t.Error("the argument was changed")
	}
	expectRows(t, "after an append", l, "x", "y", "w")
	own := l.All()
	expect(t, "Rewrite of its own rows", l.Rewrite(own[1:]), api.OK)
	own[2] = "spoilt"
	expectRows(t, "after it", l, "y", "w")
	expectRows(t, "after it and a crash", reopen(t, d, 1), "y", "w")
}

func TestInterruptedAppend(t *testing.T) { // P7.7: its row may be there, but only whole
	record := recordOf("three")
	for keep := range len(record) + 2 {
		for _, one := range []int{0, len(recordOf("one")) - 1, most} {
			d, l := scene(t, "")
			l.Flush()
			l.Append("one")
			d.Arm(1, []int{0, one, keep}) // the first one is of another file
			expect(t, "Append", l.Append("three"), api.ErrDown)
			expectRows(t, "down", l, append(slices.Clone(sceneRows), "one")...)
			d.Start()
			want := slices.Clone(sceneRows)
			if one == most {
				want = append(want, "one")
			}
			if one == most && keep >= len(record) {
				want = append(want, "three")
			}
			expectRows(t, "after the crash", open(t, d, 1), want...)
		}
	}
}

func TestInterruptedRewrite(t *testing.T) { // P7.7: before the last call nothing of it, after it all
	for n := 1; n <= 5; n++ {
		for _, keep := range [][]int{nil, {0, most}, {0, most, most}, {0, 0, 0, most}, {0, 0, most, most}, {0, most, most, 20}} {
			d, l := scene(t, "")
			d.Arm(n, keep)
			without := d.Copy()
			without.Crash(keep)
			without.Start()
			want := open(t, without, 1).All()
			if n > 3 {
				want = []string{"x", "y"}
			}
			e := l.Rewrite([]string{"x", "y"})
			for range 2 {
				l.Flush()
			}
			if e == api.OK != (n > 3) || !d.Down() {
				t.Errorf("a crash at call %d: Rewrite returns %d", n, e)
			}
			d.Start()
			expectRows(t, "after the crash", open(t, d, 1), want...)
			if got := contents(d); got[1] != recordsOf(want...) || got[2] != "" {
				t.Errorf("a crash at call %d: the files are %q", n, got)
			}
		}
	}
}

func TestLogsBesideEachOther(t *testing.T) { // P7.1 to P7.4: of two logs with other files, neither changes the other one
	d := disk.New()
	var logs [4]*wal.Log
	var rows [4][]string
	for i := range logs {
		logs[i] = open(t, d, 2*i)
	}
	for round := range 12 {
		for i, l := range logs {
			row := pattern(round + 10*i)
			if round%4 == i {
				rows[i] = []string{row, row}
				expect(t, "Rewrite", l.Rewrite(rows[i]), api.OK)
			} else {
				rows[i] = append(slices.Clone(rows[i]), row)
				expect(t, "Append", l.Append(row), api.OK)
			}
			for j, other := range logs {
				expectRows(t, "a log beside others", other, rows[j]...)
			}
		}
	}
	expect(t, "Flush", logs[2].Flush(), api.OK)
	copied := d.Copy()
	expectRows(t, "after a crash", reopen(t, copied, 4), rows[2]...)
	d.Crash(slices.Repeat([]int{most}, 100))
	d.Start()
	for i := range logs {
		expectRows(t, "after a crash that takes nothing", open(t, d, 2*i), rows[i]...)
	}
}

func TestRewritingIsAppending(t *testing.T) { // P7.8
	for _, rows := range [][]string{nil, {""}, {"x"}, {"x", "", "\x00", "W\xe9"}, {pattern(300), pattern(70000), ""}, slices.Repeat([]string{"same"}, 50)} {
		one, l := scene(t, "spare")
		expect(t, "Rewrite", l.Rewrite(rows), api.OK)
		other := disk.New()
		m := open(t, other, 1)
		for _, row := range rows {
			expect(t, "Append", m.Append(row), api.OK)
		}
		if contents(one)[1] != contents(other)[1] || len(contents(one)[1]) != len(recordsOf(rows...)) {
			t.Errorf("the files of %.100q differ", rows)
		}
	}
}
