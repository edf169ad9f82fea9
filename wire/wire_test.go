package wire_test

import (
	"bytes"
	"cmp"
	"math"
	"math/big"
	"slices"
	"strings"
	"testing"

	"bourne/wire"
)

const (
	least = math.MinInt
	most  = math.MaxInt
)

// edges are the ints at and beside every change of the number of bytes, in both signs, in order.
func edges() []int {
	l := []int{least, least + 1, most - 1, most, -2, -1, 0, 1, 2, 127, 128, 129}
	for k := 8; k < 63; k += 8 {
		for d := -2; d <= 2; d++ {
			l = append(l, 1<<k+d, -1<<k+d, 1<<(k-1)+d)
		}
	}
	slices.Sort(l)
	return slices.Compact(l)
}

// texts are strings of the bytes that the encoding treats apart, and of the bytes beside them.
func texts(most int) []string {
	l := []string{""}
	for i := 0; i < len(l); i++ {
		for _, c := range []byte{0, 1, 2, 254, 255} {
			if len(l[i]) < most {
				l = append(l, l[i]+string([]byte{c}))
			}
		}
	}
	return l
}

// dice gives the same numbers in every run, so that a failure can be repeated.
type dice uint64

func (d *dice) next() uint64 {
	*d += 0x9e3779b97f4a7c15
	x := uint64(*d)
	x = (x ^ x>>30) * 0xbf58476d1ce4e5b9
	x = (x ^ x>>27) * 0x94d049bb133111eb
	return x ^ x>>31
}

// below returns a number from 0 to n - 1.
func (d *dice) below(n int) int { return int(d.next() % uint64(n)) }

// int returns an int of any number of bytes.
func (d *dice) int() int { return int(d.next()) >> d.below(64) }

// text returns a string in which the bytes 0, 1 and 255 are frequent.
func (d *dice) text() string {
	b := make([]byte, d.below(6))
	for i := range b {
		b[i] = []byte{0, 0, 1, 255, byte(d.next())}[d.below(5)]
	}
	return string(b)
}

// wantInt is the definition of the encoding of an int, in unlimited integers.
func wantInt(n int) string {
	if n >= 0 {
		b := big.NewInt(int64(n)).Bytes()
		return string(append([]byte{byte(128 + len(b))}, b...))
	}
	m := new(big.Int).Neg(new(big.Int).Add(big.NewInt(int64(n)), big.NewInt(1)))
	b := m.Bytes()
	for i := range b {
		b[i] = 255 - b[i]
	}
	return string(append([]byte{byte(127 - len(b))}, b...))
}

// wantText is the definition of the encoding of a string, byte by byte.
func wantText(s string) string {
	var b []byte
	for i := range len(s) {
		if b = append(b, s[i]); s[i] == 0 {
			b = append(b, 255)
		}
	}
	return string(append(b, 0, 1))
}

func wantList[T any](l []T, one func(T) string) string {
	s := ""
	for _, x := range l {
		s += "\x01" + one(x)
	}
	return s + "\x00"
}

func TestExamples(t *testing.T) { // P2.1, P2.2
	for _, c := range []struct{ name, got, want string }{
		{"Num(0)", wire.Num(0), "\x80"},
		{"Num(1)", wire.Num(1), "\x81\x01"},
		{"Num(255)", wire.Num(255), "\x81\xff"},
		{"Num(256)", wire.Num(256), "\x82\x01\x00"},
		{"Num(most)", wire.Num(most), "\x88\x7f\xff\xff\xff\xff\xff\xff\xff"},
		{"Int(0)", wire.Int(0), "\x80"},
		{"Int(65536)", wire.Int(65536), "\x83\x01\x00\x00"},
		{"Int(-1)", wire.Int(-1), "\x7f"},
		{"Int(-2)", wire.Int(-2), "\x7e\xfe"},
		{"Int(-256)", wire.Int(-256), "\x7e\x00"},
		{"Int(-257)", wire.Int(-257), "\x7d\xfe\xff"},
		{"Int(least)", wire.Int(least), "\x77\x80\x00\x00\x00\x00\x00\x00\x00"},
		{"Text()", wire.Text(""), "\x00\x01"},
		{"Text(61 00 62)", wire.Text("a\x00b"), "a\x00\xffb\x00\x01"},
		{"Text(00 ff 00 01)", wire.Text("\x00\xff\x00\x01"), "\x00\xff\xff\x00\xff\x01\x00\x01"},
		{"Nums()", wire.Nums(nil), "\x00"},
		{"Nums(1, -1)", wire.Nums([]int{1, -1}), "\x01\x81\x01\x01\x7f\x00"},
		{"Texts()", wire.Texts([]string{}), "\x00"},
		{"Texts(\"\", a)", wire.Texts([]string{"", "a"}), "\x01\x00\x01\x01a\x00\x01\x00"},
	} {
		if c.got != c.want {
			t.Errorf("%s: got % x, want % x", c.name, c.got, c.want)
		}
	}
	r := wire.Open("\x81\x00")
	if n, left, done := r.Num(), r.Left(), r.Done(); n != 0 || left != 0 || done {
		t.Error("a reader of 81 00:", n, left, done)
	}
}

func TestWritingIsTheDefinition(t *testing.T) { // P2.1
	ints := edges()
	d := dice(1)
	for range 5000 {
		ints = append(ints, d.int())
	}
	for n := -70000; n <= 70000; n += 7 {
		ints = append(ints, n)
	}
	for _, n := range ints {
		if got, want := wire.Int(n), wantInt(n); got != want {
			t.Errorf("Int(%d): got % x, want % x", n, got, want)
		}
		want := ""
		if n >= 0 {
			want = wantInt(n)
		}
		if got := wire.Num(n); got != want {
			t.Errorf("Num(%d): got % x, want % x", n, got, want)
		}
	}
	words := texts(4)
	for i, s := range words {
		if got, want := wire.Text(s), wantText(s); got != want {
			t.Errorf("Text(% x): got % x, want % x", s, got, want)
		}
		if l := words[i:min(i+i%5, len(words))]; wire.Texts(l) != wantList(l, wantText) {
			t.Errorf("Texts(%q): got % x", l, wire.Texts(l))
		}
	}
	for i := range ints {
		if l := ints[i:min(i+i%7, len(ints))]; wire.Nums(l) != wantList(l, wantInt) {
			t.Errorf("Nums(%d): got % x", l, wire.Nums(l))
		}
	}
}

// strict reads the value at the beginning of s as P2.2 says it, given the values that have an encoding as long as s or shorter.
func strict[T any](s string, values map[string]T) (T, int, bool) {
	for size := range len(s) + 1 {
		if x, ok := values[s[:size]]; ok {
			return x, size, true
		}
	}
	var none T
	return none, 0, false
}

// checkReading compares read with strict for every string of the alphabet that has at most size bytes.
func checkReading[T any](t *testing.T, alphabet string, size int, values map[string]T, read func(*wire.Reader) T, same func(T, T) bool) {
	t.Helper()
	good := 0
	inputs := []string{""}
	for i := 0; i < len(inputs); i++ {
		s := inputs[i]
		want, used, ok := strict(s, values)
		r := wire.Open(s)
		got := read(r)
		left := 0
		if ok {
			good++
			left = len(s) - used
		}
		if !same(got, want) || r.Left() != left || r.Done() != (ok && left == 0) {
			t.Fatalf("% x: got %v, %d left, done %v; want %v, %d left, ok %v", s, got, r.Left(), r.Done(), want, left, ok)
		}
		if len(s) < size {
			for j := range len(alphabet) {
				inputs = append(inputs, s+alphabet[j:j+1])
			}
		}
	}
	if good == 0 || good == len(inputs) {
		t.Fatal("the inputs are all of one kind:", good, len(inputs))
	}
}

// only returns the values whose encodings have no bytes but those of the alphabet.
func only[T any](values map[string]T, alphabet string) map[string]T {
	some := map[string]T{}
	for s, x := range values {
		within := true
		for i := range len(s) {
			within = within && strings.IndexByte(alphabet, s[i]) >= 0
		}
		if within {
			some[s] = x
		}
	}
	return some
}

func equal[T comparable](a, b T) bool { return a == b }

// lists returns the encodings of the lists of elements that have at most size bytes.
func lists[T any](elements map[string]T, size int) map[string][]T {
	all := map[string][]T{"\x00": nil}
	for grown := true; grown; {
		grown = false
		add := map[string][]T{}
		for s, l := range all {
			for e, x := range elements {
				longer := s[:len(s)-1] + "\x01" + e + "\x00"
				if _, ok := all[longer]; !ok && len(longer) <= size {
					add[longer] = append(slices.Clone(l), x)
				}
			}
		}
		for s, l := range add {
			all[s] = l
			grown = true
		}
	}
	return all
}

func TestReadingOfAllShortInputs(t *testing.T) { // P2.2, P2.5
	ints, nums, words := map[string]int{}, map[string]int{}, map[string]string{}
	for n := -1<<16 - 1; n <= 1<<16; n++ {
		if s := wantInt(n); len(s) <= 3 {
			ints[s] = n
			if n >= 0 {
				nums[s] = n
			}
		}
	}
	for _, s := range texts(4) {
		words[wantText(s)] = s
	}
	heads := "\x00\x01\x02\x76\x77\x7d\x7e\x7f\x80\x81\x82\x88\x89\xfe\xff"
	checkReading(t, heads, 3, ints, (*wire.Reader).Int, equal[int])
	checkReading(t, heads, 3, nums, (*wire.Reader).Num, equal[int])
	checkReading(t, "\x00\x01\x02\xfe\xff", 6, words, (*wire.Reader).Text, equal[string])
	digits, letters := "\x00\x01\x7e\x80\x81\xff", "\x00\x01\x02\xff"
	checkReading(t, digits, 6, lists(only(ints, digits), 6), (*wire.Reader).Nums, slices.Equal[[]int])
	checkReading(t, letters, 7, lists(only(words, letters), 7), (*wire.Reader).Texts, slices.Equal[[]string])
}

func TestReadingOfLongNumbers(t *testing.T) { // P2.2: every width, and the bytes that no int has
	for head := range 256 {
		for _, first := range []byte{0, 1, 127, 128, 254, 255} {
			for _, fill := range []byte{0, 255, 7} {
				s := string([]byte{byte(head), first}) + strings.Repeat(string([]byte{fill}), 140)
				checkOneInt(t, s)
			}
		}
	}
	for _, n := range edges() {
		checkOneInt(t, wantInt(n))
		checkOneInt(t, wantInt(n)+"\x80")
		for i := range wantInt(n) {
			checkOneInt(t, wantInt(n)[:i]) // cut short
		}
	}
}

// checkOneInt compares Int and Num with what the bytes mean in unlimited integers.
func checkOneInt(t *testing.T, s string) {
	t.Helper()
	want, size := meaning(s)
	r := wire.Open(s)
	if n := r.Int(); n != want || r.Left() != max(0, len(s)-size)*min(size, 1) || r.Done() != (size > 0 && size == len(s)) {
		t.Errorf("Int of % x: got %d, %d left, done %v; want %d of %d bytes", s, n, r.Left(), r.Done(), want, size)
	}
	if want < 0 {
		want, size = 0, 0
	}
	r = wire.Open(s)
	if n := r.Num(); n != want || r.Left() != max(0, len(s)-size)*min(size, 1) || r.Done() != (size > 0 && size == len(s)) {
		t.Errorf("Num of % x: got %d, %d left, done %v; want %d of %d bytes", s, n, r.Left(), r.Done(), want, size)
	}
}

// meaning returns the int at the beginning of s and the size of its encoding, or 0 and 0.
func meaning(s string) (int, int) {
	if s == "" {
		return 0, 0
	}
	b := []byte(s)
	k := int(b[0]) - 128
	if k < 0 {
		k = 127 - int(b[0])
	}
	if k > len(b)-1 {
		return 0, 0
	}
	b = bytes.Clone(b[1 : 1+k])
	if s[0] < 128 {
		for i := range b {
			b[i] = 255 - b[i]
		}
	}
	m := new(big.Int).SetBytes(b)
	if s[0] < 128 {
		m.Neg(m.Add(m, big.NewInt(1)))
	}
	if !m.IsInt64() || wantInt(int(m.Int64())) != s[:1+k] {
		return 0, 0
	}
	return int(m.Int64()), 1 + k
}

func TestReadingGoesOn(t *testing.T) { // P2.2: one value after another, of all kinds
	ints, words := []int{5, least, 0, most, -300}, []string{"", "a\x00", "\x00\x01", "\xff"}
	s := wire.Num(256) + wire.Text("x\x00y") + wire.Nums(ints) + wire.Int(-257) + wire.Texts(words) + wire.Nums(nil) + wire.Text("") + wire.Num(0)
	r := wire.Open(s)
	left := len(s)
	step := func(ok bool, size int) {
		t.Helper()
		left -= size
		if !ok || r.Left() != left || r.Done() != (left == 0) {
			t.Fatal("wrong value, or position", r.Left(), "want", left, "done", r.Done())
		}
	}
	step(true, 0)
	step(r.Num() == 256, 3)
	step(r.Text() == "x\x00y", 6)
	step(slices.Equal(r.Nums(), ints), len(wire.Nums(ints)))
	step(r.Int() == -257, 3)
	step(slices.Equal(r.Texts(), words), len(wire.Texts(words)))
	step(len(r.Nums()) == 0, 1)
	step(r.Text() == "", 2)
	step(r.Num() == 0, 1)
	if r.Num() != 0 || r.Done() || r.Left() != 0 {
		t.Error("reading beyond the end has not failed")
	}
}

func TestEmptyInput(t *testing.T) { // P2.2
	if r := wire.Open(""); !r.Done() || r.Left() != 0 {
		t.Error("nothing is not all")
	}
	for i, read := range readings() {
		r := wire.Open("")
		if !read(r) || r.Done() || r.Left() != 0 {
			t.Error(i, "an empty input has a value")
		}
	}
}

// readings are the five ways to read; each reports whether the value is the zero value.
func readings() []func(*wire.Reader) bool {
	return []func(*wire.Reader) bool{
		func(r *wire.Reader) bool { return r.Num() == 0 },
		func(r *wire.Reader) bool { return r.Int() == 0 },
		func(r *wire.Reader) bool { return r.Text() == "" },
		func(r *wire.Reader) bool { return len(r.Nums()) == 0 },
		func(r *wire.Reader) bool { return len(r.Texts()) == 0 },
	}
}

func TestFailureStays(t *testing.T) { // P2.2: good bytes before and after what is wrong give nothing any more
	good := wire.Num(3) + wire.Text("a") + wire.Nums([]int{1}) + wire.Texts([]string{"b"})
	for _, c := range []struct {
		name string
		bad  string
		read int // the index of the reading that must fail
	}{
		{"a negative number", wire.Int(-1), 0},
		{"a longer negative number", wire.Int(-300), 0},
		{"an idle byte", "\x82\x00\x01", 0},
		{"an idle byte of an int", "\x82\x00\x01", 1},
		{"an idle byte of a negative int", "\x7d\xff\x00", 1},
		{"nine bytes", "\x89\x01\x01\x01\x01\x01\x01\x01\x01\x01", 1},
		{"nine bytes, negative", "\x76\x01\x01\x01\x01\x01\x01\x01\x01\x01", 1},
		{"2^63", "\x88\x80\x00\x00\x00\x00\x00\x00\x00", 1},
		{"-2^63 - 1", "\x77\x7f\xff\xff\xff\xff\xff\xff\xff", 1},
		{"a text with 0, 0", "a\x00\x00\x01", 2},
		{"a text with 0, 2", "a\x00\x02\x00\x01", 2},
		{"a text with 0, 254", "\x00\xfe\x00\x01", 2},
		{"a list with a wrong mark", "\x02\x80\x00", 3},
		{"a list with a wrong mark later", "\x01\x80\x02\x80\x00", 3},
		{"a list with a wrong element", "\x01\x81\x01\x01\x81\x00\x00", 3},
		{"a list of texts with a wrong element", "\x01a\x00\x01\x01\x00\x00\x01\x00", 4},
		{"a list of texts with a wrong mark", "\x01a\x00\x01\x80\x00", 4},
	} {
		r := wire.Open(wire.Num(7) + c.bad + good)
		if r.Num() != 7 {
			t.Fatal(c.name, "the value before it is lost")
		}
		if !readings()[c.read](r) || r.Left() != 0 || r.Done() {
			t.Error(c.name, "is read")
		}
		for range 2 {
			for i, read := range readings() {
				if !read(r) || r.Left() != 0 || r.Done() {
					t.Error(c.name, "reading", i, "goes on after the failure")
				}
			}
		}
	}
}

func TestCutEncodings(t *testing.T) { // P2.2, P2.4: a part of an encoding is none
	for i, s := range []string{wire.Num(most), wire.Int(least), wire.Text("a\x00b\x00"), wire.Nums([]int{1, -256, 70000}), wire.Texts([]string{"a", "\x00", ""})} {
		for size := range len(s) {
			r := wire.Open(s[:size])
			if !readings()[i](r) || r.Left() != 0 || r.Done() {
				t.Errorf("reading %d takes % x for the whole of % x", i, s[:size], s)
			}
		}
		if r := wire.Open(s); readings()[i](r) || !r.Done() {
			t.Errorf("reading %d does not take % x", i, s)
		}
	}
}

func TestMemory(t *testing.T) { // P2.3
	ints, words := []int{1, -2, 3, 4}, []string{"a", "\x00", "c", "d"}
	si, st := wire.Nums(ints[:2]), wire.Texts(words[:2])
	if !slices.Equal(ints, []int{1, -2, 3, 4}) || !slices.Equal(words, []string{"a", "\x00", "c", "d"}) {
		t.Error("an argument was changed")
	}
	clear(ints)
	clear(words)
	if si != wantList([]int{1, -2}, wantInt) || st != wantList([]string{"a", "\x00"}, wantText) {
		t.Error("a result follows its argument, or has elements beyond its length")
	}
	r := wire.Open(si + si + st + st)
	a, b, c, d := r.Nums(), r.Nums(), r.Texts(), r.Texts()
	a[0], c[0] = 9, "z"
	_, _ = append(a, 8), append(c, "y")
	if !slices.Equal(b, []int{1, -2}) || !slices.Equal(d, []string{"a", "\x00"}) {
		t.Error("two results share memory", b, d)
	}
	if r = wire.Open(si); !slices.Equal(r.Nums(), []int{1, -2}) {
		t.Error("a result shares memory with what is read later")
	}
	p, q := wire.Open(si), wire.Open(si)
	p.Text()
	if q.Left() != len(si) || len(q.Nums()) != 2 {
		t.Error("two readers share a position")
	}
}

// checkOrder compares the order of encodings with that of values, for all pairs.
func checkOrder[T any](t *testing.T, l []T, encode func(T) string, order func(T, T) int) {
	t.Helper()
	for _, a := range l {
		for _, b := range l {
			x, y := encode(a), encode(b)
			if want := order(a, b); strings.Compare(x, y) != want {
				t.Fatalf("%v and %v: % x and % x, want order %d", a, b, x, y, want)
			} else if want != 0 && strings.HasPrefix(x, y) {
				t.Fatalf("%v and %v: % x begins with % x", a, b, x, y)
			}
		}
	}
}

// row is a value of four kinds, whose encodings follow one another.
type row struct {
	n    int
	s    string
	ints []int
	strs []string
}

func (x row) encode() string {
	return wire.Int(x.n) + wire.Text(x.s) + wire.Nums(x.ints) + wire.Texts(x.strs)
}

func (x row) order(y row) int {
	return cmp.Or(cmp.Compare(x.n, y.n), strings.Compare(x.s, y.s), slices.Compare(x.ints, y.ints), slices.Compare(x.strs, y.strs))
}

func TestOrder(t *testing.T) { // P2.4
	ints, words := edges(), texts(3)
	checkOrder(t, ints, wire.Int, cmp.Compare[int])
	checkOrder(t, ints[slices.Index(ints, 0):], wire.Num, cmp.Compare[int])
	checkOrder(t, words, wire.Text, strings.Compare)
	nl, tl := [][]int{nil}, [][]string{nil}
	for i := 0; len(nl) < 400; i++ {
		for _, n := range []int{least, -257, -1, 0, 1, 256, most} {
			nl = append(nl, append(slices.Clone(nl[i]), n))
		}
		for _, s := range []string{"", "\x00", "\x01", "a", "a\x00", "a\xff", "\xff"} {
			tl = append(tl, append(slices.Clone(tl[i]), s))
		}
	}
	checkOrder(t, nl, wire.Nums, slices.Compare[[]int])
	checkOrder(t, tl, wire.Texts, slices.Compare[[]string])
	var rows []row
	for i := range 3 * 5 * 4 * 5 {
		rows = append(rows, row{[]int{-1, 0, 256}[i%3], words[i/3%5], nl[i/15%4], tl[i/60%5]})
	}
	checkOrder(t, rows, row.encode, row.order)
}

func TestReadingInvertsWriting(t *testing.T) { // P2.5
	d := dice(2)
	for range 3000 {
		n, s, ints, words := d.int(), d.text(), make([]int, d.below(5)), make([]string, d.below(5))
		for i := range ints {
			ints[i] = d.int()
		}
		for i := range words {
			words[i] = d.text()
		}
		r := wire.Open(wire.Int(n) + wire.Text(s) + wire.Nums(ints) + wire.Texts(words) + wire.Num(max(n, 0)))
		if got := r.Int(); got != n {
			t.Fatal(got, "want", n)
		}
		if got := r.Text(); got != s {
			t.Fatalf("%q, want %q", got, s)
		}
		if got := r.Nums(); !slices.Equal(got, ints) {
			t.Fatal(got, "want", ints)
		}
		if got := r.Texts(); !slices.Equal(got, words) {
			t.Fatalf("%q, want %q", got, words)
		}
		if got := r.Num(); got != max(n, 0) || !r.Done() {
			t.Fatal(got, "want", max(n, 0), "done", r.Done())
		}
	}
}

func TestWhatIsReadHasTheseBytes(t *testing.T) { // P2.5: for damaged encodings too
	d := dice(3)
	encodings := []func(*wire.Reader) string{
		func(r *wire.Reader) string { return wire.Num(r.Num()) },
		func(r *wire.Reader) string { return wire.Int(r.Int()) },
		func(r *wire.Reader) string { return wire.Text(r.Text()) },
		func(r *wire.Reader) string { return wire.Nums(r.Nums()) },
		func(r *wire.Reader) string { return wire.Texts(r.Texts()) },
	}
	good := 0
	for i := range 50000 {
		b := []byte([]string{wire.Num(d.int() & most), wire.Int(d.int()), wire.Text(d.text()), wire.Nums([]int{d.int(), d.int()}), wire.Texts([]string{d.text(), d.text()})}[i%5])
		b = append(b, "\x80\x00\x01\x00"...)
		for range d.below(3) {
			b[d.below(len(b))] = []byte{0, 1, 127, 128, 255, byte(d.next())}[d.below(6)]
		}
		s := string(b)
		// A good value behind what is read tells a failure, after which nothing is left, from a value.
		r := wire.Open(s + "\x80")
		back := encodings[i%5](r)
		if r.Left() == 0 {
			continue
		}
		good++
		if used := len(s) + 1 - r.Left(); back != (s + "\x80")[:used] {
			t.Fatalf("% x is read as the value of % x", s[:used], back)
		}
	}
	if good < 10000 {
		t.Error("too few of the encodings are good:", good)
	}
}

func TestLongValues(t *testing.T) { // P2.2, P2.5, P1: in a time that grows with the size only
	s, l := strings.Repeat("\x00\xff\x01", 1<<20), make([]int, 1<<20)
	r := wire.Open(wire.Text(s) + wire.Nums(l) + wire.Texts(make([]string, 1<<20)))
	if r.Text() != s || !slices.Equal(r.Nums(), l) || len(r.Texts()) != 1<<20 || !r.Done() {
		t.Error("long values are not read back")
	}
	if r = wire.Open(strings.Repeat("\x01", 1<<24)); r.Text() != "" || r.Done() {
		t.Error("a text without an end is read")
	}
	if r = wire.Open(strings.Repeat("\x01\x80", 1<<22)); len(r.Nums()) != 0 || r.Done() {
		t.Error("a list without an end is read")
	}
}
