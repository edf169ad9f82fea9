package span_test

import (
	"math"
	"math/big"
	"testing"

	"bourne/api"
	"bourne/exact"
	"bourne/span"
)

const (
	maxVol = api.MaxVol
	least  = math.MinInt
	most   = math.MaxInt
)

func of(lo, hi int) api.Span { return api.Span{Lo: lo, Hi: hi} }

// edges are the numbers at and beside every limit that the chapter names.
func edges() []int {
	return []int{least, least + 1, least / 2, -maxVol - 1, -maxVol, -2, -1, 0, 1, 2, 3, 7, maxVol/2 - 1, maxVol / 2, maxVol - 1, maxVol, maxVol + 1, most/2 + 1, most - 1, most}
}

// spansOf returns every span whose ends are among some numbers: right ones, wrong ones, and those of one integer.
func spansOf(ends []int) []api.Span {
	var l []api.Span
	for _, lo := range ends {
		for _, hi := range ends {
			l = append(l, of(lo, hi))
		}
	}
	return l
}

func smallEnds() []int { return []int{-3, -2, -1, 0, 1, 2, 3} }

func rightOnes(l []api.Span) []api.Span {
	var right []api.Span
	for _, s := range l {
		if s.Lo <= s.Hi {
			right = append(right, s)
		}
	}
	return right
}

// dice gives the same numbers in every run, so that a failure can be repeated.
type dice uint64

func (d *dice) next() uint64 {
	*d += 0x9e3779b97f4a7c15
	x := uint64(*d)
	x = (x ^ x>>30) * 0xbf58476d1ce4e5b9
	x = (x ^ x>>27) * 0x94d049bb133111eb
	return x ^ x>>31
}

// upTo returns a number from 0 to n; small, great and middling ones are all frequent.
func (d *dice) upTo(n int) int {
	m := n >> (d.next() % 51)
	k := int(d.next() % uint64(m+1))
	if d.next()%2 == 0 {
		return n - k
	}
	return k
}

// someInt returns any int; small and great ones of both signs are all frequent.
func (d *dice) someInt() int {
	n := int(d.next() >> (d.next() % 64))
	if d.next()%2 == 0 {
		return ^n
	}
	return n
}

// in returns an integer of a right span, often one of its ends.
func (d *dice) in(s api.Span) int {
	switch d.next() % 4 {
	case 0:
		return s.Lo
	case 1:
		return s.Hi
	}
	width := uint64(s.Hi) - uint64(s.Lo)
	if width == math.MaxUint64 {
		return int(d.next())
	}
	return s.Lo + int(d.next()%(width+1))
}

func bigOf(n int) *big.Int { return big.NewInt(int64(n)) }

// limited returns the int that is nearest to n.
func limited(n *big.Int) int {
	if n.IsInt64() {
		return int(n.Int64())
	}
	if n.Sign() < 0 {
		return least
	}
	return most
}

func plus(a, b int) int { return limited(new(big.Int).Add(bigOf(a), bigOf(b))) }

func minus(a, b int) int { return limited(new(big.Int).Sub(bigOf(a), bigOf(b))) }

// P9.2, P9.3: the examples of the chapter.
func TestExamples(t *testing.T) {
	checkSpan(t, "Add", span.Add(of(1, 3), of(10, 20)), of(11, 23))
	checkSpan(t, "Sub", span.Sub(of(1, 3), of(10, 20)), of(-19, -7))
	checkScale(t, of(10, 11), 1, 3, of(3, 4), true)
	checkScale(t, of(-1, 5), 1, 1, of(0, 0), false)
	checkMeet(t, of(1, 5), of(4, 9), of(4, 5), true)
	checkMeet(t, of(1, 2), of(4, 9), of(0, 0), false)
	checkSpan(t, "Join", span.Join(of(1, 2), of(4, 9)), of(1, 9))
}

func checkSpan(t *testing.T, call string, got, want api.Span) {
	t.Helper()
	if got != want {
		t.Errorf("%s: got %v, want %v", call, got, want)
	}
}

func checkScale(t *testing.T, s api.Span, num, den int, want api.Span, ok bool) {
	t.Helper()
	if got, gotOK := span.Scale(s, num, den); got != want || gotOK != ok {
		t.Errorf("Scale(%v, %d, %d): got %v, %t, want %v, %t", s, num, den, got, gotOK, want, ok)
	}
}

func checkMeet(t *testing.T, a, b, want api.Span, ok bool) {
	t.Helper()
	if got, gotOK := span.Meet(a, b); got != want || gotOK != ok {
		t.Errorf("Meet(%v, %v): got %v, %t, want %v, %t", a, b, got, gotOK, want, ok)
	}
}

// P9.1
func TestRightOfAndHas(t *testing.T) {
	for _, n := range edges() {
		checkSpan(t, "Of", span.Of(n), of(n, n))
		if !span.Right(span.Of(n)) {
			t.Errorf("Of(%d) is not right", n)
		}
	}
	for _, s := range spansOf(edges()) {
		order := bigOf(s.Lo).Cmp(bigOf(s.Hi))
		if span.Right(s) != (order <= 0) {
			t.Errorf("Right(%v): got %t", s, span.Right(s))
		}
		for _, n := range edges() {
			want := bigOf(n).Cmp(bigOf(s.Lo)) >= 0 && bigOf(n).Cmp(bigOf(s.Hi)) <= 0
			if span.Has(s, n) != want {
				t.Errorf("Has(%v, %d): not %t", s, n, want)
			}
		}
	}
}

// P9.1: a span has the integers that one counts from its Lo until its Hi; one that is not right has none.
func TestHasCounts(t *testing.T) {
	for _, s := range spansOf(smallEnds()) {
		inside := map[int]bool{}
		for n := s.Lo; n <= s.Hi; n++ {
			inside[n] = true
		}
		if span.Right(s) != (len(inside) > 0) {
			t.Errorf("Right(%v): got %t", s, span.Right(s))
		}
		for n := -5; n <= 5; n++ {
			if span.Has(s, n) != inside[n] {
				t.Errorf("Has(%v, %d): not %t", s, n, inside[n])
			}
		}
	}
}

// P9.2, P9.3: the formulas of Add, Sub and Width, in unlimited integers that are limited at the end, for right spans and wrong ones.
func TestSums(t *testing.T) {
	all := append(spansOf(edges()), spansOf(smallEnds())...)
	for _, a := range all {
		if got, want := span.Width(a), minus(a.Hi, a.Lo); got != want {
			t.Errorf("Width(%v): got %d, want %d", a, got, want)
		}
		for _, lo := range edges() {
			for _, hi := range edges() {
				checkSums(t, a, of(lo, hi))
			}
		}
	}
	d := dice(1)
	for range 20000 {
		checkSums(t, of(d.someInt(), d.someInt()), of(d.someInt(), d.someInt()))
	}
}

func checkSums(t *testing.T, a, b api.Span) {
	t.Helper()
	want := of(plus(a.Lo, b.Lo), plus(a.Hi, b.Hi))
	if got := span.Add(a, b); got != want {
		t.Errorf("Add(%v, %v): got %v, want %v", a, b, got, want)
	}
	want = of(minus(a.Lo, b.Hi), minus(a.Hi, b.Lo))
	if got := span.Sub(a, b); got != want {
		t.Errorf("Sub(%v, %v): got %v, want %v", a, b, got, want)
	}
}

// P9.2, P9.3: sums, differences and widths at the limits of int.
func TestLimits(t *testing.T) {
	checkSpan(t, "Add", span.Add(of(least, most), of(-1, 1)), of(least, most))
	checkSpan(t, "Add", span.Add(of(most-1, most), of(1, 1)), of(most, most))
	checkSpan(t, "Add", span.Add(of(most, least), of(1, -1)), of(most, least))
	checkSpan(t, "Add", span.Add(of(least, least), of(most, most)), of(-1, -1))
	checkSpan(t, "Sub", span.Sub(of(0, 0), of(least, most)), of(-most, most))
	checkSpan(t, "Sub", span.Sub(of(-1, -1), of(least, least)), of(most, most))
	checkSpan(t, "Sub", span.Sub(of(least, most), of(-1, 1)), of(least, most))
	for _, c := range []struct {
		s    api.Span
		want int
	}{
		{of(0, 0), 0}, {of(-2, 5), 7}, {of(5, -2), -7}, {of(least, most), most}, {of(most, least), least},
		{of(-1, most), most}, {of(least, -1), most}, {of(least, 0), most}, {of(0, least), least}, {of(least, least), 0},
	} {
		if got := span.Width(c.s); got != c.want {
			t.Errorf("Width(%v): got %d, want %d", c.s, got, c.want)
		}
	}
}

// P9.2: the edges of Scale: wrong spans, arguments and quotients out of range, and a Hi that rounding up takes over the limit.
func TestScaleEdges(t *testing.T) {
	for _, c := range []struct {
		s        api.Span
		num, den int
		want     api.Span
		ok       bool
	}{
		{of(0, 0), 0, 1, of(0, 0), true},
		{of(0, 0), 5, 7, of(0, 0), true},
		{of(0, 1), 1, 2, of(0, 1), true},
		{of(1, 1), 1, 2, of(0, 1), true},
		{of(1, 2), 1, 2, of(0, 1), true},
		{of(2, 2), 1, 2, of(1, 1), true},
		{of(2, 3), 1, 2, of(1, 2), true},
		{of(9, 9), 1, 3, of(3, 3), true},
		{of(9, 10), 1, 3, of(3, 4), true},
		{of(10, 12), 1, 3, of(3, 4), true},
		{of(11, 13), 2, 3, of(7, 9), true},
		{of(0, maxVol), 1, 1, of(0, maxVol), true},
		{of(0, maxVol), 0, maxVol, of(0, 0), true},
		{of(maxVol, maxVol), maxVol, maxVol, of(maxVol, maxVol), true},
		{of(0, maxVol), 1, maxVol, of(0, 1), true},
		{of(1, maxVol-1), 1, maxVol, of(0, 1), true},
		{of(0, 3), maxVol - 1, 3, of(0, maxVol-1), true},
		{of(0, 2), maxVol - 1, 2, of(0, maxVol-1), true},
		{of(1, 1), maxVol - 1, 2, of(maxVol/2-1, maxVol/2), true},
		// The quotient for Hi is just below the limit and rounded up to it, then exactly the limit, then half a litre more, then one more.
		{of(0, (4*maxVol-1)/5), 5, 4, of(0, maxVol), true},
		{of(0, maxVol/2), 2, 1, of(0, maxVol), true},
		{of(0, (2*maxVol+1)/3), 3, 2, of(0, 0), false},
		{of((2*maxVol+1)/3, (2*maxVol+1)/3), 3, 2, of(0, 0), false},
		{of(0, (2*maxVol+1)/3-1), 3, 2, of(0, maxVol-1), true},
		{of(0, maxVol/2+1), 2, 1, of(0, 0), false},
		{of(5, 4), 1, 1, of(0, 0), false},
		{of(5, -4), 1, 1, of(0, 0), false},
		{of(1, 0), 0, 1, of(0, 0), false},
		{of(4, 3), 1, 3, of(0, 0), false}, // not right, though the result would be
		{of(5, 4), 1, 3, of(0, 0), false},
		{of(-1, 5), 1, 1, of(0, 0), false},
		{of(-1, -1), 1, 1, of(0, 0), false},
		{of(-5, 5), 0, 1, of(0, 0), false},
		{of(0, maxVol+1), 1, 2, of(0, 0), false},
		{of(maxVol+1, maxVol+1), 0, 1, of(0, 0), false},
		{of(0, maxVol), 2, 1, of(0, 0), false},
		{of(1, 2), -1, 1, of(0, 0), false},
		{of(1, 2), 1, 0, of(0, 0), false},
		{of(1, 2), 1, -1, of(0, 0), false},
		{of(0, 0), 0, 0, of(0, 0), false},
		{of(1, 2), maxVol + 1, maxVol, of(0, 0), false},
		{of(1, 2), 1, maxVol + 1, of(0, 0), false},
		{of(least, most), 1, 1, of(0, 0), false},
		{of(0, most), 0, 1, of(0, 0), false},
		{of(0, 0), least, least, of(0, 0), false},
	} {
		checkScale(t, c.s, c.num, c.den, c.want, c.ok)
	}
}

// wantScale is P9.2 in unlimited integers.
func wantScale(s api.Span, num, den int) (api.Span, bool) {
	if s.Lo > s.Hi || s.Lo < 0 || s.Hi > maxVol || num < 0 || num > maxVol || den < 1 || den > maxVol {
		return api.Span{}, false
	}
	low := new(big.Int).Quo(new(big.Int).Mul(bigOf(s.Lo), bigOf(num)), bigOf(den))
	high := new(big.Int).Mul(bigOf(s.Hi), bigOf(num))
	high.Add(high, bigOf(den-1)).Quo(high, bigOf(den))
	if high.Cmp(bigOf(maxVol)) > 0 {
		return api.Span{}, false
	}
	return of(int(low.Int64()), int(high.Int64())), true
}

// P9.2
func TestScaleIsExact(t *testing.T) {
	for _, s := range spansOf(edges()) {
		for _, num := range edges() {
			for _, den := range edges() {
				want, ok := wantScale(s, num, den)
				checkScale(t, s, num, den, want, ok)
			}
		}
	}
	d, good := dice(2), 0
	for range 40000 {
		s, num, den := of(d.upTo(maxVol), d.upTo(maxVol)), d.upTo(maxVol), d.upTo(maxVol)
		want, ok := wantScale(s, num, den)
		checkScale(t, s, num, den, want, ok)
		if ok {
			good++
		}
	}
	if good < 1000 || good > 39000 {
		t.Error("too few cases of one sort:", good)
	}
}

// P9.2: quotients beside the limit, with a rest and without one: those that rounding up takes over it are refused, though exact.Scale accepts them.
func TestScaleRoundsOverTheLimit(t *testing.T) {
	over := 0
	for den := 1; den <= 300; den++ {
		for num := den; num <= den+300; num++ {
			near := int(new(big.Int).Quo(new(big.Int).Mul(bigOf(maxVol), bigOf(den)), bigOf(num)).Int64())
			for n := near - 2; n <= min(near+2, maxVol); n++ {
				want, ok := wantScale(of(n, n), num, den)
				checkScale(t, of(n, n), num, den, want, ok)
				want, ok = wantScale(of(0, n), num, den)
				checkScale(t, of(0, n), num, den, want, ok)
				if _, _, exactOK := exact.Scale(n, num, den); exactOK && !ok {
					over++
				}
			}
		}
	}
	if over < 100 {
		t.Error("too few quotients at the limit:", over)
	}
}

// P9.3: the formulas of Meet, Join and Within, for right spans and wrong ones.
func TestMeetJoinWithin(t *testing.T) {
	all := append(spansOf(edges()), spansOf(smallEnds())...)
	for _, a := range all {
		for _, b := range all {
			low, high := []int{a.Lo, b.Lo}, []int{a.Hi, b.Hi}
			if a.Lo > b.Lo {
				low = []int{b.Lo, a.Lo}
			}
			if a.Hi > b.Hi {
				high = []int{b.Hi, a.Hi}
			}
			if got, want := span.Join(a, b), of(low[0], high[1]); got != want {
				t.Fatalf("Join(%v, %v): got %v, want %v", a, b, got, want)
			}
			both, ok := of(low[1], high[0]), low[1] <= high[0]
			if !ok {
				both = api.Span{}
			}
			checkMeet(t, a, b, both, ok)
			if got, want := span.Within(a, b), b.Lo <= a.Lo && a.Hi <= b.Hi; got != want {
				t.Fatalf("Within(%v, %v): not %t", a, b, want)
			}
		}
	}
}

// P9.3: spans that touch, that are beside or inside each other, and that are not right.
func TestMeetJoinWithinEdges(t *testing.T) {
	checkMeet(t, of(1, 4), of(4, 9), of(4, 4), true)
	checkMeet(t, of(1, 3), of(4, 9), of(0, 0), false)
	checkMeet(t, of(1, 9), of(3, 4), of(3, 4), true)
	checkMeet(t, of(3, 3), of(3, 3), of(3, 3), true)
	checkMeet(t, of(9, 1), of(0, 9), of(0, 0), false) // wrong spans meet nothing
	checkMeet(t, of(9, 1), of(9, 1), of(0, 0), false)
	checkMeet(t, of(least, most), of(most, most), of(most, most), true)
	checkSpan(t, "Join", span.Join(of(9, 1), of(5, 5)), of(5, 5)) // of a wrong span, too, by the formula
	checkSpan(t, "Join", span.Join(of(9, 1), of(8, 2)), of(8, 2))
	checkSpan(t, "Join", span.Join(of(9, 9), of(1, 1)), of(1, 9))
	for _, c := range []struct {
		a, b api.Span
		want bool
	}{
		{of(1, 3), of(1, 3), true}, {of(1, 3), of(0, 3), true}, {of(1, 3), of(1, 4), true}, {of(1, 3), of(0, 4), true},
		{of(1, 3), of(2, 3), false}, {of(1, 3), of(1, 2), false}, {of(1, 3), of(2, 4), false}, {of(1, 3), of(0, 2), false},
		{of(0, 4), of(1, 3), false}, {of(1, 2), of(3, 4), false}, {of(3, 4), of(1, 2), false},
		{of(5, 1), of(2, 3), true}, {of(5, 1), of(4, 2), true}, {of(4, 2), of(5, 1), false}, {of(2, 2), of(5, 1), false},
		{of(5, 1), of(5, 1), true}, {of(0, 0), of(0, 0), true}, {of(least, most), of(least, most), true},
	} {
		if span.Within(c.a, c.b) != c.want {
			t.Errorf("Within(%v, %v): not %t", c.a, c.b, c.want)
		}
	}
}

// P9.4, P4: a call returns what it returned before, whatever came in between.
func TestRepeats(t *testing.T) {
	type results struct {
		add, sub, scale, meet, join, of api.Span
		right, has, within, ok, met     bool
		width                           int
	}
	call := func(a, b api.Span) results {
		var r results
		r.add, r.sub, r.join, r.of = span.Add(a, b), span.Sub(a, b), span.Join(a, b), span.Of(a.Lo)
		r.scale, r.ok = span.Scale(a, b.Lo, b.Hi)
		r.meet, r.met = span.Meet(a, b)
		r.right, r.has, r.within, r.width = span.Right(a), span.Has(a, b.Lo), span.Within(a, b), span.Width(a)
		return r
	}
	all := append(spansOf([]int{least, -1, maxVol, most}), spansOf([]int{0, 1, 3})...)
	first := map[[2]api.Span]results{}
	for _, a := range all {
		for _, b := range all {
			first[[2]api.Span{a, b}] = call(a, b)
		}
	}
	for i := range all {
		for j := range all {
			a, b := all[len(all)-1-j], all[len(all)-1-i]
			if call(a, b) != first[[2]api.Span{a, b}] {
				t.Errorf("%v and %v", a, b)
			}
		}
	}
}

// P9.5: sums and differences of integers of two spans are in the sum and the difference of the spans, at the limits of int too.
func TestSumsEnclose(t *testing.T) {
	small := rightOnes(spansOf(smallEnds()))
	for _, a := range small {
		for _, b := range small {
			sums, differences := span.Add(a, b), span.Sub(a, b)
			for n := a.Lo; n <= a.Hi; n++ {
				for m := b.Lo; m <= b.Hi; m++ {
					if !span.Has(sums, n+m) || !span.Has(differences, n-m) {
						t.Fatalf("%d of %v, %d of %v: not in %v, %v", n, a, m, b, sums, differences)
					}
				}
			}
		}
	}
	d := dice(3)
	great := rightOnes(spansOf(edges()))
	for _, a := range great {
		for _, b := range great {
			n, m := d.in(a), d.in(b)
			if !span.Has(span.Add(a, b), plus(n, m)) || !span.Has(span.Sub(a, b), minus(n, m)) {
				t.Fatalf("%d of %v, %d of %v", n, a, m, b)
			}
		}
	}
}

// P9.5: quotients of integers of a span, rounded either way, are in the scaled span; and its ends are such quotients.
func TestScaleEncloses(t *testing.T) {
	for num := range 9 {
		for den := 1; den < 9; den++ {
			for lo := range 12 {
				for hi := lo; hi < 12; hi++ {
					s, ok := span.Scale(of(lo, hi), num, den)
					if !ok {
						t.Fatalf("Scale of %d..%d, %d, %d", lo, hi, num, den)
					}
					for n := lo; n <= hi; n++ {
						down, up := n*num/den, (n*num+den-1)/den
						if !span.Has(s, down) || !span.Has(s, up) {
							t.Fatalf("%d * %d / %d: %d or %d is not in %v", n, num, den, down, up, s)
						}
					}
				}
			}
		}
	}
	d, good := dice(4), 0
	for range 40000 {
		lo, num, den := d.upTo(maxVol), d.upTo(maxVol), 1+d.upTo(maxVol-1)
		from := of(lo, lo+d.upTo(maxVol-lo))
		s, ok := span.Scale(from, num, den)
		if !ok {
			continue
		}
		good++
		n := d.in(from)
		q, r, okQ := exact.Scale(n, num, den)
		if !okQ || !span.Has(s, q) || r != 0 && !span.Has(s, q+1) {
			t.Fatalf("%d of %v times %d / %d: %d, %d is not in %v", n, from, num, den, q, r, s)
		}
	}
	if good < 1000 {
		t.Error("too few cases:", good)
	}
}

// P9.5: larger spans yield larger results, also where they are not right.
func TestLargerSpans(t *testing.T) {
	ends := []int{least, -1, 0, 2, 5, maxVol, maxVol + 1, most}
	all := spansOf(ends)
	for _, a := range all {
		for _, larger := range all {
			if larger.Lo > a.Lo || larger.Hi < a.Hi {
				continue
			}
			for _, b := range all {
				checkWithin(t, "Add, first", span.Add(a, b), span.Add(larger, b))
				checkWithin(t, "Add, second", span.Add(b, a), span.Add(b, larger))
				checkWithin(t, "Sub, first", span.Sub(a, b), span.Sub(larger, b))
				checkWithin(t, "Sub, second", span.Sub(b, a), span.Sub(b, larger))
				checkWithin(t, "Join", span.Join(a, b), span.Join(larger, b))
				if s, ok := span.Meet(a, b); ok {
					more, okMore := span.Meet(larger, b)
					if !okMore {
						t.Fatalf("Meet of %v and %v, but not of %v", a, b, larger)
					}
					checkWithin(t, "Meet", s, more)
				}
			}
			for _, num := range ends {
				for _, den := range ends {
					s, ok := span.Scale(a, num, den)
					more, okMore := span.Scale(larger, num, den)
					if ok && okMore {
						checkWithin(t, "Scale", s, more)
					}
				}
			}
			if span.Width(a) > span.Width(larger) {
				t.Fatalf("Width of %v and %v", a, larger)
			}
		}
	}
}

func checkWithin(t *testing.T, call string, a, b api.Span) {
	t.Helper()
	if b.Lo > a.Lo || a.Hi > b.Hi {
		t.Fatalf("%s: %v is not within %v", call, a, b)
	}
}

// P9.6: the meeting of right spans has the integers that are in both, and none if Meet returns false; their join is within every span that contains both.
func TestMeetAndJoinOfRightSpans(t *testing.T) {
	small := rightOnes(spansOf(smallEnds()))
	for _, a := range small {
		for _, b := range small {
			both, ok := span.Meet(a, b)
			for n := -5; n <= 5; n++ {
				if want := span.Has(a, n) && span.Has(b, n); want != (ok && span.Has(both, n)) {
					t.Fatalf("Meet(%v, %v): got %v, %t, but %d is in both: %t", a, b, both, ok, n, want)
				}
			}
			join := span.Join(a, b)
			if !span.Within(a, join) || !span.Within(b, join) {
				t.Fatalf("Join(%v, %v): got %v", a, b, join)
			}
			for _, c := range small {
				if span.Within(a, c) && span.Within(b, c) && !span.Within(join, c) {
					t.Fatalf("Join(%v, %v): got %v, but %v contains both", a, b, join, c)
				}
			}
		}
	}
	great := rightOnes(spansOf(edges()))
	for _, a := range great {
		for _, b := range great {
			both, ok := span.Meet(a, b)
			for _, n := range edges() {
				if want := span.Has(a, n) && span.Has(b, n); want != (ok && span.Has(both, n)) {
					t.Fatalf("Meet(%v, %v): got %v, %t, but %d is in both: %t", a, b, both, ok, n, want)
				}
			}
		}
	}
}
