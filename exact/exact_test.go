package exact_test

import (
	"math"
	"math/big"
	"slices"
	"testing"

	"bourne/api"
	"bourne/exact"
)

const (
	maxVol = api.MaxVol
	least  = math.MinInt
	most   = math.MaxInt
)

// edges are the numbers at and beside every limit that the chapter names.
func edges() []int {
	return []int{least, least + 1, -maxVol - 1, -maxVol, -2, -1, 0, 1, 2, 3, 7, 1 << 32, maxVol/2 - 1, maxVol / 2, maxVol/2 + 1, maxVol - 1, maxVol, maxVol + 1, most/2 + 1, most - 1, most}
}

// dice gives the same numbers in every run, so that a failure can be repeated.
type dice uint64

func (d *dice) next() uint64 {
	*d += 0x9e3779b97f4a7c15
	x := uint64(*d)
	x = (x ^ x>>30) * 0xbf58476d1ce4e5b9
	x = (x ^ x>>27) * 0x94d049bb133111eb
	return x ^ x>>31
}

// upTo returns a number from 0 to n; small, great and middling ones are all frequent.
func (d *dice) upTo(n int) int {
	m := n >> (d.next() % 51)
	k := int(d.next() % uint64(m+1))
	if d.next()%2 == 0 {
		return n - k
	}
	return k
}

func bigOf(n int) *big.Int { return big.NewInt(int64(n)) }

func TestScaleExamples(t *testing.T) { // P1.1
	for _, c := range []struct {
		a, num, den, q, r int
		ok                bool
	}{
		{10, 1, 3, 3, 1, true},
		{maxVol, maxVol, maxVol, maxVol, 0, true},
		{maxVol, 2, 1, 0, 0, false},
		{1, 1, 0, 0, 0, false},
		{0, 0, 0, 0, 0, false},
		{0, 0, 1, 0, 0, true},
		{0, maxVol, 1, 0, 0, true},
		{1, 1, maxVol, 0, 1, true},
		{maxVol, maxVol, 1, 0, 0, false},
		{maxVol, maxVol, 1 << 36, 0, 0, false},
		{maxVol, 3, 2, 0, 0, false},
		{maxVol, 2, 2, maxVol, 0, true},
		{maxVol, maxVol - 1, maxVol, maxVol - 1, 0, true},
		{maxVol - 1, maxVol - 1, maxVol, maxVol - 2, 1, true},
		{maxVol/2 + 1, 2, 1, 0, 0, false},
		{maxVol/2 - 1, 2, 1, maxVol - 2, 0, true},
		{1<<40 + 1, 1<<40 - 1, 1 << 30, 1<<50 - 1, 1<<30 - 1, true},
		{1<<40 + 1, 1 << 40, 1 << 30, 0, 0, false},
		{5, 7, -1, 0, 0, false},
		{-1, -1, 1, 0, 0, false},
		{-5, 0, 7, 0, 0, false},
		{0, -5, 7, 0, 0, false},
		{maxVol + 1, 1, 2, 0, 0, false},
		{1, maxVol + 1, 2, 0, 0, false},
		{1, 1, maxVol + 1, 0, 0, false},
	} {
		q, r, ok := exact.Scale(c.a, c.num, c.den)
		if q != c.q || r != c.r || ok != c.ok {
			t.Error(c, "got", q, r, ok)
		}
	}
}

// wantScale is P1.1 in unlimited integers.
func wantScale(a, num, den int) (int, int, bool) {
	if a < 0 || a > maxVol || num < 0 || num > maxVol || den < 1 || den > maxVol {
		return 0, 0, false
	}
	q, r := new(big.Int).QuoRem(new(big.Int).Mul(bigOf(a), bigOf(num)), bigOf(den), new(big.Int))
	if q.Cmp(bigOf(maxVol)) > 0 {
		return 0, 0, false
	}
	return int(q.Int64()), int(r.Int64()), true
}

func checkScale(t *testing.T, a, num, den int) bool {
	t.Helper()
	q, r, ok := exact.Scale(a, num, den)
	wq, wr, wok := wantScale(a, num, den)
	if q != wq || r != wr || ok != wok {
		t.Error("Scale", a, num, den, "got", q, r, ok, "want", wq, wr, wok)
	}
	return ok
}

func TestScaleIsExact(t *testing.T) { // P1.1
	for _, a := range edges() {
		for _, num := range edges() {
			for _, den := range edges() {
				checkScale(t, a, num, den)
			}
		}
	}
	d, good := dice(1), 0
	for range 20000 {
		if checkScale(t, d.upTo(maxVol), d.upTo(maxVol), d.upTo(maxVol)) {
			good++
		}
	}
	if good < 1000 || good > 19000 {
		t.Error("too few cases of one sort:", good)
	}
}

func TestScaleIsMonotonic(t *testing.T) { // P1.7
	d := dice(2)
	for range 20000 {
		a, b, num, den := d.upTo(maxVol), d.upTo(maxVol), d.upTo(maxVol), 1+d.upTo(maxVol-1)
		a, b = min(a, b), max(a, b)
		q1, _, ok1 := exact.Scale(a, num, den)
		q2, _, ok2 := exact.Scale(b, num, den)
		if ok2 && !ok1 || ok2 && q1 > q2 {
			t.Error("in a:", a, b, num, den, q1, ok1, q2, ok2)
		}
		q1, _, ok1 = exact.Scale(num, a, den)
		q2, _, ok2 = exact.Scale(num, b, den)
		if ok2 && !ok1 || ok2 && q1 > q2 {
			t.Error("in num:", num, a, b, den, q1, ok1, q2, ok2)
		}
	}
}

func many(n, w int) []int {
	l := make([]int, n)
	for i := range l {
		l[i] = w
	}
	return l
}

func TestShareExamples(t *testing.T) { // P1.2
	for _, c := range []struct {
		total   int
		weights []int
		want    []int
	}{
		{10, []int{1, 1, 1, 20}, []int{1, 0, 0, 9}},
		{2, []int{1, 1, 1}, []int{1, 1, 0}},
		{0, nil, nil},
		{0, []int{}, nil},
		{10, []int{100, 50}, []int{7, 3}},
		{1, []int{1, 3, 3}, []int{0, 1, 0}},
		{1, []int{2, 2, 3}, []int{0, 0, 1}},
		{2, []int{2, 3, 2}, []int{1, 1, 0}},
		{0, []int{0}, []int{0}},
		{0, []int{0, 0, 0}, []int{0, 0, 0}},
		{0, []int{5, 6}, []int{0, 0}},
		{11, []int{5, 6}, []int{5, 6}},
		{3, []int{0, 4, 0, 4}, []int{0, 2, 0, 1}},
		{7, []int{7}, []int{7}},
		{maxVol, []int{maxVol}, []int{maxVol}},
		{maxVol, []int{maxVol - 1, 1}, []int{maxVol - 1, 1}},
		{maxVol - 1, []int{maxVol / 2, maxVol / 2}, []int{maxVol / 2, maxVol/2 - 1}},
		{1, append(many(63, 0), 1), append(many(63, 0), 1)},
		{64, many(64, 1), many(64, 1)},
		{63, many(64, 1), append(many(63, 1), 0)},
	} {
		parts, ok := exact.Share(c.total, c.weights)
		if !ok || !slices.Equal(parts, c.want) {
			t.Error(c.total, c.weights, "got", parts, ok, "want", c.want)
		}
	}
}

func TestShareRefuses(t *testing.T) { // P1.2
	for _, c := range []struct {
		total   int
		weights []int
	}{
		{4, []int{1, 2}},
		{1, nil},
		{1, []int{0, 0}},
		{-1, []int{1}},
		{-1, nil},
		{-1, []int{0}},
		{least, []int{1}},
		{most, []int{maxVol}},
		{0, []int{-1}},
		{0, []int{2, -1}},
		{1, []int{3, -2}},
		{0, []int{least, most, 1}},
		{0, []int{maxVol + 1}},
		{0, []int{maxVol, 1}},
		{0, []int{most, most}},
		{0, []int{most, most, 2}}, // the sum is 0 in wrapping integers
		{0, many(64, 1<<58)},
		{0, many(65, 0)},
		{1, many(65, 1)},
	} {
		if parts, ok := exact.Share(c.total, c.weights); ok || len(parts) != 0 {
			t.Error(c.total, c.weights, "got", parts, ok)
		}
	}
}

// wantShare is the proportional division as the chapter defines it: it looks for each further part by hand.
func wantShare(total int, weights []int) []int {
	whole := new(big.Int)
	for _, w := range weights {
		whole.Add(whole, bigOf(w))
	}
	parts := make([]int, len(weights))
	if whole.Sign() == 0 {
		return parts
	}
	rests := make([]*big.Int, len(weights))
	over := total
	for i, w := range weights {
		q, r := new(big.Int).QuoRem(new(big.Int).Mul(bigOf(total), bigOf(w)), whole, new(big.Int))
		parts[i], rests[i] = int(q.Int64()), r
		over -= parts[i]
	}
	for ; over > 0; over-- {
		first := -1
		for i, r := range rests {
			if r != nil && (first < 0 || r.Cmp(rests[first]) > 0) {
				first = i
			}
		}
		parts[first]++
		rests[first] = nil
	}
	return parts
}

// eachDivision calls f with small divisions of all sorts, and with great ones.
func eachDivision(f func(total int, weights []int)) {
	for n := range 4 * 4 * 4 * 4 {
		weights := []int{n % 4, n / 4 % 4, n / 16 % 4, n / 64}
		for total := range weights[0] + weights[1] + weights[2] + weights[3] + 1 {
			f(total, weights)
		}
	}
	d := dice(3)
	for range 3000 {
		weights := make([]int, 1+d.next()%64)
		whole, high := 0, maxVol/len(weights)>>(d.next()%51)
		for i := range weights {
			weights[i] = d.upTo(high)
			whole += weights[i]
		}
		f(d.upTo(whole), weights)
	}
}

func TestShareIsTheProportionalDivision(t *testing.T) { // P1.2
	eachDivision(func(total int, weights []int) {
		parts, ok := exact.Share(total, weights)
		if want := wantShare(total, weights); !ok || !slices.Equal(parts, want) {
			t.Error(total, weights, "got", parts, ok, "want", want)
		}
	})
}

func TestShareIsFair(t *testing.T) { // P1.6
	eachDivision(func(total int, weights []int) {
		parts, ok := exact.Share(total, weights)
		if !ok || len(parts) != len(weights) {
			t.Fatal(total, weights, parts, ok)
		}
		sum, whole := 0, 0
		for i, w := range weights {
			sum, whole = sum+parts[i], whole+w
		}
		if sum != total {
			t.Error("sum:", total, weights, parts)
		}
		for i, w := range weights {
			if parts[i] < 0 || parts[i] > w {
				t.Error("not within its weight:", total, weights, parts, i)
			}
			// Rounded down or up: less than 1 away from total * w / whole.
			away := new(big.Int).Sub(new(big.Int).Mul(bigOf(total), bigOf(w)), new(big.Int).Mul(bigOf(parts[i]), bigOf(whole)))
			if whole > 0 && away.CmpAbs(bigOf(whole)) >= 0 {
				t.Error("not rounded:", total, weights, parts, i)
			}
			for j, v := range weights {
				if w > v && parts[i] < parts[j] {
					t.Error("the greater weight has less:", total, weights, parts, i, j)
				}
			}
		}
	})
}

func wantSum(l []int) (int, bool) {
	sum := new(big.Int)
	for _, n := range l {
		sum.Add(sum, bigOf(n))
	}
	if !sum.IsInt64() {
		return 0, false
	}
	return int(sum.Int64()), true
}

func TestSumExamples(t *testing.T) { // P1.3
	for _, c := range []struct {
		l  []int
		n  int
		ok bool
	}{
		{nil, 0, true},
		{[]int{}, 0, true},
		{[]int{-7}, -7, true},
		{[]int{most, 1, -2}, most - 1, true},
		{[]int{most}, most, true},
		{[]int{least}, least, true},
		{[]int{most, 0}, most, true},
		{[]int{most, 1}, 0, false},
		{[]int{least, -1}, 0, false},
		{[]int{-1, least}, 0, false},
		{[]int{least, -1, 1}, least, true},
		{[]int{least, least, most, most, 2}, 0, true},
		{[]int{least, least}, 0, false},
		{[]int{most, most, 2}, 0, false},
		{many(4, least), 0, false},
		{many(8, 1<<62), 0, false},
		{append(many(1000, most), many(1000, -most)...), 0, true},
		{append(many(1000, least), many(1000, most)...), -1000, true},
	} {
		if n, ok := exact.Sum(c.l); n != c.n || ok != c.ok {
			t.Error(c.l, "got", n, ok, "want", c.n, c.ok)
		}
	}
}

func TestSumIsExactInAnyOrder(t *testing.T) { // P1.3, P1.7
	d, e, good := dice(4), edges(), 0
	for range 5000 {
		l := make([]int, d.next()%12)
		for i := range l {
			l[i] = e[d.next()%uint64(len(e))]
		}
		n, ok := exact.Sum(l)
		if wn, wok := wantSum(l); n != wn || ok != wok {
			t.Error(l, "got", n, ok, "want", wn, wok)
		}
		if ok {
			good++
		}
		for range 4 {
			for i := range l {
				j := int(d.next() % uint64(i+1))
				l[i], l[j] = l[j], l[i]
			}
			if n2, ok2 := exact.Sum(l); n2 != n || ok2 != ok {
				t.Error("order:", l, n, ok, n2, ok2)
			}
		}
	}
	if good < 500 || good > 4500 {
		t.Error("too few cases of one sort:", good)
	}
}

func TestClamp(t *testing.T) { // P1.4
	for _, c := range []struct{ n, low, high, want int }{
		{5, 1, 9, 5}, {2, 1, 9, 2}, {8, 1, 9, 8}, {0, 1, 9, 1}, {10, 1, 9, 9}, {1, 1, 9, 1}, {9, 1, 9, 9}, {4, 4, 4, 4}, {3, 4, 4, 4}, {5, 4, 4, 4},
		{3, 5, 4, 5}, {4, 5, 3, 5}, {5, 5, 4, 4}, {6, 5, 4, 4}, // low is looked at first, high then
		{least, -1, 1, -1}, {most, -1, 1, 1}, {0, least, most, 0}, {least, least, most, least}, {most, least, most, most}, {0, most, least, most}, {most, most, least, least},
	} {
		if n := exact.Clamp(c.n, c.low, c.high); n != c.want {
			t.Error(c, "got", n)
		}
	}
}

// limited is the int that is nearest to n.
func limited(n *big.Int) int {
	if n.IsInt64() {
		return int(n.Int64())
	}
	if n.Sign() < 0 {
		return least
	}
	return most
}

func TestAddAndSub(t *testing.T) { // P1.4
	for _, c := range []struct{ a, b, add, sub int }{
		{2, 3, 5, -1}, {most, 1, most, most - 1}, {least, 1, least + 1, least}, {0, least, least, most}, {-1, least, least, most}, {-2, least, least, most - 1}, {least, least, least, 0}, {most, most, most, 0}, {least, most, -1, least}, {most, least, -1, most},
	} {
		if n := exact.Add(c.a, c.b); n != c.add {
			t.Error("Add", c.a, c.b, "got", n, "want", c.add)
		}
		if n := exact.Sub(c.a, c.b); n != c.sub {
			t.Error("Sub", c.a, c.b, "got", n, "want", c.sub)
		}
	}
	for _, a := range edges() {
		for _, b := range edges() {
			if n, want := exact.Add(a, b), limited(new(big.Int).Add(bigOf(a), bigOf(b))); n != want {
				t.Error("Add", a, b, "got", n, "want", want)
			}
			if n, want := exact.Sub(a, b), limited(new(big.Int).Sub(bigOf(a), bigOf(b))); n != want {
				t.Error("Sub", a, b, "got", n, "want", want)
			}
		}
	}
}

func TestAddIsCommutativeAndMonotonic(t *testing.T) { // P1.7
	l := edges()
	slices.Sort(l)
	for _, b := range l {
		before := least
		for _, a := range l {
			n := exact.Add(a, b)
			if n != exact.Add(b, a) {
				t.Error("not commutative:", a, b)
			}
			if n < before {
				t.Error("not monotonic:", a, b)
			}
			before = n
		}
	}
}

func TestMemory(t *testing.T) { // P1.5
	back := []int{3, 1, 3, 99, 99}
	weights := back[:3]
	first, _ := exact.Share(2, weights)
	exact.Sum(weights)
	if !slices.Equal(back, []int{3, 1, 3, 99, 99}) {
		t.Error("an argument was changed:", back)
	}
	again, _ := exact.Share(2, weights)
	want := slices.Clone(first)
	if !slices.Equal(again, want) {
		t.Error("the same call has two results:", first, again)
	}
	for i := range again {
		again[i] = -1
	}
	if !slices.Equal(first, want) || !slices.Equal(back, []int{3, 1, 3, 99, 99}) {
		t.Error("a result shares memory:", first, back)
	}
	for i := range back {
		back[i] = -5
	}
	if !slices.Equal(first, want) {
		t.Error("a result shares memory with an argument:", first)
	}
	all := []int{1, 2} // the parts equal the weights, and are not the same memory
	parts, _ := exact.Share(3, all)
	parts[0] = 7
	if all[0] != 1 {
		t.Error("a result is the argument")
	}
}
