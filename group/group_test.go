package group_test

import (
	"math"
	"math/big"
	"slices"
	"sync"
	"testing"

	"bourne/group"
)

const (
	p     = 2305843009213691579
	q     = 1152921504606845789
	least = math.MinInt
	most  = math.MaxInt
)

// dice gives the same numbers in every run, so that a failure can be repeated.
type dice uint64

func (d *dice) next() uint64 {
	*d += 0x9e3779b97f4a7c15
	x := uint64(*d)
	x = (x ^ x>>30) * 0xbf58476d1ce4e5b9
	x = (x ^ x>>27) * 0x94d049bb133111eb
	return x ^ x>>31
}

// number returns an int of any size and sign; one in four is near a limit of ints or a multiple of a modulus.
func (d *dice) number() int {
	n := int(d.next())
	if d.next()%4 == 0 {
		return edges()[d.next()%uint64(len(edges()))]
	}
	return n >> (d.next() % 64)
}

// member returns an element of the group: a square.
func (d *dice) member() int {
	a := int(d.next()%(p-1)) + 1
	return int(mod(new(big.Int).Mul(bigOf(a), bigOf(a)), p))
}

// edges are the numbers at and beside the limits of ints and the multiples of the moduli.
func edges() []int {
	l := []int{least, least + 1, least + 2, most - 2, most - 1, most, 1 << 31, 1 << 32, 1<<60 - 1, 1 << 60, 1<<61 - 1, 1 << 61, 1 << 62, -1 << 62}
	for k := -4; k <= 4; k++ {
		for _, beside := range []int{-4, -2, -1, 0, 1, 2, 4} {
			l = append(l, k*p+beside, k*q+beside)
		}
	}
	return l
}

func bigOf(n int) *big.Int { return big.NewInt(int64(n)) }

// mod returns the residue of n modulo m: Mod of the library is never negative.
func mod(n *big.Int, m int) int { return int(new(big.Int).Mod(n, bigOf(m)).Int64()) }

func wantMul(a, b, m int) int { return mod(new(big.Int).Mul(bigOf(a), bigOf(b)), m) }
func wantAdd(a, b, m int) int { return mod(new(big.Int).Add(bigOf(a), bigOf(b)), m) }
func wantSub(a, b, m int) int { return mod(new(big.Int).Sub(bigOf(a), bigOf(b)), m) }

// wantExp is P4.2 in unlimited integers.
func wantExp(a, e int) int {
	exponent := bigOf(e)
	if e < 0 {
		exponent.Mod(exponent, bigOf(q))
	}
	return int(new(big.Int).Exp(bigOf(mod(bigOf(a), p)), exponent, bigOf(p)).Int64())
}

// wantInv is the inverse by the algorithm of Euclid, which the package does not use.
func wantInv(a int) (int, bool) {
	x := new(big.Int).ModInverse(bigOf(mod(bigOf(a), p)), bigOf(p))
	if x == nil {
		return 0, false
	}
	return int(x.Int64()), true
}

// wantIn tells by Jacobi's symbol whether y is a square, which the elements of the group are.
func wantIn(y int) bool {
	return 0 < y && y < p && big.Jacobi(bigOf(y), bigOf(p)) == 1
}

func TestConstants(t *testing.T) {
	var a, b, g int = group.P, group.Q, group.G
	if a != p || b != q || g != 4 || a != 2*b+1 {
		t.Error(a, b, g)
	}
	if !bigOf(a).ProbablyPrime(40) || !bigOf(b).ProbablyPrime(40) {
		t.Error("not prime:", a, b)
	}
}

// P4.1: the examples, and the products of numbers of which a product in 64 bits would be wrong.
func TestMulExamples(t *testing.T) {
	for _, c := range []struct{ a, b, want int }{
		{p - 1, p - 1, 1},
		{-1, 3, p - 3},
		{0, 0, 0},
		{0, least, 0},
		{1, p, 0},
		{1, p + 1, 1},
		{1, -p, 0},
		{1, -p - 1, p - 1},
		{-1, -1, 1},
		{2, q, p - 1},
		{2, q + 1, 1},
		{1, least, 2305843009213682087},
		{1, most, 9491},
		{least, least, 90098064},
		{most, most, 90079081},
		{1 << 32, 1 << 32, wantMul(1<<32, 1<<32, p)},
	} {
		if got := group.Mul(c.a, c.b); got != c.want {
			t.Error(c.a, c.b, "got", got, "want", c.want)
		}
	}
}

// eachPair calls f with all pairs of edges, and with others.
func eachPair(f func(a, b int)) {
	for _, a := range edges() {
		for _, b := range edges() {
			f(a, b)
		}
	}
	d := dice(1)
	for range 20000 {
		f(d.number(), d.number())
	}
}

func TestMulIsExact(t *testing.T) { // P4.1
	eachPair(func(a, b int) {
		if got, want := group.Mul(a, b), wantMul(a, b, p); got != want {
			t.Error(a, b, "got", got, "want", want)
		}
	})
}

func TestInvExamples(t *testing.T) { // P4.1
	for _, c := range []struct {
		a, want int
		ok      bool
	}{
		{2, q + 1, true},
		{p, 0, false},
		{0, 0, false},
		{-p, 0, false},
		{3 * p, 0, false},
		{-4 * p, 0, false},
		{1, 1, true},
		{-1, p - 1, true},
		{p - 1, p - 1, true},
		{p + 1, 1, true},
		{p + 2, q + 1, true},
		{2 - p, q + 1, true},
		{q + 1, 2, true},
		{4, 576460752303422895, true},
	} {
		if got, ok := group.Inv(c.a); got != c.want || ok != c.ok {
			t.Error(c.a, "got", got, ok, "want", c.want, c.ok)
		}
	}
}

func TestInvIsTheInverse(t *testing.T) { // P4.1
	d := dice(2)
	for _, a := range append(edges(), many(3000, d.number)...) {
		got, ok := group.Inv(a)
		if want, wantOk := wantInv(a); got != want || ok != wantOk {
			t.Error(a, "got", got, ok, "want", want, wantOk)
		}
		if ok && (got < 1 || got >= p || group.Mul(a, got) != 1) {
			t.Error(a, "times", got, "is", group.Mul(a, got))
		}
	}
}

func many(n int, next func() int) []int {
	l := make([]int, n)
	for i := range l {
		l[i] = next()
	}
	return l
}

// P4.2: the examples, and exponents that must not be reduced: 2 is not in the group.
func TestExpExamples(t *testing.T) {
	for _, c := range []struct{ a, e, want int }{
		{4, 3, 64},
		{0, 0, 1},
		{0, -q, 1},
		{0, -4 * q, 1},
		{0, q, 0},
		{0, 1, 0},
		{0, -1, 0},
		{p, 0, 1},
		{p, 2, 0},
		{-p, -q, 1},
		{4, -1, 576460752303422895},
		{2, q, p - 1},
		{2, -q, 1},
		{2, 2 * q, 1},
		{2, 3 * q, p - 1},
		{2, q + 1, p - 2},
		{2, 1 - q, 2},
		{-2, q, 1},
		{p + 4, 3, 64},
		{4 - p, 3, 64},
		{-1, 0, 1},
		{-1, 1, p - 1},
		{-1, 2, 1},
		{-1, -1, 1}, // Q - 1 is even
		{-1, -2, p - 1},
		{p - 1, most, p - 1},
		{least, 0, 1},
		{least, 1, 2305843009213682087},
		{1, most, 1},
		{1, least, 1},
		{2, 61, 2373},
		{4, most, 399509154368314512},
		{3, -1, 768614336404563860},
		{3, least, 1154373248807940427},
		{-7, 12345678901234567, 1765821296967386430},
		{least, least, 1985042097965558618},
		{least, most, 588344261658408700},
	} {
		if got := group.Exp(c.a, c.e); got != c.want {
			t.Error(c.a, c.e, "got", got, "want", c.want)
		}
	}
}

func TestExpIsARepeatedProduct(t *testing.T) { // P4.2
	for _, a := range []int{0, 1, 2, 4, p - 1, p + 3, -5, least, most, q} {
		product := 1
		for e := range 200 {
			if got := group.Exp(a, e); got != product {
				t.Error(a, e, "got", got, "want", product)
			}
			product = wantMul(product, a, p)
		}
	}
}

func TestExpIsExact(t *testing.T) { // P4.2
	for _, e := range edges() {
		for _, a := range []int{0, 1, 2, 4, p - 1, p, p + 3, -5, least, most} {
			if got, want := group.Exp(a, e), wantExp(a, e); got != want {
				t.Error(a, e, "got", got, "want", want)
			}
		}
	}
	d := dice(3)
	for range 3000 {
		a, e := d.number(), d.number()
		if got, want := group.Exp(a, e), wantExp(a, e); got != want {
			t.Error(a, e, "got", got, "want", want)
		}
	}
}

func TestIn(t *testing.T) { // P4.2
	for y, want := range map[int]bool{4: true, 1: true, p - 1: false, 0: false, p + 4: false, p: false, p + 1: false, -1: false, -4: false, 1 - p: false, 2: false, p - 2: true, p - 4: false, 9: true, 4 - p: false, 2*p + 4: false, least: false, most: false} {
		if got := group.In(y); got != want {
			t.Error(y, "got", got, "want", want)
		}
	}
	check := func(y int) {
		if got, want := group.In(y), wantIn(y); got != want {
			t.Error(y, "got", got, "want", want)
		}
	}
	for y := -100; y < 1000; y++ {
		check(y)
		check(p - y)
	}
	d := dice(4)
	for _, y := range append(edges(), many(3000, d.number)...) {
		check(y)
	}
}

func TestQExamples(t *testing.T) { // P4.3
	for _, c := range []struct{ a, b, sum, difference, product int }{
		{q - 1, 2, 1, q - 3, q - 2},
		{0, 1, 1, q - 1, 0},
		{q - 1, q - 1, q - 2, 0, 1},
		{0, 0, 0, 0, 0},
		{q, q, 0, 0, 0},
		{q, -q, 0, 0, 0},
		{1, q - 1, 0, 2, q - 1},
		{-1, -1, q - 2, 0, 1},
		{0, -1, q - 1, 1, 0},
		{most, most, 2 * 9495, 0, 90155025},
		{least, least, wantAdd(least, least, q), 0, 90174016},
		{least, 1, wantAdd(least, 1, q), wantSub(least, 1, q), 1152921504606836293},
		{most, least, q - 1, wantSub(most, least, q), wantMul(most, least, q)},
		{most, 1, 9496, 9494, 9495},
		{0, least, 1152921504606836293, 9496, 0},
	} {
		sum, difference, product := group.AddQ(c.a, c.b), group.SubQ(c.a, c.b), group.MulQ(c.a, c.b)
		if sum != c.sum || difference != c.difference || product != c.product {
			t.Error(c, "got", sum, difference, product)
		}
	}
}

func TestQIsExact(t *testing.T) { // P4.3
	eachPair(func(a, b int) {
		if got, want := group.AddQ(a, b), wantAdd(a, b, q); got != want {
			t.Error(a, "+", b, "got", got, "want", want)
		}
		if got, want := group.SubQ(a, b), wantSub(a, b, q); got != want {
			t.Error(a, "-", b, "got", got, "want", want)
		}
		if got, want := group.MulQ(a, b), wantMul(a, b, q); got != want {
			t.Error(a, "*", b, "got", got, "want", want)
		}
	})
}

// all are the results of every function for a and b.
func all(a, b int) []any {
	inverse, ok := group.Inv(a)
	return []any{group.Mul(a, b), inverse, ok, group.Exp(a, b), group.In(a), group.AddQ(a, b), group.SubQ(a, b), group.MulQ(a, b)}
}

// P4.4: neither the order of calls nor calls at the same time change a result.
func TestPure(t *testing.T) {
	const n = 200
	d := dice(5)
	a, b := many(n, d.number), many(n, d.number)
	first := make([][]any, n)
	for i := range n {
		first[i] = all(a[i], b[i])
	}
	again := make([][]any, n)
	var wg sync.WaitGroup
	for i := n - 1; i >= 0; i-- {
		wg.Go(func() { again[i] = all(a[i], b[i]) })
	}
	wg.Wait()
	for i := range n {
		if !slices.Equal(first[i], again[i]) {
			t.Error(a[i], b[i], first[i], "then", again[i])
		}
	}
}

func TestLawsOfMultiplication(t *testing.T) { // P4.5
	d := dice(6)
	for range 5000 {
		a, b, c := d.number(), d.number(), d.number()
		if group.Mul(a, b) != group.Mul(b, a) || group.MulQ(a, b) != group.MulQ(b, a) {
			t.Error("not commutative:", a, b)
		}
		if group.Mul(a, group.Mul(b, c)) != group.Mul(group.Mul(a, b), c) || group.MulQ(a, group.MulQ(b, c)) != group.MulQ(group.MulQ(a, b), c) {
			t.Error("not associative:", a, b, c)
		}
		if group.MulQ(a, group.AddQ(b, c)) != group.AddQ(group.MulQ(a, b), group.MulQ(a, c)) {
			t.Error("not distributive:", a, b, c)
		}
	}
}

func TestInIsAGroup(t *testing.T) { // P4.5
	d := dice(7)
	for range 1000 {
		x, y := d.member(), d.member()
		inverse, ok := group.Inv(x)
		if !group.In(x) || !group.In(group.Mul(x, y)) || !ok || !group.In(inverse) {
			t.Error(x, y, inverse, ok)
		}
	}
}

func TestInOfOppositesAndSquares(t *testing.T) { // P4.5
	d := dice(8)
	for _, a := range append(edges(), many(2000, d.number)...) {
		y := mod(bigOf(a), p)
		if group.In(group.Mul(a, a)) != (y != 0) {
			t.Error("the square of", a)
		}
		if y != 0 && group.In(y) == group.In(p-y) {
			t.Error(y, "and", p-y)
		}
	}
}

func TestLawsOfPowers(t *testing.T) { // P4.6
	d := dice(9)
	exponents := edges()
	for range 5000 {
		exponents = append(exponents, d.number())
	}
	for i, a := range exponents {
		y, b := d.member(), exponents[(7*i+3)%len(exponents)]
		if got, want := group.Mul(group.Exp(y, a), group.Exp(y, b)), group.Exp(y, group.AddQ(a, b)); got != want {
			t.Error(y, a, b, "product", got, want)
		}
		if got, want := group.Exp(group.Exp(y, a), b), group.Exp(y, group.MulQ(a, b)); got != want {
			t.Error(y, a, b, "power", got, want)
		}
	}
}

// P4.6: the powers of G are as many as there are residues modulo Q.
func TestPowersOfG(t *testing.T) {
	powers := map[int]int{}
	d := dice(10)
	for _, e := range append(edges(), many(3000, d.number)...) {
		r := mod(bigOf(e), q)
		power := group.Exp(group.G, e)
		if s, ok := powers[power]; ok && s != r {
			t.Error("the same power for the residues", r, "and", s)
		}
		powers[power] = r
		if power != group.Exp(group.G, r) || !group.In(power) {
			t.Error(e, "has another power than its residue", r)
		}
	}
}
