package sign_test

import (
	"math"
	"math/big"
	"strings"
	"sync"
	"testing"

	"bourne/api"
	"bourne/digest"
	"bourne/sign"
)

const (
	p     = 2305843009213691579
	q     = 1152921504606845789
	least = math.MinInt
	most  = math.MaxInt
)

// dice gives the same numbers in every run, so that a failure can be repeated.
type dice uint64

func (d *dice) next() uint64 {
	*d += 0x9e3779b97f4a7c15
	x := uint64(*d)
	x = (x ^ x>>30) * 0xbf58476d1ce4e5b9
	x = (x ^ x>>27) * 0x94d049bb133111eb
	return x ^ x>>31
}

// below returns a number from 0 to n - 1.
func (d *dice) below(n int) int { return int(d.next() % uint64(n)) }

// exponent returns a number from 1 to Q - 1; one in four is small or great.
func (d *dice) exponent() int {
	switch d.below(8) {
	case 0:
		return 1 + d.below(300)
	case 1:
		return q - 1 - d.below(300)
	}
	return 1 + d.below(q-1)
}

// text returns a string of few different bytes, so that one is often a beginning of another.
func (d *dice) text() string {
	b := make([]byte, d.below(6))
	for i := range b {
		b[i] = "\x00\x01\xffa"[d.below(4)]
	}
	return string(b)
}

func bigOf(n int) *big.Int { return big.NewInt(int64(n)) }

// power is a power modulo P, by the library.
func power(a, e int) int {
	return int(new(big.Int).Exp(bigOf(a), bigOf(e), bigOf(p)).Int64())
}

// times is a product modulo m, by the library.
func times(a, b, m int) int {
	n := new(big.Int).Mul(bigOf(a), bigOf(b))
	return int(n.Mod(n, bigOf(m)).Int64())
}

// text and number are the encodings of chapter 2, written out.
func text(s string) string {
	l := ""
	for i := range len(s) {
		l += s[i : i+1]
		if s[i] == 0 {
			l += "\xff"
		}
	}
	return l + "\x00\x01"
}

func number(n int) string {
	l := string(bigOf(n).Bytes())
	return string([]byte{byte(128 + len(l))}) + l
}

func wantKey(seed string) api.Key {
	x := 1 + digest.Short(text("key")+text(seed))%(q-1)
	return api.Key{Secret: x, Public: power(4, x)}
}

func wantNonce(x int, context, msg string) int {
	return 1 + digest.Short(text("nonce")+number(x)+text(context)+text(msg))%(q-1)
}

func wantChallenge(r, y int, context, msg string) int {
	return digest.Short(text("sign")+number(r)+number(y)+text(context)+text(msg)) % q
}

// signed is a signature by the secret x with any nonce, which anybody who knows x can make. For a nonce of the definition it is that of Sign.
func signed(x, y, nonce int, context, msg string) api.Sig {
	e := wantChallenge(power(4, nonce), y, context, msg)
	return api.Sig{E: e, S: (nonce + times(e, x, q)) % q}
}

// wantVerify is P5.4: membership by Jacobi's symbol, and r out of the equation by an inverse, which the package does not compute.
func wantVerify(y int, context, msg string, s api.Sig) bool {
	if y <= 1 || y >= p || big.Jacobi(bigOf(y), bigOf(p)) != 1 || s.E < 0 || s.E >= q || s.S < 0 || s.S >= q {
		return false
	}
	inverse := new(big.Int).ModInverse(bigOf(power(y, s.E)), bigOf(p))
	r := times(power(4, s.S), int(inverse.Int64()), p)
	return wantChallenge(r, y, context, msg) == s.E
}

// P5.1: the values are those of a program in Python with its own BLAKE2s.
func TestKeyExamples(t *testing.T) {
	for _, c := range []struct {
		seed string
		want api.Key
	}{
		{"", api.Key{Secret: 252578327592619025, Public: 1002298574028147825}},
		{"upstream", api.Key{Secret: 438585295367008126, Public: 1570980980903402976}},
		{"middle", api.Key{Secret: 932138405344938364, Public: 417919427361547098}},
		{"downstream", api.Key{Secret: 1016218822283681357, Public: 1788424236420585742}},
		{"\x00", api.Key{Secret: 802674384607016222, Public: 2151735393785605270}},
		{"\x00\xff", api.Key{Secret: 74107800045039655, Public: 891613536923572186}},
		{"a\x00b", api.Key{Secret: 434460410324824299, Public: 969573924746948846}},
		{"\xff\xfe", api.Key{Secret: 751420899993801716, Public: 2024736938822419363}},
		{"key", api.Key{Secret: 878596247978554362, Public: 38339903161853248}},
		{strings.Repeat("k", 64), api.Key{Secret: 1112271189174397307, Public: 265501328879632204}},
		{strings.Repeat("k", 1000), api.Key{Secret: 642340926946427979, Public: 1040679890291714270}},
	} {
		if got := sign.Key(c.seed); got != c.want {
			t.Errorf("%.70q got %v want %v", c.seed, got, c.want)
		}
	}
}

func TestKeyIsRight(t *testing.T) { // P5.1
	d := dice(1)
	seen := map[api.Key]string{}
	for range 500 {
		seed := d.text()
		k := sign.Key(seed)
		if k != wantKey(seed) || k.Secret < 1 || k.Secret >= q || !sign.Right(k) || sign.Of(k.Secret) != k {
			t.Errorf("%q got %v want %v", seed, k, wantKey(seed))
		}
		if other, ok := seen[k]; ok && other != seed {
			t.Errorf("the same key for %q and %q", seed, other)
		}
		seen[k] = seed
	}
}

func TestOf(t *testing.T) { // P5.1
	for secret, want := range map[int]api.Key{
		0:     {},
		1:     {Secret: 1, Public: 4},
		2:     {Secret: 2, Public: 16},
		3:     {Secret: 3, Public: 64},
		q - 2: {Secret: q - 2, Public: power(power(4, 2), p-2)},
		q - 1: {Secret: q - 1, Public: 576460752303422895},
		q:     {},
		q + 1: {},
		2 * q: {},
		p:     {},
		-1:    {},
		1 - q: {},
		-q:    {},
		least: {},
		most:  {},
	} {
		if got := sign.Of(secret); got != want {
			t.Error(secret, "got", got, "want", want)
		}
	}
	d := dice(2)
	for range 500 {
		x := d.exponent()
		if got, want := sign.Of(x), (api.Key{Secret: x, Public: power(4, x)}); got != want {
			t.Error("got", got, "want", want)
		}
	}
}

// wrong are keys that are not right: with a secret that is none, although the power may be Public, and with another Public.
func wrong() []api.Key {
	l := []api.Key{
		{}, {Secret: 0, Public: 1}, {Secret: q, Public: 1}, {Secret: q, Public: 0}, {Secret: -q, Public: 1},
		{Secret: q + 1, Public: 4}, {Secret: q + 2, Public: 16}, {Secret: 2*q + 1, Public: 4}, {Secret: 1 - q, Public: 4},
		{Secret: -1, Public: 576460752303422895}, {Secret: -1, Public: 0}, {Secret: least, Public: 0}, {Secret: most, Public: 0},
		{Secret: least, Public: power(4, 1152921504606836293)}, {Secret: most, Public: power(4, most%q)},
		{Secret: 2, Public: 4}, {Secret: 1, Public: 16}, {Secret: 1, Public: 0}, {Secret: 1, Public: 1},
		{Secret: 1, Public: p + 4}, {Secret: 1, Public: 4 - p}, {Secret: 1, Public: p - 4}, {Secret: 1, Public: -4},
		{Secret: 4, Public: 1}, {Secret: q - 1, Public: 4},
	}
	d := dice(3)
	for range 100 {
		x := d.exponent()
		l = append(l, api.Key{Secret: x, Public: power(4, x) ^ 1<<d.below(64)}, api.Key{Secret: x, Public: power(4, x+1)})
	}
	return l
}

func TestRight(t *testing.T) { // P5.1
	for _, k := range []api.Key{{Secret: 1, Public: 4}, {Secret: 2, Public: 16}, {Secret: q - 1, Public: 576460752303422895}, sign.Key("weir")} {
		if !sign.Right(k) {
			t.Error(k, "is right")
		}
	}
	for _, k := range wrong() {
		if sign.Right(k) {
			t.Error(k, "is not right")
		}
	}
}

// P5.2: the values are those of a program in Python with its own BLAKE2s.
func TestSignExamples(t *testing.T) {
	upstream := sign.Key("upstream").Secret
	for _, c := range []struct {
		secret       int
		context, msg string
		want         api.Sig
	}{
		{1, "", "", api.Sig{E: 171472047663235353, S: 470107190589567360}},
		{1, "claim", "", api.Sig{E: 447124758512661933, S: 545511875950952826}},
		{1, "", "claim", api.Sig{E: 681135110765937236, S: 157471020180244084}},
		{2, "claim", "hour 7", api.Sig{E: 350831212067411967, S: 1053130144481619144}},
		{q - 1, "claim", "hour 7", api.Sig{E: 905377714234387503, S: 515277475918767850}},
		{q - 1, "", "", api.Sig{E: 104137235087347393, S: 114203798910778189}},
		{upstream, "claim", "hour 7", api.Sig{E: 629004954077090915, S: 1025477180688231039}},
		{upstream, "claim", "hour 8", api.Sig{E: 654405549211001548, S: 155339551501332529}},
		{upstream, "promise", "hour 7", api.Sig{E: 398531925944950006, S: 412185552192634}},
		{upstream, "claimhour", " 7", api.Sig{E: 906458665261609529, S: 377404565228177946}},
		{upstream, "\x00", "\x00\x01", api.Sig{E: 441160293158943467, S: 873982850794699461}},
		{upstream, "\x00\x01", "\x00", api.Sig{E: 488412949003381541, S: 890535316417817013}},
		{255, "a\xff\x00", "\xe4\xf6", api.Sig{E: 980913870369158213, S: 762713651976528045}},
		{256, strings.Repeat("c", 50), strings.Repeat("m", 80), api.Sig{E: 602612779093714555, S: 410445442420890541}},
		{1 << 59, "x", "y", api.Sig{E: 550306351337941366, S: 330115475750891395}},
	} {
		k := sign.Of(c.secret)
		if got := sign.Sign(k, c.context, c.msg); got != c.want {
			t.Errorf("%d %q %q got %v want %v", c.secret, c.context, c.msg, got, c.want)
		}
		if !sign.Verify(k.Public, c.context, c.msg, c.want) {
			t.Errorf("%d %q %q is not accepted", c.secret, c.context, c.msg)
		}
	}
}

func TestSignIsTheSignature(t *testing.T) { // P5.2
	d := dice(4)
	for range 1000 {
		k, context, msg := sign.Of(d.exponent()), d.text(), d.text()
		want := signed(k.Secret, k.Public, wantNonce(k.Secret, context, msg), context, msg)
		if got := sign.Sign(k, context, msg); got != want {
			t.Errorf("%v %q %q got %v want %v", k, context, msg, got, want)
		}
	}
}

func TestSignByAWrongKey(t *testing.T) { // P5.2
	for _, k := range wrong() {
		for _, msg := range []string{"", "claim"} {
			if got := sign.Sign(k, "here", msg); got != (api.Sig{}) {
				t.Errorf("%v %q got %v", k, msg, got)
			}
		}
	}
}

// P5.2: for a public key that is 1 or not in the group no signature is accepted, although all but one of these satisfy the equation.
func TestVerifyOfAWrongPublicKey(t *testing.T) {
	odd := 0
	for nonce := range 200 {
		for _, c := range []struct{ x, y int }{{0, 1}, {1, p + 4}, {2, p + 16}, {1, 2*p + 4}, {7, p + power(4, 7)}, {0, p + 1}} {
			if s := signed(c.x, c.y, nonce, "a", "b"); sign.Verify(c.y, "a", "b", s) {
				t.Error(c, s, "is accepted")
			}
		}
		for _, x := range []int{0, 1, 2, q - 1, 987654321} {
			y := p - power(4, x)
			s := signed(x, y, nonce, "a", "b")
			odd += s.E % 2
			if sign.Verify(y, "a", "b", s) {
				t.Error(y, s, "is accepted")
			}
		}
		for _, y := range []int{0, p} {
			if s := (api.Sig{E: wantChallenge(0, y, "a", "b"), S: nonce}); sign.Verify(y, "a", "b", s) {
				t.Error(y, s, "is accepted")
			}
		}
	}
	if odd < 400 {
		t.Error("only", odd, "signatures with an odd E, for which the power of -1 is that of 1")
	}
}

// P5.2: negative public keys have no number, so that their part of the challenge is empty.
func TestVerifyOfANegativePublicKey(t *testing.T) {
	for nonce := range 50 {
		for _, c := range []struct{ x, y int }{{1, 4 - p}, {2, 16 - p}, {0, 1 - p}, {1, 4 - 2*p}, {0, -1}, {1, -4}} {
			e := digest.Short(text("sign")+number(power(4, nonce))+text("a")+text("b")) % q
			s := api.Sig{E: e, S: (nonce + times(e, c.x, q)) % q}
			if sign.Verify(c.y, "a", "b", s) {
				t.Error(c, s, "is accepted")
			}
		}
	}
	for _, y := range []int{1, least, least + 1, most, most - 1, -p, -q, q, 2, 3} {
		for _, s := range []api.Sig{{}, {E: 1}, {S: 1}, {E: q - 1, S: q - 1}, {E: -1, S: least}, {E: most, S: most}} {
			if sign.Verify(y, "", "", s) {
				t.Error(y, s, "is accepted")
			}
		}
	}
}

// P5.2: E and S are residues. A multiple of Q more or less changes no power, but is refused.
func TestVerifyOfNumbersOutOfRange(t *testing.T) {
	d := dice(5)
	for range 300 {
		k, context, msg := sign.Of(d.exponent()), d.text(), d.text()
		s := sign.Sign(k, context, msg)
		if !sign.Verify(k.Public, context, msg, s) {
			t.Error(k, s, "is not accepted")
		}
		for _, m := range []int{-7, -2, -1, 1, 2, 6} {
			for _, other := range []api.Sig{{E: s.E, S: s.S + m*q}, {E: s.E + m*q, S: s.S}, {E: s.E + m*q, S: s.S + m*q}} {
				if sign.Verify(k.Public, context, msg, other) {
					t.Error(k, other, "is accepted")
				}
			}
		}
		for _, n := range []int{least, least + 1, -q, -1, q, q + 1, p, most - 1, most} {
			if sign.Verify(k.Public, context, msg, api.Sig{E: s.E, S: n}) || sign.Verify(k.Public, context, msg, api.Sig{E: n, S: s.S}) {
				t.Error(k, n, "is accepted")
			}
		}
	}
}

// P5.4: r is any element of the group, also 1, which no nonce of the definition has.
func TestVerifyOfTheLeastAndGreatestNonces(t *testing.T) {
	for _, nonce := range []int{0, 1, q - 1} {
		for x := 1; x < 30; x++ {
			y := power(4, x)
			s := signed(x, y, nonce, "", "")
			if !sign.Verify(y, "", "", s) || !wantVerify(y, "", "", s) {
				t.Error(x, nonce, s, "is not accepted")
			}
		}
	}
}

// P5.3: what Sign returns is accepted for its key, its context and its message, and for no other.
func TestAccepted(t *testing.T) {
	d := dice(6)
	for range 300 {
		k, context, msg := sign.Of(d.exponent()), d.text(), d.text()
		s := sign.Sign(k, context, msg)
		if !sign.Verify(k.Public, context, msg, s) {
			t.Errorf("%v %q %q %v is not accepted", k, context, msg, s)
		}
		other, otherContext, otherMsg := sign.Of(d.exponent()), d.text(), d.text()
		for _, c := range []struct {
			y            int
			context, msg string
		}{
			{k.Public, otherContext, msg}, {k.Public, context, otherMsg}, {k.Public, otherContext, otherMsg}, {k.Public, msg, context},
			{k.Public, context + msg, ""}, {k.Public, "", context + msg}, {k.Public, context, msg + "\x00"}, {k.Public, context + "\x00", msg},
			{other.Public, context, msg}, {times(k.Public, 4, p), context, msg},
		} {
			same := c.y == k.Public && c.context == context && c.msg == msg
			if sign.Verify(c.y, c.context, c.msg, s) != same {
				t.Errorf("%v %q %q %v for %v", k, context, msg, s, c)
			}
		}
	}
}

// P5.4: with any nonce, not only that of the definition; and nothing beside such a signature.
func TestVerifyIsTheEquation(t *testing.T) {
	d := dice(7)
	accepted := 0
	for range 1000 {
		k, context, msg := sign.Of(d.exponent()), d.text(), d.text()
		s := signed(k.Secret, k.Public, d.exponent(), context, msg)
		for _, other := range []api.Sig{s, {E: s.S, S: s.E}, {E: s.E ^ 1<<d.below(60), S: s.S}, {E: s.E, S: s.S ^ 1<<d.below(60)}, {E: q - s.E, S: s.S}, {E: s.E, S: q - s.S}, {E: d.exponent(), S: d.exponent()}, {E: 0, S: s.S}, {E: s.E, S: 0}, {}} {
			got, want := sign.Verify(k.Public, context, msg, other), wantVerify(k.Public, context, msg, other)
			if got != want || got != (other == s) {
				t.Error(k, other, "got", got, "want", want)
			}
			if got {
				accepted++
			}
		}
	}
	if accepted != 1000 {
		t.Error(accepted, "were accepted")
	}
}

// results are the results of every function.
type results struct {
	key, of     api.Key
	sig         api.Sig
	right, good bool
}

func all(x int, context, msg string) results {
	k := sign.Of(x)
	s := sign.Sign(k, context, msg)
	return results{sign.Key(msg), k, s, sign.Right(k), sign.Verify(k.Public, context, msg, s)}
}

// P4 of all layers: neither the order of calls nor calls at the same time change a result.
func TestPure(t *testing.T) {
	const n = 100
	d := dice(8)
	x, context, msg := make([]int, n), make([]string, n), make([]string, n)
	first, again := make([]results, n), make([]results, n)
	for i := range n {
		x[i], context[i], msg[i] = d.exponent(), d.text(), d.text()
		first[i] = all(x[i], context[i], msg[i])
	}
	var wg sync.WaitGroup
	for i := n - 1; i >= 0; i-- {
		wg.Go(func() { again[i] = all(x[i], context[i], msg[i]) })
	}
	wg.Wait()
	for i := range n {
		if first[i] != again[i] {
			t.Error(x[i], first[i], "then", again[i])
		}
	}
}
