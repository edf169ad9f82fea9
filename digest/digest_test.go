package digest_test

import (
	"encoding/hex"
	"math/big"
	"slices"
	"strings"
	"sync"
	"testing"

	"bourne/digest"
)

// dice gives the same numbers in every run, so that a failure can be repeated.
type dice uint64

func (d *dice) next() uint64 {
	*d += 0x9e3779b97f4a7c15
	x := uint64(*d)
	x = (x ^ x>>30) * 0xbf58476d1ce4e5b9
	x = (x ^ x>>27) * 0x94d049bb133111eb
	return x ^ x>>31
}

// below returns a number from 0 to n - 1.
func (d *dice) below(n int) int { return int(d.next() % uint64(n)) }

// text returns a string of n bytes.
func (d *dice) text(n int) string {
	b := make([]byte, n)
	for i := range b {
		b[i] = byte(d.next())
	}
	return string(b)
}

// pattern is a string of n bytes of which no two blocks are alike.
func pattern(n int) string {
	b := make([]byte, n)
	for i := range b {
		b[i] = byte(7*i*i + 3*i + 11*(i>>8) + 5)
	}
	return string(b)
}

// xor returns the bytewise exclusive or of strings of the same length.
func xor(l ...string) string {
	b := make([]byte, len(l[0]))
	for _, s := range l {
		for i := range b {
			b[i] ^= s[i]
		}
	}
	return string(b)
}

// P3.1: the digests of another implementation of BLAKE2s (that of Python), at the lengths where the number of blocks changes and beside them.
func TestSumKnown(t *testing.T) {
	for _, c := range []struct{ s, want string }{
		{"", "69217a3079908094e11121d042354a7c1f55b6482ca1a51e1b250dfd1ed0eef9"},
		{"abc", "508c5e8c327c14e2e1a72ba34eeb452f37458b209ed63a294d999b4c86675982"},
		{"The quick brown fox jumps over the lazy dog", "606beeec743ccbeff6cbcdf5d5302aa855c256c29b88c8ed331ea1a6bf3c8812"},
		{pattern(1), "4a65c7f455e91fffa9d44672962567f030babb13183aa95d0e8f0a9cac3d3c37"},
		{pattern(2), "2cb06edc9417a31f4c031b11280737c7fbe64c90447f92d2daceae8250efe8d0"},
		{pattern(3), "af30530c1a7032d632572b5971d7c595938e8836e0c72c876598e2a3f8c3c02d"},
		{pattern(4), "c4cc2b1a2908d595e0496344eececcd54caee228a249ebbab4b675e54ef0d985"},
		{pattern(55), "40fa8e2824559179efbe402341f03c909f4cda51ed528e59e17e500252c2c71e"},
		{pattern(63), "fb960b7349762226dc6864ed77248a60a556bfa253ab2aaa53c1660f729ecea0"},
		{pattern(64), "891056e29e8c1af056b2c03b1860d7af881c54faf1492d009d49dd307246f046"},
		{pattern(65), "ca0c0b791cc34ed8aa7f5990a8ff4c390914bd93e11118197dc05fd90d33fbfa"},
		{pattern(127), "a656ed84c77b5d88fa056c0aed94cd0634935a593b4e6834e52e81c2f14e7c0a"},
		{pattern(128), "d2745b3adb09814709fb34088391ee5c1445fc91848eaaf97d490ab9268134d1"},
		{pattern(129), "0ac666cb16cf6bb8018ecefc1d863ec56fa60cc9ae95356b156cd8b2f38778b4"},
		{pattern(192), "2cccdce9bed046af8d229e6a1823c546c722fd52e2e78ced6b5c3f7139ab5bd2"},
		{pattern(1000), "a3c90cf60ac4f82b22b44354caeefcd8357cde22e6934d36260c493379a5ca31"},
		{pattern(65536), "038d8e7afa57afb9b10428e69996f8b80aa5d50092b2e083ac42ff76c3f8c779"},
		{pattern(100001), "e31600dcb405da69f33b03e8f89ba7b077024e019ca6ad89f0b886fd2d81e6c1"},
	} {
		if got := hex.EncodeToString([]byte(digest.Sum(c.s))); got != c.want {
			t.Errorf("%d bytes: %s, not %s", len(c.s), got, c.want)
		}
	}
}

// P3.1: each digest of the chain is part of the next string, so that its end stands for the digests of all lengths from 32 to 431.
func TestSumChain(t *testing.T) {
	d := digest.Sum("")
	for n := range 400 {
		d = digest.Sum(d + pattern(n))
	}
	if got := hex.EncodeToString([]byte(d)); got != "5ed27aa32dc8bdc3799897cc7fe4bc04c3f9956142d4e5ee38158698445fb1bf" {
		t.Error(got)
	}
}

// P3.1: the padding is no part of the string.
func TestSumPadding(t *testing.T) {
	seen := map[string]int{}
	for n := range 200 {
		d := digest.Sum(strings.Repeat("\x00", n))
		if m, ok := seen[d]; ok {
			t.Errorf("%d and %d bytes 0 have the same digest", m, n)
		}
		if seen[d] = n; len(d) != 32 {
			t.Errorf("%d bytes 0: a digest of %d bytes", n, len(d))
		}
	}
}

// P3.2
func TestShort(t *testing.T) {
	for s, want := range map[string]int{"": 473466899801901065, "abc": 362757373500571982, "4631": 1152763297038536632} {
		if got := digest.Short(s); got != want {
			t.Errorf("%q: %d, not %d", s, got, want)
		}
	}
	d := dice(1)
	for range 2000 {
		s := d.text(d.below(70))
		n := new(big.Int).SetBytes([]byte(digest.Sum(s)[:8]))
		n.Div(n, big.NewInt(16))
		if got := digest.Short(s); got != int(n.Int64()) || got < 0 || got >= 1<<60 {
			t.Fatalf("%q: %d, not %v", s, got, n)
		}
	}
}

// wantCrc is the CRC as the remainder of a division of polynomials: the bits of the string, the least significant one of each byte first, of which the first 16 (those of the register's beginning) are inverted, times x^16, modulo x^16 + x^12 + x^5 + 1.
func wantCrc(s string) int {
	var bit []bool
	for i := range len(s) {
		for k := range 8 {
			bit = append(bit, s[i]>>k&1 == 1)
		}
	}
	bit = append(bit, make([]bool, 16)...)
	for i := range 16 {
		bit[i] = !bit[i]
	}
	for i := range len(bit) - 16 {
		if bit[i] {
			for _, k := range []int{0, 4, 11, 16} {
				bit[i+k] = !bit[i+k]
			}
		}
	}
	crc := 0
	for i, b := range bit[len(bit)-16:] {
		if !b {
			crc |= 1 << i
		}
	}
	return crc
}

// P3.3
func TestCrc(t *testing.T) {
	for s, want := range map[string]int{"": 0, "123456789": 36974, "\x00": 0xf078, "\xff": 0xff00, "\xff\xff": 0xffff} {
		if got := digest.Crc(s); got != want || wantCrc(s) != want {
			t.Errorf("%q: %d, not %d", s, got, want)
		}
	}
	for n := range 1 << 16 {
		s := string([]byte{byte(n), byte(n >> 8)})
		if got, want := digest.Crc(s), wantCrc(s); got != want {
			t.Fatalf("%q: %d, not %d", s, got, want)
		}
	}
	d := dice(2)
	for range 2000 {
		s := d.text(d.below(80))
		if got, want := digest.Crc(s), wantCrc(s); got != want {
			t.Fatalf("%q: %d, not %d", s, got, want)
		}
	}
}

// unhex tells by the library what Unhex returns: the library also reads capital letters, which Hex does not write.
func unhex(s string) (string, bool) {
	b, err := hex.DecodeString(s)
	if err != nil || hex.EncodeToString(b) != s {
		return "", false
	}
	return string(b), true
}

// P3.4
func TestHex(t *testing.T) {
	for s, want := range map[string]string{"": "", "\x00": "00", "\n": "0a", "\x0f\xf0": "0ff0", "\x12\x34\x56\x78\x9a\xbc\xde\xff": "123456789abcdeff", "é": "c3a9", "\xff\x00\x80": "ff0080"} {
		if got := digest.Hex(s); got != want {
			t.Errorf("%q: %q, not %q", s, got, want)
		}
	}
	d := dice(3)
	for n := range 1000 {
		s := d.text(n)
		got := digest.Hex(s)
		if got != hex.EncodeToString([]byte(s)) {
			t.Fatalf("%q: %q", s, got)
		}
		if back, ok := digest.Unhex(got); !ok || back != s {
			t.Fatalf("%q: back %q, %v", s, back, ok)
		}
	}
}

// P3.4: every string of at most 2 bytes, and longer ones of digits and of the bytes beside them.
func TestUnhex(t *testing.T) {
	check := func(s string) {
		got, ok := digest.Unhex(s)
		if want, wantOk := unhex(s); got != want || ok != wantOk {
			t.Errorf("%q: %q and %v, not %q and %v", s, got, ok, want, wantOk)
		}
	}
	for _, s := range []string{"", "0", "0A", "0a", "A0", "0x0a", " 0a", "0a ", "0a\n", "00é0", "é", "0g", "0a0", "0a0b0C", "0a0b0"} {
		check(s)
	}
	for n := range 1 << 16 {
		check(string([]byte{byte(n), byte(n >> 8)}))
		check(string([]byte{byte(n)}))
	}
	d := dice(4)
	letters := "0123456789abcdef0123456789abcdef/:@ABFG`g\x00\x80\xff"
	for range 20000 {
		b := make([]byte, d.below(9))
		for i := range b {
			b[i] = letters[d.below(len(letters))]
		}
		check(string(b))
	}
}

// all are the results of every function for s.
func all(s string) []any {
	back, ok := digest.Unhex(s)
	return []any{digest.Sum(s), digest.Short(s), digest.Crc(s), digest.Hex(s), back, ok}
}

// P3.5: the order of calls, calls at the same time, and what becomes of the bytes that a string was made of change no result.
func TestPure(t *testing.T) {
	const n = 150
	first := make([][]any, n)
	for i := range n {
		first[i] = all(pattern(i))
	}
	again := make([][]any, n)
	var wg sync.WaitGroup
	for i := n - 1; i >= 0; i-- {
		wg.Go(func() {
			b := []byte(pattern(i))
			s := string(b)
			clear(b)
			again[i] = all(s)
			if s != pattern(i) {
				t.Errorf("%d bytes: the argument has changed", i)
			}
		})
	}
	wg.Wait()
	for i := range n {
		if !slices.Equal(first[i], again[i]) {
			t.Errorf("%d bytes: %v, then %v", i, first[i], again[i])
		}
	}
}

// P3.6: what follows from a string and its CRC.
func TestCrcAfterItself(t *testing.T) {
	d := dice(5)
	for n := range 500 {
		s := d.text(n)
		c := digest.Crc(s)
		if got := digest.Crc(s + string([]byte{byte(c), byte(c >> 8)})); got != 3911 {
			t.Fatalf("%q: %d", s, got)
		}
	}
}

// P3.6: the exclusive or of three strings.
func TestCrcOfThree(t *testing.T) {
	d := dice(6)
	for n := range 500 {
		a, b, c := d.text(n), d.text(n), d.text(n)
		if digest.Crc(xor(a, b, c)) != digest.Crc(a)^digest.Crc(b)^digest.Crc(c) {
			t.Fatalf("%q, %q, %q", a, b, c)
		}
	}
}

// P3.6: strings that differ in one bit.
func TestCrcOfOneBit(t *testing.T) {
	d := dice(7)
	for n := range 60 {
		s := d.text(n)
		for i := range 8 * n {
			b := []byte(s)
			b[i/8] ^= 1 << (i % 8)
			if digest.Crc(s) == digest.Crc(string(b)) {
				t.Fatalf("%q and %q", s, b)
			}
		}
	}
}

// P3.6: strings that differ in any way within 16 consecutive bits, from any bit of the string on.
func TestCrcOfSixteenBits(t *testing.T) {
	s := pattern(5)
	crc := digest.Crc(s)
	for shift := range 8*len(s) - 15 {
		for n := 1; n < 1<<16; n++ {
			b := []byte(s)
			for i := range b {
				b[i] ^= byte(n << shift >> (8 * i))
			}
			if digest.Crc(string(b)) == crc {
				t.Fatalf("%q and %q", s, b)
			}
		}
	}
}
