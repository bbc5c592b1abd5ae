package num_test

import (
	"math"
	"math/big"
	"slices"
	"strings"
	"testing"

	"moraine/api"
	"moraine/num"
)

// The tests are held against math/big, which shares nothing with the package.

// value is the chapter's sum of n's limbs.
func value(n api.Num) *big.Int {
	v := new(big.Int)
	for i := len(n.Mag) - 1; i >= 0; i-- {
		v.Lsh(v, 32)
		v.Add(v, new(big.Int).SetUint64(uint64(n.Mag[i])))
	}
	if n.Neg {
		v.Neg(v)
	}
	return v
}

// number is the number that may be of the value v, but for its size.
func number(v *big.Int) api.Num {
	n := api.Num{Neg: v.Sign() < 0}
	for left := new(big.Int).Abs(v); left.Sign() > 0; left.Rsh(left, 32) {
		n.Mag = append(n.Mag, uint32(left.Uint64()))
	}
	return n
}

// power is 2 to the power e, and plus added to it.
func power(e uint, plus int64) *big.Int {
	v := new(big.Int).Lsh(big.NewInt(1), e)
	return v.Add(v, big.NewInt(plus))
}

func same(a, b api.Num) bool { return a.Neg == b.Neg && slices.Equal(a.Mag, b.Mag) }

// tooBig is whether v needs more than 48 limbs.
func tooBig(v *big.Int) bool { return v.BitLen() > 48*32 }

// check fails, unless n and e are the answer of the value v.
func check(t *testing.T, what string, n api.Num, e api.Errno, v *big.Int, of ...api.Num) {
	t.Helper()
	want, err := number(v), api.OK
	if tooBig(v) {
		want, err = api.Num{}, api.ErrBig
	}
	if e != err || !same(n, want) {
		t.Fatalf("%s of %v: %v, %d; not %v, %d", what, of, n, e, want, err)
	}
}

// limbs is a row of that many limbs, all alike.
func limbs(n int, limb uint32) []uint32 { return slices.Repeat([]uint32{limb}, n) }

// next is a fixed rule (xorshift) in place of a random source.
func next(seed *uint64) uint64 {
	*seed ^= *seed << 13
	*seed ^= *seed >> 7
	*seed ^= *seed << 17
	return *seed
}

// wild are numbers of all lengths with limbs at edges and without rule.
func wild(count int) []api.Num {
	seed := uint64(88172645463325252)
	var l []api.Num
	for range count {
		n := api.Num{Neg: next(&seed)%2 == 0}
		for range next(&seed) % 52 {
			limb := uint32(next(&seed) >> 20)
			switch next(&seed) % 6 {
			case 0:
				limb = 0
			case 1:
				limb = math.MaxUint32
			case 2:
				limb = 1 << 31
			case 3:
				limb %= 3
			}
			n.Mag = append(n.Mag, limb)
		}
		l = append(l, n)
	}
	return l
}

// edges are the numbers that the chapter names, of both signs.
func edges() []api.Num {
	mags := [][]uint32{
		nil, {}, {0}, {0, 0}, limbs(60, 0), // all of them 0
		{1}, {2}, {3}, {7}, {10}, {1e9}, {1 << 31}, {math.MaxUint32}, {math.MaxUint32 - 1},
		{0, 1}, {1, 1}, {math.MaxUint32, math.MaxUint32}, {0, 1 << 28}, {math.MaxUint32, 1<<28 - 1}, {1, 1 << 28}, {0, 1 << 31}, {1, 1 << 31},
		{7, 0}, {7, 0, 0, 0}, {0, 1, 0}, slices.Concat([]uint32{9, 8}, limbs(60, 0)), // noughts at the end
		{0, 0, 1}, {5, 0, 1 << 31}, {0, 0, 1 << 31, 3}, {1, 0, 1 << 29}, {3, 0, 1 << 31}, {0, math.MaxUint32 - 1, 1 << 31}, {math.MaxUint32, 1 << 31},
		limbs(3, math.MaxUint32), limbs(24, math.MaxUint32), limbs(25, math.MaxUint32), slices.Concat(limbs(24, 0), []uint32{1}),
		limbs(47, math.MaxUint32), slices.Concat(limbs(47, 0), []uint32{1}), slices.Concat(limbs(47, 0), []uint32{1 << 31}), // 48 limbs
		limbs(48, math.MaxUint32), slices.Concat([]uint32{math.MaxUint32 - 1}, limbs(47, math.MaxUint32)),
		slices.Concat(limbs(48, 0), []uint32{1}), slices.Concat([]uint32{1}, limbs(47, 0), []uint32{1}), limbs(49, math.MaxUint32), // 49
		slices.Concat(limbs(48, math.MaxUint32), limbs(5, 0)), slices.Concat(limbs(99, 7), []uint32{1}), limbs(70, math.MaxUint32),
	}
	var l []api.Num
	for _, mag := range mags {
		l = append(l, api.Num{Mag: mag}, api.Num{Neg: true, Mag: mag})
	}
	return l
}

func samples() []api.Num { return append(edges(), wild(60)...) }

// pairs tells all pairs of the samples, with their values.
func pairs(yield func(a, b api.Num) bool) {
	l := samples()
	for _, a := range l {
		for _, b := range l {
			if !yield(a, b) {
				return
			}
		}
	}
}

func TestP2_1May(t *testing.T) {
	for _, c := range []struct {
		n   api.Num
		may bool
	}{
		{api.Num{}, true}, {api.Num{Mag: []uint32{}}, true}, {api.Num{Neg: true}, false}, {api.Num{Neg: true, Mag: []uint32{}}, false},
		{api.Num{Mag: []uint32{0}}, false}, {api.Num{Neg: true, Mag: []uint32{0}}, false}, {api.Num{Mag: []uint32{1}}, true}, {api.Num{Neg: true, Mag: []uint32{1}}, true},
		{api.Num{Mag: []uint32{1, 0}}, false}, {api.Num{Mag: []uint32{0, 1}}, true}, {api.Num{Neg: true, Mag: []uint32{0, 0, 5}}, true}, {api.Num{Mag: []uint32{math.MaxUint32}}, true},
		{api.Num{Mag: limbs(48, 1)}, true}, {api.Num{Neg: true, Mag: limbs(48, math.MaxUint32)}, true}, {api.Num{Mag: limbs(49, 1)}, false}, {api.Num{Neg: true, Mag: limbs(1000, 1)}, false},
		{api.Num{Mag: slices.Concat(limbs(47, 1), []uint32{0})}, false}, {api.Num{Mag: slices.Concat(limbs(48, 1), []uint32{0})}, false},
	} {
		if got := num.May(c.n); got != c.may {
			t.Errorf("May(%v): %v", c.n, got)
		}
	}
	for _, n := range samples() {
		if got, want := num.May(n), same(n, number(value(n))) && len(n.Mag) <= 48; got != want {
			t.Errorf("May(%v): %v", n, got)
		}
	}
}

func TestP2_1Norm(t *testing.T) {
	for _, n := range samples() {
		got, e := num.Norm(n)
		check(t, "Norm", got, e, value(n), n)
	}
	for _, c := range []struct {
		mag  []uint32
		want int
	}{{nil, 0}, {[]uint32{0, 0}, 0}, {[]uint32{5, 0}, 1}, {slices.Concat(limbs(48, 9), limbs(40, 0)), 48}} {
		if n, e := num.Norm(api.Num{Mag: c.mag}); e != api.OK || n.Neg || len(n.Mag) != c.want {
			t.Errorf("Norm(%v): %v, %d", c.mag, n, e)
		}
	}
	if n, e := num.Norm(api.Num{Mag: limbs(49, 1)}); e != api.ErrBig || n.Neg || len(n.Mag) != 0 {
		t.Errorf("Norm of 49 limbs: %v, %d", n, e)
	}
}

// integers are values of int64 at edges and without rule.
func integers() []int64 {
	l := []int64{0, 1, -1, 10, -10, math.MaxInt32, math.MinInt32, math.MaxUint32, math.MaxUint32 + 1, -math.MaxUint32, -math.MaxUint32 - 1,
		1<<60 - 2, 1<<60 - 1, 1 << 60, 1<<60 + 1, -1<<60 + 1, -1 << 60, -1<<60 - 1, -1<<60 - 2, 1 << 61, -1 << 61, 1 << 62, -1 << 62,
		math.MaxInt64, math.MaxInt64 - 1, math.MinInt64, math.MinInt64 + 1}
	seed := uint64(1234567890123)
	for range 500 {
		x := int64(next(&seed))
		l = append(l, x, x>>3, x>>32, x>>55)
	}
	return l
}

func TestP2_1Of(t *testing.T) {
	for _, x := range integers() {
		check(t, "Of", num.Of(x), api.OK, big.NewInt(x))
	}
}

// fits is whether v is a fixnum's value.
func fits(v *big.Int) bool {
	return v.Cmp(power(60, 0)) < 0 && v.Cmp(new(big.Int).Neg(power(60, 0))) >= 0
}

func checkFix(t *testing.T, n api.Num) {
	t.Helper()
	v := value(n)
	x, ok := num.Fix(n)
	if ok != fits(v) || ok && x != v.Int64() || !ok && x != 0 {
		t.Errorf("Fix(%v): %d, %v", n, x, ok)
	}
}

func TestP2_1Fix(t *testing.T) {
	for _, n := range samples() {
		checkFix(t, n)
	}
	for _, x := range integers() {
		checkFix(t, number(big.NewInt(x)))
	}
	for _, high := range []uint32{1<<28 - 1, 1 << 28, 1<<28 + 1, 1 << 29, 1 << 31, math.MaxUint32} {
		for _, low := range []uint32{0, 1, math.MaxUint32} {
			for _, mag := range [][]uint32{{low, high}, {low, high, 0}, {low, high, 1}} {
				checkFix(t, api.Num{Mag: mag})
				checkFix(t, api.Num{Neg: true, Mag: mag})
			}
		}
	}
}

func TestP2_1Sign(t *testing.T) {
	for _, n := range samples() {
		if got, want := num.Sign(n), value(n).Sign(); got != want {
			t.Errorf("Sign(%v): %d", n, got)
		}
	}
}

func TestP2_1Cmp(t *testing.T) {
	for a, b := range pairs {
		if got, want := num.Cmp(a, b), value(a).Cmp(value(b)); got != want {
			t.Fatalf("Cmp(%v, %v): %d", a, b, got)
		}
	}
	// Numbers of one length that differ in one limb.
	for i := range 5 {
		a, b := limbs(5, 7), limbs(5, 7)
		b[i]++
		if i > 0 {
			a[i-1] = math.MaxUint32
		}
		for _, c := range []struct {
			a, b api.Num
			want int
		}{{api.Num{Mag: a}, api.Num{Mag: b}, -1}, {api.Num{Mag: b}, api.Num{Mag: a}, 1}, {api.Num{Neg: true, Mag: a}, api.Num{Neg: true, Mag: b}, 1}, {api.Num{Neg: true, Mag: b}, api.Num{Mag: a}, -1}} {
			if got := num.Cmp(c.a, c.b); got != c.want {
				t.Errorf("Cmp(%v, %v): %d", c.a, c.b, got)
			}
		}
	}
}

func TestP2_2Neg(t *testing.T) {
	for _, n := range samples() {
		got, e := num.Neg(n)
		check(t, "Neg", got, e, new(big.Int).Neg(value(n)), n)
	}
}

// one is a call of two numbers that answers one.
type one func(a, b api.Num) (api.Num, api.Errno)

func checkPairs(t *testing.T, what string, call one, reckon func(a, b *big.Int) *big.Int) {
	t.Helper()
	for a, b := range pairs {
		got, e := call(a, b)
		check(t, what, got, e, reckon(value(a), value(b)), a, b)
	}
}

func sum(a, b *big.Int) *big.Int        { return new(big.Int).Add(a, b) }
func difference(a, b *big.Int) *big.Int { return new(big.Int).Sub(a, b) }
func product(a, b *big.Int) *big.Int    { return new(big.Int).Mul(a, b) }

func TestP2_2Add(t *testing.T) { checkPairs(t, "Add", num.Add, sum) }

func TestP2_2Sub(t *testing.T) { checkPairs(t, "Sub", num.Sub, difference) }

func TestP2_2Mul(t *testing.T) { checkPairs(t, "Mul", num.Mul, product) }

func TestP2_2JustFitsOrTooBig(t *testing.T) {
	most := power(1536, -1)
	for _, c := range []struct {
		what   string
		call   one
		a, b   *big.Int
		tooBig bool
	}{
		{"Add", num.Add, power(1536, -2), big.NewInt(1), false},
		{"Add", num.Add, most, big.NewInt(1), true},
		{"Add", num.Add, power(1535, -1), power(1535, 0), false},
		{"Add", num.Add, power(1535, 0), power(1535, 0), true},
		{"Add", num.Add, power(1536, 0), big.NewInt(-1), false},
		{"Add", num.Add, power(5000, 1), new(big.Int).Neg(power(5000, 0)), false},
		{"Sub", num.Sub, new(big.Int).Neg(power(1536, -2)), big.NewInt(1), false},
		{"Sub", num.Sub, new(big.Int).Neg(most), big.NewInt(1), true},
		{"Sub", num.Sub, big.NewInt(-1), most, true},
		{"Sub", num.Sub, power(5000, 0), power(5000, -9), false},
		{"Sub", num.Sub, power(5000, 0), power(4999, 0), true},
		{"Mul", num.Mul, power(768, -1), power(768, 1), false},
		{"Mul", num.Mul, power(768, 0), power(768, 0), true},
		{"Mul", num.Mul, power(1535, -1), big.NewInt(-2), false},
		{"Mul", num.Mul, power(1535, 0), big.NewInt(-2), true},
		{"Mul", num.Mul, power(800, 0), power(800, 0), true},
		{"Mul", num.Mul, power(5000, 0), big.NewInt(0), false},
		{"Mul", num.Mul, power(1536, 0), big.NewInt(1), true},
		{"Quo", num.Quo, power(1536, 0), big.NewInt(1), true},
		{"Quo", num.Quo, power(1536, 0), big.NewInt(-2), false},
		{"Rem", num.Rem, power(1600, 0), power(1601, 0), true},
		{"Rem", num.Rem, power(1600, 7), power(1600, 0), false},
		// What Rem answers would be too big, but Mod's answer is not; and the other way round.
		{"Mod", num.Mod, new(big.Int).Neg(power(1600, -1)), power(1600, 0), false},
		{"Rem", num.Rem, new(big.Int).Neg(power(1600, -1)), power(1600, 0), true},
		{"Mod", num.Mod, big.NewInt(-1), power(1600, 0), true},
		{"Rem", num.Rem, big.NewInt(-1), power(1600, 0), false},
	} {
		n, e := c.call(number(c.a), number(c.b))
		if (e == api.ErrBig) != c.tooBig || (e == api.OK) == c.tooBig || c.tooBig && (n.Neg || n.Mag != nil) {
			t.Errorf("%s of %v and %v: %v, %d", c.what, c.a, c.b, n, e)
		}
	}
}

// quotients are the chapter's words for Quo, Rem and Mod.
func quotients(a, b *big.Int) (quo, rem, mod *big.Int) {
	quo = new(big.Int).Div(new(big.Int).Abs(a), new(big.Int).Abs(b))
	if (a.Sign() < 0) != (b.Sign() < 0) {
		quo.Neg(quo)
	}
	rem = difference(a, product(b, quo))
	mod = rem
	if rem.Sign() != 0 && rem.Sign() != b.Sign() {
		mod = sum(rem, b)
	}
	return quo, rem, mod
}

func checkDivision(t *testing.T, a, b api.Num) {
	t.Helper()
	quo, rem, mod := quotients(value(a), value(b))
	n, e := num.Quo(a, b)
	check(t, "Quo", n, e, quo, a, b)
	n, e = num.Rem(a, b)
	check(t, "Rem", n, e, rem, a, b)
	n, e = num.Mod(a, b)
	check(t, "Mod", n, e, mod, a, b)
}

func TestP2_3Division(t *testing.T) {
	for a, b := range pairs {
		if value(b).Sign() != 0 {
			checkDivision(t, a, b)
		}
	}
}

func TestP2_3SignsOfDivision(t *testing.T) {
	for _, c := range []struct{ a, b, quo, rem, mod int64 }{
		{7, 2, 3, 1, 1}, {-7, 2, -3, -1, 1}, {7, -2, -3, 1, -1}, {-7, -2, 3, -1, -1},
		{6, 2, 3, 0, 0}, {-6, 2, -3, 0, 0}, {6, -2, -3, 0, 0}, {-6, -2, 3, 0, 0},
		{2, 7, 0, 2, 2}, {-2, 7, 0, -2, 5}, {2, -7, 0, 2, -5}, {-2, -7, 0, -2, -2},
		{0, 7, 0, 0, 0}, {0, -7, 0, 0, 0}, {1 << 40, -(1<<40 - 1), -1, 1, 2 - 1<<40},
	} {
		for _, o := range []struct {
			what string
			call one
			want int64
		}{{"Quo", num.Quo, c.quo}, {"Rem", num.Rem, c.rem}, {"Mod", num.Mod, c.mod}} {
			n, e := o.call(number(big.NewInt(c.a)), number(big.NewInt(c.b)))
			check(t, o.what, n, e, big.NewInt(o.want))
		}
	}
}

func TestP2_3DivisionByMadeProducts(t *testing.T) {
	// Sums of products lie next to where a guessed limb is too great.
	l := append(edges(), wild(40)...)
	for i, a := range l {
		for j, b := range l {
			v, by := value(a), value(b)
			if by.Sign() == 0 {
				continue
			}
			whole := product(v, by)
			for _, near := range []int64{-1, 0, 1} {
				checkDivision(t, number(sum(whole, big.NewInt(near))), b)
			}
			checkDivision(t, number(sum(whole, value(l[(i+j)%len(l)]))), b)
		}
	}
}

func TestP2_3GuessesThatAreTooGreat(t *testing.T) {
	// Rows of few limbs at edges: some guesses are too great by one even behind
	// all that is looked at for them.
	few := []uint32{0, 1, 1<<31 - 1, 1 << 31, math.MaxUint32 - 1, math.MaxUint32}
	var tops, bys [][]uint32
	for _, x := range few {
		for _, y := range few {
			for _, z := range few {
				bys = append(bys, []uint32{x, y, z})
				for _, w := range few {
					tops = append(tops, []uint32{x, y, z, w})
				}
			}
		}
	}
	for _, top := range tops {
		for i, by := range bys {
			if i > 0 {
				checkDivision(t, api.Num{Mag: top}, api.Num{Mag: by})
			}
		}
	}
}

func TestP2_3DivisionByZero(t *testing.T) {
	for _, a := range samples() {
		for _, b := range []api.Num{{}, {Neg: true}, {Mag: []uint32{0}}, {Neg: true, Mag: []uint32{0, 0, 0}}, {Mag: limbs(60, 0)}} {
			for _, call := range []one{num.Quo, num.Rem, num.Mod} {
				if n, e := call(a, b); e != api.ErrZero || n.Neg || n.Mag != nil {
					t.Fatalf("%v by 0: %v, %d", a, n, e)
				}
			}
		}
	}
}

// divisor is math/big's greatest divisor of all.
func divisor(l []api.Num) *big.Int {
	g := new(big.Int)
	for _, n := range l {
		g.GCD(nil, nil, g, new(big.Int).Abs(value(n)))
	}
	return g
}

func checkGcd(t *testing.T, l ...api.Num) {
	t.Helper()
	g, e := num.Gcd(l...)
	check(t, "Gcd", g, e, divisor(l), l...)
}

func TestP2_4Gcd(t *testing.T) {
	nought, minus := api.Num{Mag: []uint32{0}}, api.Num{Neg: true}
	checkGcd(t)
	checkGcd(t, api.Num{})
	checkGcd(t, nought, minus, api.Num{Neg: true, Mag: []uint32{0, 0}})
	for _, c := range []struct {
		l    []int64
		want int64
	}{{nil, 0}, {[]int64{12, -18, 0}, 6}, {[]int64{-12}, 12}, {[]int64{0, -5}, 5}, {[]int64{4, 6, 9}, 1}, {[]int64{-8, -12, -20}, 4}, {[]int64{0, 0}, 0}, {[]int64{1 << 40, 1 << 50, 3 << 38}, 1 << 38}} {
		var l []api.Num
		for _, x := range c.l {
			l = append(l, number(big.NewInt(x)))
		}
		g, e := num.Gcd(l...)
		check(t, "Gcd", g, e, big.NewInt(c.want), l...)
	}
	for _, n := range samples() {
		checkGcd(t, n)
		checkGcd(t, nought, n, minus)
		checkGcd(t, n, n)
	}
	for a, b := range pairs {
		checkGcd(t, a, b)
	}
}

func TestP2_4GcdOfMany(t *testing.T) {
	l := samples()
	for i := range l {
		a, b, c := value(l[i]), value(l[(i+7)%len(l)]), value(l[(i+31)%len(l)])
		checkGcd(t, number(product(a, b)), number(product(b, c)), number(product(a, c)), number(product(a, a)))
	}
	// A common part that is too big on the way is none, if the whole's is not.
	large := number(power(1600, 0))
	checkGcd(t, large, large)
	checkGcd(t, large, large, number(big.NewInt(12)))
	checkGcd(t, number(big.NewInt(12)), large)
}

func TestP2_5Text(t *testing.T) {
	for _, n := range samples() {
		if got, want := num.Text(n), value(n).String(); got != want {
			t.Fatalf("Text(%v): %q", n, got)
		}
	}
	ten := big.NewInt(1)
	for range 470 {
		for _, near := range []int64{-1, 0, 1} {
			v := sum(ten, big.NewInt(near))
			if got, want := num.Text(number(v)), v.String(); got != want {
				t.Fatalf("Text of %s: %q", want, got)
			}
		}
		ten.Mul(ten, big.NewInt(-10))
	}
}

// checkParse fails, unless Parse answers what math/big does.
func checkParse(t *testing.T, s string) {
	t.Helper()
	v, ok := new(big.Int).SetString(s, 10)
	if !ok {
		t.Fatalf("%q is no number's text", s)
	}
	n, e := num.Parse(s)
	check(t, "Parse", n, e, v)
}

func TestP2_5Parse(t *testing.T) {
	for _, s := range []string{
		"0", "-0", "+0", "00", "-000", "+000000000000", "7", "+7", "-7", "007", "-007", "+007", "9", "10", "123456789", "1234567890", "-999999999", "1000000000",
		"4294967295", "4294967296", "-18446744073709551616", "1000000000000000000000000000000", "900000000000000000000000001",
		strings.Repeat("0", 9), strings.Repeat("0", 5000), strings.Repeat("0", 5000) + "1", "-" + strings.Repeat("0", 463) + "25",
		strings.Repeat("9", 462), strings.Repeat("9", 463), "1" + strings.Repeat("0", 462), "1" + strings.Repeat("0", 463), "-" + strings.Repeat("9", 463), "+" + strings.Repeat("1", 5000),
		strings.Repeat("0", 1000) + strings.Repeat("9", 462), strings.Repeat("0", 1000) + strings.Repeat("9", 463),
		power(1536, -1).String(), "-" + power(1536, -1).String(), "+00" + power(1536, -1).String(), power(1536, 0).String(), "-" + power(1536, 0).String(), power(1536, 1).String(),
	} {
		checkParse(t, s)
	}
	for size := range 30 {
		for _, digit := range []string{"1", "9", "5"} {
			checkParse(t, strings.Repeat(digit, size+1))
			checkParse(t, "-00"+strings.Repeat(digit, size+1)+strings.Repeat("0", size))
		}
	}
}

func TestP2_5ParseOfManyDigits(t *testing.T) {
	// Each of them ends soon: what is too big is told long before the end.
	const many = 1 << 24
	zeros, nines := strings.Repeat("0", many), strings.Repeat("9", many)
	for _, c := range []struct {
		s    string
		e    api.Errno
		size int
	}{{zeros, api.OK, 0}, {"-" + zeros + "5", api.OK, 1}, {nines, api.ErrBig, 0}, {"-" + nines + zeros, api.ErrBig, 0}, {nines + "x", api.ErrForm, 0}} {
		if n, e := num.Parse(c.s); e != c.e || n.Neg != (c.size > 0) || len(n.Mag) != c.size {
			t.Errorf("Parse of %d bytes: %v, %d", len(c.s), n, e)
		}
	}
}

func TestP2_5ParseOfWrong(t *testing.T) {
	wrong := []string{"", "+", "-", "++1", "--1", "+-1", "-+1", "1+", "1-", " 1", "1 ", "1 2", "\n1", "1\n", "a", "1a", "a1", "1a2", "0x10", "1_000", "1,5", "1.5", "1e5", "#1", "'1",
		"\x00", "1\x00", "\xff", "1\x80", "١", "1२", "−1", strings.Repeat("9", 5000) + "x", "-" + strings.Repeat("0", 5000) + "-", "+ ", "- 1"}
	for b := range 256 {
		if b < '0' || b > '9' {
			wrong = append(wrong, "1"+string([]byte{byte(b)}), "-3"+string([]byte{byte(b)})+"4", string([]byte{byte(b)}))
		}
	}
	for _, s := range wrong {
		if n, e := num.Parse(s); e != api.ErrForm || n.Neg || n.Mag != nil {
			t.Errorf("Parse(%q): %v, %d", s, n, e)
		}
	}
}

// roomy is n again, in front of room with marks in it.
func roomy(n api.Num) (m api.Num, whole []uint32) {
	whole = slices.Concat([]uint32{77, 78}, n.Mag, limbs(60, 12345))
	return api.Num{Neg: n.Neg, Mag: whole[2 : 2+len(n.Mag)]}, whole
}

// spoil writes over all of n's memory.
func spoil(n api.Num) {
	whole := n.Mag[:cap(n.Mag)]
	for i := range whole {
		whole[i] = 99
	}
}

// calls are all that answer a number, as calls of two.
func calls() map[string]one {
	return map[string]one{
		"Norm": func(a, b api.Num) (api.Num, api.Errno) { return num.Norm(a) },
		"Neg":  func(a, b api.Num) (api.Num, api.Errno) { return num.Neg(a) },
		"Add":  num.Add, "Sub": num.Sub, "Mul": num.Mul, "Quo": num.Quo, "Rem": num.Rem, "Mod": num.Mod,
		"Gcd": func(a, b api.Num) (api.Num, api.Errno) { return num.Gcd(a, b) },
		"Gcd of one": func(a, b api.Num) (api.Num, api.Errno) {
			l := []api.Num{a, {}}
			n, e := num.Gcd(l...)
			if !same(l[0], a) || !same(l[1], api.Num{}) {
				return api.Num{}, api.ErrArg
			}
			return n, e
		},
		"askers": func(a, b api.Num) (api.Num, api.Errno) {
			num.May(a)
			num.Fix(a)
			num.Sign(a)
			num.Cmp(a, b)
			num.Text(a)
			return api.Num{}, api.OK
		},
	}
}

func TestP2_6Memory(t *testing.T) {
	l := append(edges(), wild(12)...)
	for what, call := range calls() {
		for _, a := range l {
			for _, b := range l {
				x, xs := roomy(a)
				y, ys := roomy(b)
				xWas, yWas := slices.Clone(xs), slices.Clone(ys)
				first, e := call(x, y)
				second, f := call(x, y)
				was := slices.Clone(first.Mag)
				if e != f || !same(first, second) {
					t.Fatalf("%s of %v and %v: %v, then %v", what, a, b, first, second)
				}
				spoil(second)
				if !slices.Equal(xs, xWas) || !slices.Equal(ys, yWas) {
					t.Fatalf("%s of %v and %v changes them, or answers their memory", what, a, b)
				}
				spoil(api.Num{Mag: xs})
				spoil(api.Num{Mag: ys})
				if !slices.Equal(first.Mag, was) {
					t.Fatalf("%s of %v and %v keeps their memory, or answers one twice", what, a, b)
				}
			}
		}
	}
}

func TestP2_6MemoryOfMakers(t *testing.T) {
	for _, x := range integers() {
		spoil(num.Of(x))
		check(t, "Of", num.Of(x), api.OK, big.NewInt(x))
	}
	for _, s := range []string{"0", "5", "-123456789012345678901234567890"} {
		n, _ := num.Parse(s)
		spoil(n)
		checkParse(t, s)
	}
}

func TestP2_7Ring(t *testing.T) {
	l := append(edges(), wild(20)...)
	for i, a := range l {
		for j, b := range l {
			c := l[(3*i+5*j)%len(l)]
			there, e := num.Add(a, b)
			back, f := num.Add(b, a)
			if e != f || !same(there, back) || e == api.OK && value(there).Cmp(sum(value(a), value(b))) != 0 {
				t.Fatalf("Add of %v and %v: %v, %v", a, b, there, back)
			}
			if e == api.OK {
				again, e := num.Sub(there, b)
				check(t, "Sub of Add", again, e, value(a), a, b)
			}
			there, e = num.Mul(a, b)
			back, f = num.Mul(b, a)
			if e != f || !same(there, back) || e == api.OK && value(there).Cmp(product(value(a), value(b))) != 0 {
				t.Fatalf("Mul of %v and %v: %v, %v", a, b, there, back)
			}
			checkProductOfSum(t, a, b, c)
		}
	}
}

// checkProductOfSum fails, if (a + b) c is not a c + b c, where nothing is too big.
func checkProductOfSum(t *testing.T, a, b, c api.Num) {
	t.Helper()
	ab, e := num.Add(a, b)
	left, f := num.Mul(ab, c)
	ac, g := num.Mul(a, c)
	bc, h := num.Mul(b, c)
	right, i := num.Add(ac, bc)
	if e|f|g|h|i != api.OK {
		return
	}
	if !same(left, right) || value(left).Cmp(product(sum(value(a), value(b)), value(c))) != 0 {
		t.Fatalf("(%v + %v) %v: %v, %v", a, b, c, left, right)
	}
}

func TestP2_8Division(t *testing.T) {
	for a, b := range pairs {
		v, by := value(a), value(b)
		if by.Sign() == 0 || tooBig(v) || tooBig(by) {
			continue
		}
		quo, e := num.Quo(a, b)
		rem, f := num.Rem(a, b)
		mod, g := num.Mod(a, b)
		if e != api.OK || f != api.OK || g != api.OK {
			t.Fatalf("%v by %v: %d, %d, %d", a, b, e, f, g)
		}
		if v.Cmp(sum(product(by, value(quo)), value(rem))) != 0 {
			t.Fatalf("%v by %v: Quo %v and Rem %v are not together again", a, b, quo, rem)
		}
		if value(rem).CmpAbs(by) >= 0 || value(mod).CmpAbs(by) >= 0 {
			t.Fatalf("%v by %v: Rem %v, Mod %v", a, b, rem, mod)
		}
		if s := value(rem).Sign(); s != 0 && s != v.Sign() {
			t.Fatalf("Rem of %v by %v: %v", a, b, rem)
		}
		if s := value(mod).Sign(); s != 0 && s != by.Sign() {
			t.Fatalf("Mod of %v by %v: %v", a, b, mod)
		}
	}
}

func TestP2_9ThereAndBack(t *testing.T) {
	for _, n := range samples() {
		back, e := num.Parse(num.Text(n))
		check(t, "Parse of Text", back, e, value(n), n)
	}
	for _, x := range integers() {
		back, ok := num.Fix(num.Of(x))
		if want := x >= -1<<60 && x < 1<<60; ok != want || ok && back != x || !ok && back != 0 {
			t.Errorf("Fix of Of(%d): %d, %v", x, back, ok)
		}
	}
}

func TestP2_10Parts(t *testing.T) {
	for a, b := range pairs {
		if value(b).Sign() == 0 {
			continue
		}
		if whole, e := num.Mul(a, b); e == api.OK {
			part, e := num.Quo(whole, b)
			check(t, "Quo of Mul", part, e, value(a), a, b)
			left, e := num.Rem(whole, b)
			check(t, "Rem of Mul", left, e, new(big.Int), a, b)
		}
		g, e := num.Gcd(a, b)
		if e != api.OK {
			continue
		}
		x, f := num.Quo(a, g)
		y, h := num.Quo(b, g)
		if f != api.OK || h != api.OK {
			continue
		}
		by := value(g)
		if product(value(x), by).Cmp(value(a)) != 0 || product(value(y), by).Cmp(value(b)) != 0 {
			t.Fatalf("Gcd(%v, %v) is %v, which is no part", a, b, g)
		}
		rest, e := num.Gcd(x, y)
		check(t, "Gcd of what is left", rest, e, big.NewInt(1), a, b)
	}
}
