package value_test

import (
	"math/big"
	"testing"

	"jointer/api"
	"jointer/value"
)

type operation func(a, b int64) (int64, api.Errno)

// edges returns integers around all powers of two, and some others.
func edges() []int64 {
	l := []int64{0, 3, -3, 5, 7, -7, 10, -10, 1000003, -1000003, 3037000499, 3037000500, -3037000499, -3037000500}
	for k := range 64 {
		n := int64(1) << k
		l = append(l, n, n-1, n+1, -n, -n-1, 1-n)
	}
	return l
}

// expect returns what an operation must come to whose exact result is n.
func expect(n *big.Int) (int64, api.Errno) {
	if !n.IsInt64() {
		return 0, api.ErrOverflow
	}
	return n.Int64(), api.OK
}

func check(t *testing.T, name string, f operation, a, b, want int64, wantErr api.Errno) {
	t.Helper()
	if n, e := f(a, b); n != want || e != wantErr {
		t.Errorf("%s(%d, %d) is %d, %v; want %d, %v", name, a, b, n, e, want, wantErr)
	}
}

// P1.3

func TestSumsDifferencesProducts(t *testing.T) {
	for _, a := range edges() {
		for _, b := range edges() {
			x, y := big.NewInt(a), big.NewInt(b)
			n, e := expect(new(big.Int).Add(x, y))
			check(t, "Add", value.Add, a, b, n, e)
			n, e = expect(new(big.Int).Sub(x, y))
			check(t, "Sub", value.Sub, a, b, n, e)
			n, e = expect(new(big.Int).Mul(x, y))
			check(t, "Mul", value.Mul, a, b, n, e)
		}
	}
}

func TestQuotientsRemainders(t *testing.T) {
	for _, a := range edges() {
		check(t, "Div", value.Div, a, 0, 0, api.ErrDivide)
		check(t, "Mod", value.Mod, a, 0, 0, api.ErrDivide)
		for _, b := range edges() {
			if b == 0 {
				continue
			}
			quotient, remainder := new(big.Int).QuoRem(big.NewInt(a), big.NewInt(b), new(big.Int))
			n, e := expect(quotient)
			check(t, "Div", value.Div, a, b, n, e)
			check(t, "Mod", value.Mod, a, b, remainder.Int64(), api.OK)
		}
	}
}

func TestNumbersOfTheDocument(t *testing.T) {
	const most, least = 1<<63 - 1, -1 << 63
	check(t, "Div", value.Div, -7, 2, -3, api.OK)
	check(t, "Mod", value.Mod, -7, 2, -1, api.OK)
	check(t, "Div", value.Div, 7, -2, -3, api.OK)
	check(t, "Mod", value.Mod, 7, -2, 1, api.OK)
	check(t, "Div", value.Div, least, -1, 0, api.ErrOverflow)
	check(t, "Mod", value.Mod, least, -1, 0, api.OK)
	check(t, "Add", value.Add, most, 1, 0, api.ErrOverflow)
	check(t, "Sub", value.Sub, 0, least, 0, api.ErrOverflow)
	check(t, "Mul", value.Mul, least, -1, 0, api.ErrOverflow)
	check(t, "Mul", value.Mul, least, 1, least, api.OK)
}

// P1.6

// asCount returns the number as which n counts.
func asCount(n int) *big.Int {
	return big.NewInt(int64(min(max(n, 0), 1<<62)))
}

func TestCounts(t *testing.T) {
	most := big.NewInt(1 << 62)
	capped := func(n *big.Int) int {
		if n.Cmp(most) > 0 {
			n = most
		}
		return int(n.Int64())
	}
	for _, x := range edges() {
		for _, y := range edges() {
			a, b := int(x), int(y)
			want := capped(new(big.Int).Add(asCount(a), asCount(b)))
			if n := value.Plus(a, b); n != want {
				t.Errorf("Plus(%d, %d) is %d, want %d", a, b, n, want)
			}
			want = capped(new(big.Int).Mul(asCount(a), asCount(b)))
			if n := value.Times(a, b); n != want {
				t.Errorf("Times(%d, %d) is %d, want %d", a, b, n, want)
			}
		}
	}
}

func TestCountsOfTheDocument(t *testing.T) {
	const most, least = 1<<63 - 1, -1 << 63
	for _, x := range []struct{ a, b, sum, product int }{
		{api.Cap, 1, api.Cap, api.Cap}, {api.Cap, 0, api.Cap, 0}, {api.Cap, api.Cap, api.Cap, api.Cap},
		{-5, 3, 3, 0}, {3, -5, 3, 0}, {-5, -5, 0, 0}, {least, most, api.Cap, 0}, {most, most, api.Cap, api.Cap}, {most, 1, api.Cap, api.Cap},
		{api.Cap - 1, 1, api.Cap, api.Cap - 1}, {api.Cap - 2, 1, api.Cap - 1, api.Cap - 2}, {1 << 31, 1<<31 - 1, 1<<32 - 1, api.Cap - 1<<31},
	} {
		if n := value.Plus(x.a, x.b); n != x.sum {
			t.Errorf("Plus(%d, %d) is %d, want %d", x.a, x.b, n, x.sum)
		}
		if n := value.Times(x.a, x.b); n != x.product {
			t.Errorf("Times(%d, %d) is %d, want %d", x.a, x.b, n, x.product)
		}
	}
}
