package tests

import (
	"fmt"
	"math"
	"math/big"
	"math/rand/v2"
	"slices"
	"sync"
	"testing"

	"loop.example/g00186/impl"
)

const (
	ringSize = 3329
	ringDeg  = 256
	mostPow  = 1000000000
)

func modelMod(n int, by int) int {
	return int(new(big.Int).Mod(big.NewInt(int64(n)), big.NewInt(int64(by))).Int64())
}

func modelPow(b int, e int) int {
	if e < 0 || e > mostPow {
		return 0
	}
	base := new(big.Int).Mod(big.NewInt(int64(b)), big.NewInt(ringSize))
	return int(base.Exp(base, big.NewInt(int64(e)), big.NewInt(ringSize)).Int64())
}

func modelPolyOk(p []int) bool {
	for _, n := range p {
		if n < 0 || n > ringSize-1 {
			return false
		}
	}
	return len(p) == ringDeg
}

func modelAdd(a, b []int) []int {
	if !modelPolyOk(a) || !modelPolyOk(b) {
		return nil
	}
	sum := make([]int, ringDeg)
	for i := range sum {
		if sum[i] = a[i] + b[i]; sum[i] >= ringSize {
			sum[i] -= ringSize
		}
	}
	return sum
}

func modelSub(a, b []int) []int {
	if !modelPolyOk(a) || !modelPolyOk(b) {
		return nil
	}
	rest := make([]int, ringDeg)
	for i := range rest {
		if rest[i] = a[i] - b[i]; rest[i] < 0 {
			rest[i] += ringSize
		}
	}
	return rest
}

// inOneNumber has each number of p in 64 bits of its own: the product of two such has their product, no number of which reaches 2^64.
func inOneNumber(p []int) *big.Int {
	whole := new(big.Int)
	for i, n := range p {
		whole.Add(whole, new(big.Int).Lsh(big.NewInt(int64(n)), uint(64*i)))
	}
	return whole
}

func modelMul(a, b []int) []int {
	if !modelPolyOk(a) || !modelPolyOk(b) {
		return nil
	}
	whole := new(big.Int).Mul(inOneNumber(a), inOneNumber(b))
	all := make([]int, 2*ringDeg)
	for i := range all {
		part := new(big.Int).Rsh(whole, uint(64*i))
		part.And(part, new(big.Int).SetUint64(math.MaxUint64))
		all[i] = int(part.Mod(part, big.NewInt(ringSize)).Int64())
	}
	return modelSub(all[:ringDeg], all[ringDeg:])
}

// modelFar goes both ways around step by step, until one number is met.
func modelFar(a, b []int) int {
	if !modelPolyOk(a) || !modelPolyOk(b) {
		return -1
	}
	most := 0
	for i := range a {
		steps := 0
		for up, down := a[i], a[i]; up != b[i] && down != b[i]; steps++ {
			up, down = (up+1)%ringSize, (down+ringSize-1)%ringSize
		}
		most = max(most, steps)
	}
	return most
}

// modelTurn7 is written in figures of 2, turned and read again.
func modelTurn7(n int) int {
	figures := []byte(fmt.Sprintf("%07b", modelMod(n, 128)))
	slices.Reverse(figures)
	var turned int
	fmt.Sscanf(string(figures), "%b", &turned)
	return turned
}

func tellPoly(p []int) string {
	if len(p) > 6 {
		return fmt.Sprintf("%d numbers %v .. %v", len(p), p[:3], p[len(p)-3:])
	}
	return fmt.Sprintf("%d numbers %v", len(p), p)
}

func onePower(n int, i int) []int {
	p := make([]int, ringDeg)
	p[i] = n
	return p
}

func eachNumber(n int) []int {
	return slices.Repeat([]int{n}, ringDeg)
}

func drawPoly(draw *rand.Rand) []int {
	p := make([]int, ringDeg)
	for i := range p {
		p[i] = draw.IntN(ringSize)
	}
	return p
}

func ringNumbers() []int {
	return []int{0, 1, 2, 3, 1663, 1664, 1665, 1666, ringSize - 3, ringSize - 2, ringSize - 1}
}

func numbersNotOfTheRing() []int {
	return []int{-1, -2, -3, -ringSize, 1 - ringSize, ringSize, ringSize + 1, ringSize + 2, 2 * ringSize, 1 << 32, 1<<32 + 1, math.MinInt64, math.MaxInt64}
}

func rightPolys() [][]int {
	draw := rand.New(rand.NewPCG(9, 1))
	var list [][]int
	for _, n := range ringNumbers() {
		list = append(list, eachNumber(n), onePower(n, 0), onePower(n, ringDeg-1))
	}
	for _, i := range []int{1, 2, 127, 128, 129, 254, 255} {
		list = append(list, onePower(1, i), onePower(ringSize-1, i))
	}
	upwards := make([]int, ringDeg)
	for i := range upwards {
		upwards[i] = 13 * i
	}
	list = append(list, upwards)
	for range 6 {
		list = append(list, drawPoly(draw))
	}
	return list
}

func wrongPolys() [][]int {
	list := [][]int{nil, {}, {0}, {1}, make([]int, 128), make([]int, 254), make([]int, 255), make([]int, 257), make([]int, 258), make([]int, 512)}
	list = append(list, eachNumber(-1), eachNumber(ringSize), eachNumber(1)[:255], append(eachNumber(1), 1))
	for _, n := range numbersNotOfTheRing() {
		for _, i := range []int{0, 1, 127, 128, 254, 255} {
			p := eachNumber(5)
			p[i] = n
			list = append(list, p)
		}
	}
	return list
}

func listsShare[E any](a, b []E) bool {
	a, b = a[:cap(a)], b[:cap(b)]
	for i := range a {
		for j := range b {
			if &a[i] == &b[j] {
				return true
			}
		}
	}
	return false
}

// expectPoly asks of one of the three functions what its model answers, in new memory, and that it leaves its arguments alone.
func expectPoly(t *testing.T, what string, ask, model func(a, b []int) []int, a, b []int) []int {
	t.Helper()
	first, firstStays := guarded(a, 7)
	other, otherStays := guarded(b, 7)
	got, want := ask(first, other), model(a, b)
	if !slices.Equal(got, want) {
		t.Errorf("%s of %s and %s = %s, want %s", what, tellPoly(a), tellPoly(b), tellPoly(got), tellPoly(want))
	}
	if !firstStays() || !otherStays() {
		t.Errorf("%s of %s and %s writes into an argument", what, tellPoly(a), tellPoly(b))
	}
	if len(got) > 0 && !impl.PolyOk(got) {
		t.Errorf("%s of %s and %s = %s, which is not right", what, tellPoly(a), tellPoly(b), tellPoly(got))
	}
	return got
}

func expectAdd(t *testing.T, a, b []int) []int {
	t.Helper()
	return expectPoly(t, "PolyAdd", impl.PolyAdd, modelAdd, a, b)
}

func expectSub(t *testing.T, a, b []int) []int {
	t.Helper()
	return expectPoly(t, "PolySub", impl.PolySub, modelSub, a, b)
}

func expectMul(t *testing.T, a, b []int) []int {
	t.Helper()
	return expectPoly(t, "PolyMul", impl.PolyMul, modelMul, a, b)
}

func expectFar(t *testing.T, a, b []int) int {
	t.Helper()
	first, firstStays := guarded(a, 7)
	other, otherStays := guarded(b, 7)
	got := impl.Far(first, other)
	if want := modelFar(a, b); got != want {
		t.Errorf("Far of %s and %s = %d, want %d", tellPoly(a), tellPoly(b), got, want)
	}
	if !firstStays() || !otherStays() {
		t.Errorf("Far of %s and %s writes into an argument", tellPoly(a), tellPoly(b))
	}
	return got
}

func expectSamePoly(t *testing.T, what string, got, want []int) {
	t.Helper()
	if len(got) != ringDeg || !slices.Equal(got, want) {
		t.Errorf("%s: %s and %s", what, tellPoly(got), tellPoly(want))
	}
}

func TestTheRingsConstants(t *testing.T) {
	if impl.Q != ringSize || impl.Deg != ringDeg {
		t.Errorf("Q = %d, Deg = %d, want %d, %d", impl.Q, impl.Deg, ringSize, ringDeg)
	}
}

func powBases() []int {
	list := []int{math.MinInt64, math.MinInt64 + 1, math.MaxInt64, math.MaxInt64 - 1, 1 << 31, 1 << 32, -1 << 32, 17, -17, 1000, -1000, 1000000007}
	for d := -2; d <= 2; d++ {
		list = append(list, d, ringSize+d, -ringSize+d, 2*ringSize+d, -2*ringSize+d, ringSize*ringSize+d)
	}
	return list
}

func TestPowQ(t *testing.T) {
	exponents := []int{0, 1, 2, 3, 4, 127, 128, 255, 256, 257, ringSize - 2, ringSize - 1, ringSize, ringSize + 1, 1 << 29, 1<<29 - 1, mostPow - 1, mostPow}
	for _, b := range powBases() {
		for _, e := range exponents {
			if got, want := impl.PowQ(b, e), modelPow(b, e); got != want {
				t.Errorf("PowQ(%d, %d) = %d, want %d", b, e, got, want)
			}
		}
	}
	for b := range ringSize {
		for _, e := range []int{0, 1, 2, 5, ringSize - 2, ringSize - 1, mostPow} {
			if got, want := impl.PowQ(b, e), modelPow(b, e); got != want {
				t.Errorf("PowQ(%d, %d) = %d, want %d", b, e, got, want)
			}
		}
	}
}

func TestPowQByHand(t *testing.T) {
	for _, c := range [][3]int{
		{0, 0, 1}, {0, 1, 0}, {0, mostPow, 0}, {1, 0, 1}, {1, mostPow, 1}, {-5, 0, 1}, {math.MinInt64, 0, 1},
		{ringSize, 0, 1}, {ringSize, 1, 0}, {ringSize, 2, 0}, {ringSize + 1, 7, 1}, {ringSize - 1, 1, ringSize - 1}, {ringSize - 1, 2, 1},
		{-1, 1, ringSize - 1}, {-1, 2, 1}, {-1, 3, ringSize - 1}, {-1, mostPow, 1}, {-2, 1, ringSize - 2}, {-2, 3, ringSize - 8}, {-ringSize, 1, 0},
		{2, 11, 2048}, {2, 12, 4096 - ringSize}, {17, 128, ringSize - 1}, {17, 256, 1}, {3303, 1, 3303}, {3, ringSize - 1, 1}, {3, ringSize, 3},
	} {
		if got := impl.PowQ(c[0], c[1]); got != c[2] {
			t.Errorf("PowQ(%d, %d) = %d, want %d", c[0], c[1], got, c[2])
		}
	}
}

func TestPowQRefuses(t *testing.T) {
	for _, b := range append(powBases(), 0, 1, 2) {
		for _, e := range []int{-1, -2, -256, math.MinInt64, math.MinInt64 + 1, mostPow + 1, mostPow + 2, 2 * mostPow, 1 << 32, math.MaxInt64} {
			if got := impl.PowQ(b, e); got != 0 {
				t.Errorf("PowQ(%d, %d) = %d, want 0", b, e, got)
			}
		}
	}
}

func TestPolyOk(t *testing.T) {
	for _, p := range rightPolys() {
		given, stays := guarded(p, -1)
		if !impl.PolyOk(given) || !stays() {
			t.Errorf("PolyOk of %s = false, or writes into it", tellPoly(p))
		}
	}
	for _, p := range wrongPolys() {
		given, stays := guarded(p, 0)
		if impl.PolyOk(given) || !stays() {
			t.Errorf("PolyOk of %s = true, or writes into it", tellPoly(p))
		}
	}
	for i := range ringDeg {
		for n := -2; n <= 2; n++ {
			if got := impl.PolyOk(onePower(n, i)); got != (n >= 0) {
				t.Errorf("PolyOk of %d at %d = %v", n, i, got)
			}
			if got := impl.PolyOk(onePower(ringSize+n, i)); got != (n < 0) {
				t.Errorf("PolyOk of %d at %d = %v", ringSize+n, i, got)
			}
		}
	}
	for size := range 2*ringDeg + 2 {
		if got := impl.PolyOk(make([]int, size)); got != (size == ringDeg) {
			t.Errorf("PolyOk of %d zeros = %v", size, got)
		}
	}
}

func TestSumsAndDifferencesOfNumbers(t *testing.T) {
	for _, x := range ringNumbers() {
		for _, y := range ringNumbers() {
			expectAdd(t, eachNumber(x), eachNumber(y))
			expectSub(t, eachNumber(x), eachNumber(y))
		}
	}
	for x := range ringSize {
		a, b := make([]int, ringDeg), make([]int, ringDeg)
		for i := range a {
			a[i], b[i] = x, (13*i+x)%ringSize
		}
		expectAdd(t, a, b)
		expectSub(t, a, b)
		expectSub(t, b, a)
	}
}

func TestSumsAndDifferencesByHand(t *testing.T) {
	a, b := onePower(5, 0), onePower(7, 0)
	a[9], b[9] = ringSize-1, 1
	a[255], b[255] = ringSize-1, ringSize-1
	sum, rest, other := expectAdd(t, a, b), expectSub(t, a, b), expectSub(t, b, a)
	for _, c := range [][4]int{{0, 12, ringSize - 2, 2}, {1, 0, 0, 0}, {9, 0, ringSize - 2, 2}, {255, ringSize - 2, 0, 0}} {
		if i := c[0]; sum[i] != c[1] || rest[i] != c[2] || other[i] != c[3] {
			t.Errorf("at %d: sum %d, differences %d and %d, want %v", i, sum[i], rest[i], other[i], c[1:])
		}
	}
}

func TestProductsOfPowers(t *testing.T) {
	for i := range ringDeg {
		for _, j := range []int{0, 1, 2, 127, 128, 129, 254, 255, 254 - i, 255 - i, 256 - i, 257 - i} {
			j = (j + ringDeg) % ringDeg
			want := onePower(6, (i+j)%ringDeg)
			if i+j >= ringDeg {
				want = onePower(ringSize-6, i+j-ringDeg)
			}
			expectSamePoly(t, fmt.Sprintf("2 X to %d times 3 X to %d", i, j), impl.PolyMul(onePower(2, i), onePower(3, j)), want)
		}
	}
}

func TestProductsOfNumbers(t *testing.T) {
	for _, x := range ringNumbers() {
		for _, y := range ringNumbers() {
			expectMul(t, eachNumber(x), eachNumber(y))
			for _, i := range []int{0, 1, 128, 255} {
				expectMul(t, onePower(x, i), eachNumber(y))
				expectMul(t, onePower(x, i), onePower(y, 255))
			}
		}
	}
}

func TestProductsOfPolys(t *testing.T) {
	for _, a := range rightPolys() {
		for _, b := range rightPolys() {
			expectMul(t, a, b)
		}
	}
}

// What goes beyond Deg comes back with the other sign: so does what is turned by X to 128 twice, or once by X and once by X to 255.
func TestSignsThatComeBack(t *testing.T) {
	for _, p := range rightPolys() {
		minus := impl.PolySub(make([]int, ringDeg), p)
		expectSamePoly(t, "times 1", impl.PolyMul(p, onePower(1, 0)), p)
		expectSamePoly(t, "times Q - 1", impl.PolyMul(p, onePower(ringSize-1, 0)), minus)
		expectSamePoly(t, "times 0", impl.PolyMul(p, make([]int, ringDeg)), make([]int, ringDeg))
		byX := append([]int{minus[255]}, p[:255]...)
		expectSamePoly(t, "times X", impl.PolyMul(p, onePower(1, 1)), byX)
		half := onePower(1, 128)
		expectSamePoly(t, "times X to 128", impl.PolyMul(p, half), slices.Concat(minus[128:], p[:128]))
		expectSamePoly(t, "times X to 128 twice", impl.PolyMul(impl.PolyMul(p, half), half), minus)
		last := onePower(1, 255)
		expectSamePoly(t, "times X to 255", impl.PolyMul(p, last), append(slices.Clone(minus[1:]), p[0]))
		expectSamePoly(t, "times X to 255 and X", impl.PolyMul(impl.PolyMul(p, last), onePower(1, 1)), minus)
	}
	expectSamePoly(t, "X to 255 by itself", impl.PolyMul(onePower(1, 255), onePower(1, 255)), onePower(ringSize-1, 254))
	expectSamePoly(t, "Q - 1 times X to 255 by itself", impl.PolyMul(onePower(ringSize-1, 255), onePower(ringSize-1, 255)), onePower(ringSize-1, 254))
}

// Promise 9: the laws of a ring, of any three.
func expectRing(t *testing.T, a, b, c []int) {
	t.Helper()
	sum, product := impl.PolyAdd(a, b), impl.PolyMul(a, b)
	expectSamePoly(t, "a sum in both orders", sum, impl.PolyAdd(b, a))
	expectSamePoly(t, "a product in both orders", product, impl.PolyMul(b, a))
	expectSamePoly(t, "a sum of three", impl.PolyAdd(sum, c), impl.PolyAdd(a, impl.PolyAdd(b, c)))
	expectSamePoly(t, "a product of three", impl.PolyMul(product, c), impl.PolyMul(a, impl.PolyMul(b, c)))
	throughSum := impl.PolyAdd(impl.PolyMul(a, c), impl.PolyMul(b, c))
	expectSamePoly(t, "the product of a sum", impl.PolyMul(sum, c), throughSum)
	expectSamePoly(t, "the product with a sum", impl.PolyMul(c, sum), throughSum)
	throughRest := impl.PolySub(impl.PolyMul(a, c), impl.PolyMul(b, c))
	expectSamePoly(t, "the product of a difference", impl.PolyMul(impl.PolySub(a, b), c), throughRest)
	expectSamePoly(t, "a sum from which one is taken away", impl.PolySub(sum, b), a)
	expectSamePoly(t, "a sum from which the other is taken away", impl.PolySub(sum, a), b)
	expectSamePoly(t, "a difference to which one is given back", impl.PolyAdd(impl.PolySub(a, b), b), a)
	none := make([]int, ringDeg)
	expectSamePoly(t, "one less itself", impl.PolySub(a, a), none)
	expectSamePoly(t, "one less none", impl.PolySub(a, none), a)
	expectSamePoly(t, "one and none", impl.PolyAdd(a, none), a)
	expectSamePoly(t, "none less a difference", impl.PolySub(none, impl.PolySub(a, b)), impl.PolySub(b, a))
}

func TestPolysAreARing(t *testing.T) {
	list := rightPolys()
	for i, a := range list {
		for _, b := range list {
			expectRing(t, a, b, list[(7*i+3)%len(list)])
		}
	}
	draw := rand.New(rand.NewPCG(9, 3))
	for range 100 {
		a, b, c := drawPoly(draw), drawPoly(draw), drawPoly(draw)
		expectRing(t, a, b, c)
		expectAdd(t, a, b)
		expectSub(t, a, b)
		expectMul(t, a, b)
		expectFar(t, a, b)
	}
}

func TestWrongPolys(t *testing.T) {
	for _, wrong := range wrongPolys() {
		for _, other := range append(wrongPolys()[:16], onePower(1, 0), eachNumber(5), make([]int, ringDeg)) {
			for _, pair := range [][2][]int{{wrong, other}, {other, wrong}} {
				sum, rest, product := expectAdd(t, pair[0], pair[1]), expectSub(t, pair[0], pair[1]), expectMul(t, pair[0], pair[1])
				if len(sum)+len(rest)+len(product) != 0 || expectFar(t, pair[0], pair[1]) != -1 {
					t.Errorf("%s and %s: a sum, difference, product or distance is answered", tellPoly(pair[0]), tellPoly(pair[1]))
				}
			}
		}
	}
}

func TestTurn7(t *testing.T) {
	seen := make(map[int]int)
	for n := range 128 {
		got := impl.Turn7(n)
		if want := modelTurn7(n); got != want {
			t.Errorf("Turn7(%d) = %d, want %d", n, got, want)
		}
		if twice := impl.Turn7(got); twice != n {
			t.Errorf("Turn7 of Turn7(%d) = %d", n, twice)
		}
		seen[got]++
	}
	if len(seen) != 128 {
		t.Errorf("Turn7 of 0 .. 127 has %d numbers, want 128", len(seen))
	}
	for n := -1000; n <= 1000; n++ {
		if got, want := impl.Turn7(n), modelTurn7(n); got != want {
			t.Errorf("Turn7(%d) = %d, want %d", n, got, want)
		}
	}
	for _, n := range append(powBases(), 1<<7, 1<<8, 1<<15, 1<<16, 1<<62, -1<<62) {
		if got, want := impl.Turn7(n), modelTurn7(n); got != want {
			t.Errorf("Turn7(%d) = %d, want %d", n, got, want)
		}
	}
}

func TestTurn7ByHand(t *testing.T) {
	for _, c := range [][2]int{
		{0, 0}, {1, 64}, {2, 32}, {3, 96}, {4, 16}, {8, 8}, {16, 4}, {32, 2}, {63, 126}, {64, 1}, {65, 65}, {126, 63}, {127, 127},
		{128, 0}, {129, 64}, {255, 127}, {256, 0}, {-1, 127}, {-2, 63}, {-64, 1}, {-127, 64}, {-128, 0}, {-129, 127}, {math.MinInt64, 0}, {math.MaxInt64, 127},
	} {
		if got := impl.Turn7(c[0]); got != c[1] {
			t.Errorf("Turn7(%d) = %d, want %d", c[0], got, c[1])
		}
	}
}

func TestFarByHand(t *testing.T) {
	for _, c := range [][3]int{
		{0, 0, 0}, {5, 5, 0}, {0, 1, 1}, {0, ringSize - 1, 1}, {1, ringSize - 1, 2}, {2, ringSize - 3, 5}, {100, 3300, 129},
		{0, 1663, 1663}, {0, 1664, 1664}, {0, 1665, 1664}, {0, 1666, 1663}, {1000, 2664, 1664}, {1000, 2665, 1664}, {ringSize - 1, 1663, 1664}, {ringSize - 1, 1664, 1664}, {ringSize - 1, 1665, 1663},
	} {
		for _, i := range []int{0, 1, 128, 254, 255} {
			a, b := eachNumber(9), eachNumber(9)
			a[i], b[i] = c[0], c[1]
			if got, back := expectFar(t, a, b), expectFar(t, b, a); got != c[2] || back != c[2] {
				t.Errorf("%d and %d at %d are %d and, from the other side, %d apart, want %d", c[0], c[1], i, got, back, c[2])
			}
		}
	}
}

func TestFarIsTheGreatest(t *testing.T) {
	a, b := make([]int, ringDeg), make([]int, ringDeg)
	for i := range b {
		b[i] = i
	}
	if got := expectFar(t, a, b); got != 255 {
		t.Errorf("Far = %d, want 255", got)
	}
	b[255] = ringSize - 254
	if got := expectFar(t, a, b); got != 254 {
		t.Errorf("Far = %d, want 254", got)
	}
	b[100] = 1664
	if got := expectFar(t, b, a); got != 1664 {
		t.Errorf("Far = %d, want 1664", got)
	}
}

func TestFarOfAllDifferences(t *testing.T) {
	for n := range ringSize {
		for _, from := range []int{0, 1, 1700, ringSize - 1} {
			a, b := eachNumber(from), eachNumber((from+n)%ringSize)
			got, back := impl.Far(a, b), impl.Far(b, a)
			if want := min(n, ringSize-n); got != want || back != want || got > ringSize/2 {
				t.Errorf("Far of %d and %d = %d, from the other side %d, want %d", a[0], b[0], got, back, want)
			}
		}
	}
	list := rightPolys()
	for _, a := range list {
		if got := expectFar(t, a, slices.Clone(a)); got != 0 {
			t.Errorf("%s is %d from itself", tellPoly(a), got)
		}
		for _, b := range list {
			if got := expectFar(t, a, b); got > ringSize/2 || got != impl.Far(b, a) {
				t.Errorf("Far of %s and %s = %d, from the other side %d", tellPoly(a), tellPoly(b), got, impl.Far(b, a))
			}
		}
	}
}

func TestPolysShareNoMemory(t *testing.T) {
	draw := rand.New(rand.NewPCG(9, 4))
	for _, ask := range []func(a, b []int) []int{impl.PolyAdd, impl.PolySub, impl.PolyMul} {
		for _, b := range [][]int{make([]int, ringDeg), onePower(1, 0), drawPoly(draw)} {
			a := drawPoly(draw)
			first, again := ask(a, b), ask(a, b)
			if listsShare(first, a) || listsShare(first, b) || listsShare(first, again) {
				t.Errorf("an answer shares memory with an argument or with another answer")
			}
		}
	}
}

// One list may be both arguments, or the two may lie over each other.
func TestPolysThatAreOneAnother(t *testing.T) {
	draw := rand.New(rand.NewPCG(9, 5))
	long := append(drawPoly(draw), drawPoly(draw)...)
	was := slices.Clone(long)
	for _, pair := range [][2][]int{{long[:256], long[:256]}, {long[:256], long[1:257]}, {long[1:257], long[:256]}, {long[:256], long[256:]}} {
		a, b := slices.Clone(pair[0]), slices.Clone(pair[1])
		expectSamePoly(t, "a sum", impl.PolyAdd(pair[0], pair[1]), modelAdd(a, b))
		expectSamePoly(t, "a difference", impl.PolySub(pair[0], pair[1]), modelSub(a, b))
		expectSamePoly(t, "a product", impl.PolyMul(pair[0], pair[1]), modelMul(a, b))
		if got, want := impl.Far(pair[0], pair[1]), modelFar(a, b); got != want {
			t.Errorf("Far = %d, want %d", got, want)
		}
		if !slices.Equal(long, was) {
			t.Errorf("an argument is written into")
		}
	}
}

func TestPolysLeaveNothingBehind(t *testing.T) {
	draw := rand.New(rand.NewPCG(9, 6))
	a, b := drawPoly(draw), drawPoly(draw)
	want := modelMul(a, b)
	var callers sync.WaitGroup
	for range 8 {
		callers.Go(func() {
			for range 10 {
				impl.PolyAdd(b, a)
				impl.PolyMul(a, eachNumber(-1))
				expectSamePoly(t, "a product among many", impl.PolyMul(a, b), want)
			}
		})
	}
	callers.Wait()
}
