package tests

import (
	"fmt"
	"math/rand/v2"
	"slices"
	"sync"
	"testing"

	"loop.example/g00186/impl"
)

// modelNtt is the chapter's text, word by word.
func modelNtt(given []int) []int {
	if !modelPolyOk(given) {
		return nil
	}
	p := slices.Clone(given)
	k := 1
	for _, length := range []int{128, 64, 32, 16, 8, 4, 2} {
		for start := 0; start < ringDeg; start += 2 * length {
			z := modelPow(17, modelTurn7(k))
			k = k + 1
			for j := start; j <= start+length-1; j++ {
				t := z * p[j+length]
				p[j+length] = modelMod(p[j]-t, ringSize)
				p[j] = modelMod(p[j]+t, ringSize)
			}
		}
	}
	return p
}

func modelInvNtt(given []int) []int {
	if !modelPolyOk(given) {
		return nil
	}
	p := slices.Clone(given)
	k := 127
	for _, length := range []int{2, 4, 8, 16, 32, 64, 128} {
		for start := 0; start < ringDeg; start += 2 * length {
			z := modelPow(17, modelTurn7(k))
			k = k - 1
			for j := start; j <= start+length-1; j++ {
				t := p[j]
				p[j] = modelMod(t+p[j+length], ringSize)
				p[j+length] = modelMod(z*(p[j+length]-t), ringSize)
			}
		}
	}
	for i := range p {
		p[i] = modelMod(p[i]*3303, ringSize)
	}
	return p
}

func modelMulNtt(a, b []int) []int {
	if !modelPolyOk(a) || !modelPolyOk(b) {
		return nil
	}
	c := make([]int, ringDeg)
	for i := 0; i <= 127; i++ {
		g := modelPow(17, 2*modelTurn7(i)+1)
		c[2*i] = modelMod(a[2*i]*b[2*i]+a[2*i+1]*b[2*i+1]*g, ringSize)
		c[2*i+1] = modelMod(a[2*i]*b[2*i+1]+a[2*i+1]*b[2*i], ringSize)
	}
	return c
}

// pairNumbers are written out, as 17 to the odd powers in the order of turned bits: each second one is the one ahead of it with the other sign.
func pairNumbers() []int {
	var list []int
	for _, g := range []int{
		17, 2761, 583, 2649, 1637, 723, 2288, 1100, 1409, 2662, 3281, 233, 756, 2156, 3015, 3050,
		1703, 1651, 2789, 1789, 1847, 952, 1461, 2687, 939, 2308, 2437, 2388, 733, 2337, 268, 641,
		1584, 2298, 2037, 3220, 375, 2549, 2090, 1645, 1063, 319, 2773, 757, 2099, 561, 2466, 2594,
		2804, 1092, 403, 1026, 1143, 2150, 2775, 886, 1722, 1212, 1874, 1029, 2110, 2935, 885, 2154,
	} {
		list = append(list, g, ringSize-g)
	}
	return list
}

// nttByRests has no lengths and no turned bits: the pair i of a transform is what is left of the polynomial modulo X^2 - g, that is, with g in the place of X^2.
func nttByRests(p []int) []int {
	var list []int
	for _, g := range pairNumbers() {
		even, odd := 0, 0
		for i := ringDeg - 2; i >= 0; i -= 2 {
			even, odd = (even*g+p[i])%ringSize, (odd*g+p[i+1])%ringSize
		}
		list = append(list, even, odd)
	}
	return list
}

func expectOne(t *testing.T, what string, ask, model func(p []int) []int, p []int) []int {
	t.Helper()
	given, stays := guarded(p, 7)
	got, want := ask(given), model(p)
	if !slices.Equal(got, want) {
		t.Errorf("%s of %s = %s, want %s", what, tellPoly(p), tellPoly(got), tellPoly(want))
	}
	if !stays() {
		t.Errorf("%s of %s writes into its argument", what, tellPoly(p))
	}
	if len(got) > 0 && !impl.PolyOk(got) {
		t.Errorf("%s of %s = %s, which is not right", what, tellPoly(p), tellPoly(got))
	}
	return got
}

func expectNtt(t *testing.T, p []int) []int {
	t.Helper()
	return expectOne(t, "Ntt", impl.Ntt, modelNtt, p)
}

func expectInvNtt(t *testing.T, p []int) []int {
	t.Helper()
	return expectOne(t, "InvNtt", impl.InvNtt, modelInvNtt, p)
}

func expectMulNtt(t *testing.T, a, b []int) []int {
	t.Helper()
	return expectPoly(t, "MulNtt", impl.MulNtt, modelMulNtt, a, b)
}

// nttEdges are the polynomials at whose edges a place, a sign or a number that is one off is seen.
func nttEdges() [][]int {
	list := [][]int{make([]int, ringDeg), eachNumber(1), eachNumber(ringSize - 1)}
	for _, i := range []int{0, 1, 2, 3, 127, 128, 129, 254, 255} {
		list = append(list, onePower(1, i), onePower(ringSize-1, i))
	}
	for _, first := range []int{0, 1, ringSize - 1} {
		for _, last := range []int{0, 1, ringSize - 1} {
			p := eachNumber(5)
			p[0], p[255] = first, last
			list = append(list, p)
		}
	}
	return list
}

func nttPolys() [][]int {
	return append(nttEdges(), rightPolys()...)
}

// evenOdd has one number at all even places, and one at all odd places.
func evenOdd(even, odd int) []int {
	return slices.Repeat([]int{even, odd}, ringDeg/2)
}

func TestTransformsByTheChapter(t *testing.T) {
	for _, p := range nttPolys() {
		expectNtt(t, p)
		expectInvNtt(t, p)
	}
	for i := range ringDeg {
		for _, n := range []int{1, 2, ringSize - 1} {
			expectNtt(t, onePower(n, i))
			expectInvNtt(t, onePower(n, i))
		}
	}
	draw := rand.New(rand.NewPCG(10, 1))
	for range 100 {
		expectNtt(t, drawPoly(draw))
		expectInvNtt(t, drawPoly(draw))
	}
}

func TestPairProductsByTheChapter(t *testing.T) {
	list := nttPolys()
	for _, a := range list {
		for _, b := range list {
			expectMulNtt(t, a, b)
		}
	}
	for i := range ringDeg {
		for _, j := range []int{i, i ^ 1, (i + 1) % ringDeg, (i + 2) % ringDeg} {
			expectMulNtt(t, onePower(ringSize-1, i), onePower(ringSize-1, j))
			expectMulNtt(t, onePower(2, i), onePower(3, j))
		}
	}
}

func TestTransformsAreRests(t *testing.T) {
	for _, p := range nttPolys() {
		expectSamePoly(t, "a transform and the rests", impl.Ntt(p), nttByRests(p))
		expectSamePoly(t, "the rests and back", impl.InvNtt(nttByRests(p)), p)
	}
	for i := range ringDeg {
		p := onePower(1, i)
		expectSamePoly(t, fmt.Sprintf("X to %d", i), impl.Ntt(p), nttByRests(p))
		expectSamePoly(t, fmt.Sprintf("X to %d and back", i), impl.InvNtt(nttByRests(p)), p)
	}
}

func TestTransformsByHand(t *testing.T) {
	half := func(n, other int) []int { return slices.Concat(evenOdd(n, 0)[:128], evenOdd(other, 0)[128:]) }
	squares, last := make([]int, ringDeg), make([]int, ringDeg)
	for i, g := range pairNumbers() {
		squares[2*i] = g
		// g to the 128 is -1, so that g to the 127 is -1 by g.
		last[2*i+1] = ringSize - modelPow(g, ringSize-2)
	}
	for _, c := range []struct {
		what string
		p    []int
		want []int
	}{
		{"0", make([]int, ringDeg), make([]int, ringDeg)},
		{"1", onePower(1, 0), evenOdd(1, 0)},
		{"-1", onePower(ringSize-1, 0), evenOdd(ringSize-1, 0)},
		{"X", onePower(1, 1), evenOdd(0, 1)},
		{"X less 1", impl.PolySub(onePower(1, 1), onePower(1, 0)), evenOdd(ringSize-1, 1)},
		{"X to 2", onePower(1, 2), squares},
		{"X to 128", onePower(1, 128), half(1729, 1600)},
		{"-1 times X to 128", onePower(ringSize-1, 128), half(1600, 1729)},
		{"X to 255", onePower(1, 255), last},
	} {
		expectSamePoly(t, "Ntt of "+c.what, impl.Ntt(c.p), c.want)
		expectSamePoly(t, "InvNtt to "+c.what, impl.InvNtt(c.want), c.p)
	}
	expectSamePoly(t, "X by X", impl.MulNtt(evenOdd(0, 1), evenOdd(0, 1)), squares)
	expectSamePoly(t, "1 and X, by itself", impl.MulNtt(evenOdd(1, 1), evenOdd(1, 1)), impl.PolyAdd(squares, evenOdd(1, 2)))
}

func TestPairsByHand(t *testing.T) {
	for _, c := range [][7]int{
		{0, 0, 1, 0, 1, 17, 0}, {0, 1, 0, 1, 0, 1, 0}, {0, 1, 0, 0, 1, 0, 1}, {0, 2, 3, 5, 7, 10 + 21*17, 29},
		{0, ringSize - 1, ringSize - 1, ringSize - 1, ringSize - 1, 18, 2}, {0, ringSize - 1, ringSize - 1, 1, 1, ringSize - 18, ringSize - 2},
		{2, 0, 1, 0, 1, ringSize - 17, 0}, {4, 0, 1, 0, 1, 2761, 0}, {6, 0, 1, 0, 1, ringSize - 2761, 0},
		{254, 0, 1, 0, 1, ringSize - 2154, 0}, {254, 1, 1, 1, 1, 1 + ringSize - 2154, 2}, {254, 0, ringSize - 1, 0, 1, 2154, 0},
	} {
		i := c[0]
		a, b := make([]int, ringDeg), make([]int, ringDeg)
		a[i], a[i+1], b[i], b[i+1] = c[1], c[2], c[3], c[4]
		want := make([]int, ringDeg)
		want[i], want[i+1] = c[5], c[6]
		expectSamePoly(t, fmt.Sprintf("the pairs %v at %d", c[1:5], i), impl.MulNtt(a, b), want)
	}
}

// Promise 10, first half; each list of right numbers is a transform, too.
func TestTransformedAndBack(t *testing.T) {
	list := nttPolys()
	for i := range ringDeg {
		list = append(list, onePower(1, i), onePower(ringSize-1, i))
	}
	for n := range ringSize {
		list = append(list, eachNumber(n))
	}
	draw := rand.New(rand.NewPCG(10, 2))
	for range 300 {
		list = append(list, drawPoly(draw))
	}
	for _, p := range list {
		expectSamePoly(t, "transformed and back", impl.InvNtt(impl.Ntt(p)), p)
		expectSamePoly(t, "back and transformed", impl.Ntt(impl.InvNtt(p)), p)
	}
}

// Promise 10, second half, in both orders.
func expectProduct(t *testing.T, a, b []int) {
	t.Helper()
	product := impl.PolyMul(a, b)
	first, other := impl.Ntt(a), impl.Ntt(b)
	expectSamePoly(t, "a product by transforms", impl.MulNtt(first, other), impl.Ntt(product))
	expectSamePoly(t, "a product by transforms in the other order", impl.MulNtt(other, first), impl.Ntt(product))
	expectSamePoly(t, "a product by transforms and back", impl.InvNtt(impl.MulNtt(first, other)), product)
	expectSamePoly(t, "a product by transforms and back in the other order", impl.InvNtt(impl.MulNtt(other, first)), impl.PolyMul(b, a))
	expectSamePoly(t, "a product of what is taken back", impl.PolyMul(impl.InvNtt(a), impl.InvNtt(b)), impl.InvNtt(impl.MulNtt(a, b)))
}

func TestProductsByTransforms(t *testing.T) {
	list := nttPolys()
	for _, a := range list {
		for _, b := range list {
			expectProduct(t, a, b)
		}
	}
	draw := rand.New(rand.NewPCG(10, 3))
	for i := range ringDeg {
		expectProduct(t, onePower(1, i), drawPoly(draw))
		expectProduct(t, onePower(3, i), onePower(ringSize-1, ringDeg-1-i))
		expectProduct(t, onePower(3, i), onePower(ringSize-1, (ringDeg-i)%ringDeg))
		expectProduct(t, drawPoly(draw), drawPoly(draw))
	}
}

// expectThroughSums asks that transforms and their products go through sums and differences.
func expectThroughSums(t *testing.T, a, b, c []int) {
	t.Helper()
	first, other, by := impl.Ntt(a), impl.Ntt(b), impl.Ntt(c)
	sum, rest := impl.PolyAdd(a, b), impl.PolySub(a, b)
	sums, rests := impl.PolyAdd(first, other), impl.PolySub(first, other)
	expectSamePoly(t, "the transform of a sum", impl.Ntt(sum), sums)
	expectSamePoly(t, "the transform of a difference", impl.Ntt(rest), rests)
	expectSamePoly(t, "a sum of transforms taken back", impl.InvNtt(sums), sum)
	expectSamePoly(t, "a difference of transforms taken back", impl.InvNtt(rests), rest)
	expectSamePoly(t, "a sum taken back", impl.InvNtt(sum), impl.PolyAdd(impl.InvNtt(a), impl.InvNtt(b)))
	products := impl.PolyAdd(impl.MulNtt(first, by), impl.MulNtt(other, by))
	expectSamePoly(t, "the product of a sum of transforms", impl.MulNtt(sums, by), products)
	expectSamePoly(t, "the product with a sum of transforms", impl.MulNtt(by, sums), products)
	expectSamePoly(t, "the product of a sum", impl.InvNtt(products), impl.PolyMul(sum, c))
	expectSamePoly(t, "the product of a difference of transforms", impl.InvNtt(impl.MulNtt(rests, by)), impl.PolyMul(rest, c))
	threefold := impl.MulNtt(impl.MulNtt(first, other), by)
	expectSamePoly(t, "a product of three transforms", threefold, impl.MulNtt(first, impl.MulNtt(other, by)))
	expectSamePoly(t, "a product of three", impl.InvNtt(threefold), impl.PolyMul(impl.PolyMul(a, b), c))
}

func TestTransformsGoThroughSums(t *testing.T) {
	list := nttPolys()
	for i, a := range list {
		for _, b := range list {
			expectThroughSums(t, a, b, list[(5*i+2)%len(list)])
		}
	}
	draw := rand.New(rand.NewPCG(10, 4))
	for range 100 {
		expectThroughSums(t, drawPoly(draw), drawPoly(draw), drawPoly(draw))
	}
}

func TestNeutralTransforms(t *testing.T) {
	none, one := make([]int, ringDeg), evenOdd(1, 0)
	for _, p := range nttPolys() {
		expectSamePoly(t, "times the transform of 1", impl.MulNtt(p, one), p)
		expectSamePoly(t, "the transform of 1 times", impl.MulNtt(one, p), p)
		expectSamePoly(t, "times the transform of 0", impl.MulNtt(p, none), none)
		expectSamePoly(t, "times the transform of -1", impl.MulNtt(p, evenOdd(ringSize-1, 0)), impl.PolySub(none, p))
	}
}

func wrongTransforms() [][]int {
	list := wrongPolys()
	for i := range ringDeg {
		for _, n := range []int{-1, ringSize} {
			list = append(list, onePower(n, i))
		}
	}
	return list
}

func TestWrongTransforms(t *testing.T) {
	right := [][]int{make([]int, ringDeg), evenOdd(1, 0), eachNumber(ringSize - 1)}
	for _, wrong := range wrongTransforms() {
		if len(expectNtt(t, wrong))+len(expectInvNtt(t, wrong))+len(expectMulNtt(t, wrong, wrong)) != 0 {
			t.Errorf("%s: something is answered", tellPoly(wrong))
		}
		for _, other := range append(right, nil, make([]int, 255), make([]int, 257), onePower(-1, 255), onePower(ringSize, 0)) {
			if len(expectMulNtt(t, wrong, other))+len(expectMulNtt(t, other, wrong)) != 0 {
				t.Errorf("%s and %s: a product is answered", tellPoly(wrong), tellPoly(other))
			}
		}
	}
}

// What is refused must be refused by its length, not by the room behind it.
func TestTransformsByLength(t *testing.T) {
	long := make([]int, 2*ringDeg)
	for _, size := range []int{0, 1, 2, 128, 254, 255, 256, 257, 258, 512} {
		want := 0
		if size == ringDeg {
			want = ringDeg
		}
		p := long[:size]
		for _, got := range [][]int{impl.Ntt(p), impl.InvNtt(p), impl.MulNtt(p, p), impl.MulNtt(p, p[:size:size])} {
			if len(got) != want {
				t.Errorf("of %d numbers: %d are answered, want %d", size, len(got), want)
			}
		}
		if mixed := len(impl.MulNtt(p, long[:ringDeg])) + len(impl.MulNtt(long[:ringDeg], p)); mixed != 2*want {
			t.Errorf("of %d and %d numbers: %d are answered, want %d", size, ringDeg, mixed, 2*want)
		}
	}
}

func transformsOfBoth() []func(a, b []int) []int {
	return []func(a, b []int) []int{
		impl.MulNtt,
		func(a, b []int) []int { return impl.Ntt(a) },
		func(a, b []int) []int { return impl.InvNtt(a) },
	}
}

func TestTransformsShareNoMemory(t *testing.T) {
	draw := rand.New(rand.NewPCG(10, 5))
	same := drawPoly(draw)
	pairs := [][2][]int{{same, same}, {drawPoly(draw), drawPoly(draw)}, {make([]int, ringDeg), make([]int, ringDeg)}, {drawPoly(draw), evenOdd(1, 0)}, {evenOdd(1, 0), drawPoly(draw)}}
	for _, ask := range transformsOfBoth() {
		for _, pair := range pairs {
			a, b := pair[0], pair[1]
			wasA, wasB := slices.Clone(a), slices.Clone(b)
			first, again := ask(a, b), ask(a, b)
			if len(first) != ringDeg || listsShare(first, a) || listsShare(first, b) || listsShare(first, again) {
				t.Errorf("an answer is none, or shares memory with an argument or with another answer")
			}
			want := slices.Clone(again)
			clear(first)
			if !slices.Equal(again, want) || !slices.Equal(a, wasA) || !slices.Equal(b, wasB) {
				t.Errorf("what is written into an answer is seen in an argument or in another answer")
			}
		}
	}
}

// One list may be both arguments, or the two may lie over each other.
func TestTransformsOfListsOverEachOther(t *testing.T) {
	draw := rand.New(rand.NewPCG(10, 6))
	long := append(drawPoly(draw), drawPoly(draw)...)
	was := slices.Clone(long)
	for _, pair := range [][2][]int{{long[:256], long[:256]}, {long[:256], long[1:257]}, {long[1:257], long[:256]}, {long[:256], long[2:258]}, {long[:256], long[256:]}} {
		a, b := slices.Clone(pair[0]), slices.Clone(pair[1])
		expectSamePoly(t, "a product of transforms", impl.MulNtt(pair[0], pair[1]), modelMulNtt(a, b))
		expectSamePoly(t, "a transform", impl.Ntt(pair[1]), modelNtt(b))
		expectSamePoly(t, "a transform taken back", impl.InvNtt(pair[1]), modelInvNtt(b))
		if !slices.Equal(long, was) {
			t.Errorf("an argument is written into")
		}
	}
}

func TestTransformsLeaveNothingBehind(t *testing.T) {
	draw := rand.New(rand.NewPCG(10, 7))
	a, b := drawPoly(draw), drawPoly(draw)
	want := modelMul(a, b)
	var callers sync.WaitGroup
	for range 8 {
		callers.Go(func() {
			for range 20 {
				impl.Ntt(eachNumber(-1))
				impl.MulNtt(b, nil)
				expectSamePoly(t, "a product among many", impl.InvNtt(impl.MulNtt(impl.Ntt(a), impl.Ntt(b))), want)
			}
		})
	}
	callers.Wait()
}
