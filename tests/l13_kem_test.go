package tests

import (
	"fmt"
	"math/rand/v2"
	"runtime"
	"strings"
	"sync"
	"testing"

	"loop.example/g00186/impl"
)

const (
	kemSeed   = 32
	kemPublic = 2*polySize + 32
	kemSecret = 2*polySize + kemPublic + 64
	kemCipher = 2*320 + 128

	// A bit is told wrong from this error on, of a 1; of a 0 from one more on.
	kemFar = 832
)

// modelA is the chapter's A(i, j).
func modelA(rho string, i, j int) []int {
	taken, _ := modelUniform(rho, j, i)
	return taken
}

func modelPairOf(seed string) (impl.Pair, bool) {
	if len(seed) != 32 {
		return impl.Pair{}, false
	}
	d := digestByLibrary(seed)
	rho, sigma := digestByLibrary(d+"r"), digestByLibrary(d+"s")
	s0, s1 := modelNtt(modelSmall(sigma, 0)), modelNtt(modelSmall(sigma, 1))
	e0, e1 := modelNtt(modelSmall(sigma, 2)), modelNtt(modelSmall(sigma, 3))
	t0 := modelAdd(modelAdd(modelMulNtt(modelA(rho, 0, 0), s0), modelMulNtt(modelA(rho, 0, 1), s1)), e0)
	t1 := modelAdd(modelAdd(modelMulNtt(modelA(rho, 1, 0), s0), modelMulNtt(modelA(rho, 1, 1), s1)), e1)
	public := modelPolyBytes(t0) + modelPolyBytes(t1) + rho
	secret := modelPolyBytes(s0) + modelPolyBytes(s1) + public + digestByLibrary(public) + digestByLibrary(d+"z")
	return impl.Pair{Public: public, Secret: secret}, true
}

// modelTwo are the polynomials of the two PolyBytes that a text begins with.
func modelTwo(text string) (first, other []int, ok bool) {
	first, right := modelPolyFrom(text[:384])
	other, ok = modelPolyFrom(text[384:768])
	return first, other, right && ok
}

func modelPublicOk(s string) bool {
	if len(s) != 2*384+32 {
		return false
	}
	_, _, ok := modelTwo(s)
	return ok
}

func modelEach(list []int, d int, change func(n, d int) int) []int {
	var changed []int
	for _, n := range list {
		changed = append(changed, change(n, d))
	}
	return changed
}

func modelRough(p []int, d int) string {
	text, _ := modelPack(modelEach(p, d, modelSqueeze), d)
	return text
}

func modelNear(text string, d int) []int {
	list, _ := modelUnpack(text, d, 256)
	return modelEach(list, d, modelStretch)
}

func modelEncrypt(public, m, coins string) (string, bool) {
	if !modelPublicOk(public) || len(m) != 32 || len(coins) != 32 {
		return "", false
	}
	t0, t1, _ := modelTwo(public)
	rho := public[768:]
	r0, r1 := modelNtt(modelSmall(coins, 0)), modelNtt(modelSmall(coins, 1))
	u0 := modelInvNtt(modelAdd(modelMulNtt(modelA(rho, 0, 0), r0), modelMulNtt(modelA(rho, 1, 0), r1)))
	u1 := modelInvNtt(modelAdd(modelMulNtt(modelA(rho, 0, 1), r0), modelMulNtt(modelA(rho, 1, 1), r1)))
	v := modelInvNtt(modelAdd(modelMulNtt(t0, r0), modelMulNtt(t1, r1)))
	u0, u1, v = modelAdd(u0, modelSmall(coins, 2)), modelAdd(u1, modelSmall(coins, 3)), modelAdd(v, modelSmall(coins, 4))
	v = modelAdd(v, modelNear(m, 1))
	return modelRough(u0, 10) + modelRough(u1, 10) + modelRough(v, 4), true
}

// modelW multiplies in the ring itself: the chapter's products of transforms are those.
func modelW(secret, cipher string) ([]int, bool) {
	if len(secret) != 2*384+800+64 || len(cipher) != 768 {
		return nil, false
	}
	s0, s1, ok := modelTwo(secret)
	if !ok {
		return nil, false
	}
	u0, u1, v := modelNear(cipher[:320], 10), modelNear(cipher[320:640], 10), modelNear(cipher[640:], 4)
	sum := modelAdd(modelMul(modelInvNtt(s0), u0), modelMul(modelInvNtt(s1), u1))
	return modelSub(v, sum), true
}

func modelDecrypt(secret, cipher string) (string, bool) {
	w, ok := modelW(secret, cipher)
	if !ok {
		return "", false
	}
	return modelRough(w, 1), true
}

func modelErrorOf(secret, m, cipher string) int {
	w, ok := modelW(secret, cipher)
	if !ok || len(m) != 32 {
		return -1
	}
	return modelFar(w, modelNear(m, 1))
}

func modelHandOver(public, m string) (string, string, bool) {
	own := digestByLibrary(public)
	cipher, ok := modelEncrypt(public, m, digestByLibrary(m+own+"c"))
	if !ok {
		return "", "", false
	}
	return cipher, digestByLibrary(m + own + "k"), true
}

func modelTakeOver(secret, cipher string) (string, bool) {
	m, ok := modelDecrypt(secret, cipher)
	if !ok {
		return "", false
	}
	if again, found, ok := modelHandOver(secret[768:1568], m); ok && again == cipher {
		return found, true
	}
	return digestByLibrary(secret[1600:] + cipher), true
}

// kemAsk asks one of the chapter's functions, or its model, and tells all that it answers: its texts, and the rest in words.
type kemAsk func(args []string) (texts []string, rest string)

// expectKem asks twice, so that an answer that changes is seen, and holds it against the model.
func expectKem(t *testing.T, what string, ask, model kemAsk, args ...string) ([]string, string) {
	t.Helper()
	given, was := make([]string, len(args)), make([]string, len(args))
	for i, s := range args {
		given[i], was[i] = strings.Clone(s), strings.Clone(s)
		what += fmt.Sprintf(", %s", tellSeed(s))
	}
	texts, rest := ask(given)
	again, restAgain := ask(given)
	want, wantRest := model(args)
	if rest != wantRest || rest != restAgain {
		t.Errorf("%s = %s, and %s the next time, want %s", what, rest, restAgain, wantRest)
	}
	for i := range want {
		if texts[i] != want[i] || again[i] != want[i] {
			t.Errorf("%s = %s, and %s the next time, want %s", what, tellSeed(texts[i]), tellSeed(again[i]), tellSeed(want[i]))
		}
	}
	for i, s := range given {
		if s != was[i] {
			t.Errorf("%s writes into its argument", what)
		}
	}
	expectOwnTexts(t, what, append(texts, again...), given...)
	return texts, rest
}

func expectPairOf(t *testing.T, seed string) (impl.Pair, bool) {
	t.Helper()
	by := func(pairOf func(seed string) (impl.Pair, bool)) kemAsk {
		return func(args []string) ([]string, string) {
			pair, ok := pairOf(args[0])
			return []string{pair.Public, pair.Secret}, fmt.Sprint(ok)
		}
	}
	texts, rest := expectKem(t, "PairOf", by(impl.PairOf), by(modelPairOf), seed)
	return impl.Pair{Public: texts[0], Secret: texts[1]}, rest == "true"
}

func expectPublicOk(t *testing.T, s string, want bool) {
	t.Helper()
	by := func(publicOk func(s string) bool) kemAsk {
		return func(args []string) ([]string, string) { return nil, fmt.Sprint(publicOk(args[0])) }
	}
	if _, rest := expectKem(t, "PublicOk", by(impl.PublicOk), by(modelPublicOk), s); rest != fmt.Sprint(want) {
		t.Errorf("PublicOk of %s = %s", tellSeed(s), rest)
	}
}

func expectEncrypt(t *testing.T, public, m, coins string) (string, bool) {
	t.Helper()
	by := func(encrypt func(public, m, coins string) (string, bool)) kemAsk {
		return func(args []string) ([]string, string) {
			cipher, ok := encrypt(args[0], args[1], args[2])
			return []string{cipher}, fmt.Sprint(ok)
		}
	}
	texts, rest := expectKem(t, "Encrypt", by(impl.Encrypt), by(modelEncrypt), public, m, coins)
	return texts[0], rest == "true"
}

// byTwo is for Decrypt and TakeOver, which have the same form.
func byTwo(ask func(secret, cipher string) (string, bool)) kemAsk {
	return func(args []string) ([]string, string) {
		text, ok := ask(args[0], args[1])
		return []string{text}, fmt.Sprint(ok)
	}
}

func expectDecrypt(t *testing.T, secret, cipher string) (string, bool) {
	t.Helper()
	texts, rest := expectKem(t, "Decrypt", byTwo(impl.Decrypt), byTwo(modelDecrypt), secret, cipher)
	return texts[0], rest == "true"
}

func expectTakeOver(t *testing.T, secret, cipher string) (string, bool) {
	t.Helper()
	texts, rest := expectKem(t, "TakeOver", byTwo(impl.TakeOver), byTwo(modelTakeOver), secret, cipher)
	return texts[0], rest == "true"
}

func expectErrorOf(t *testing.T, secret, m, cipher string) int {
	t.Helper()
	e := -2
	by := func(errorOf func(secret, m, cipher string) int) kemAsk {
		return func(args []string) ([]string, string) {
			e = errorOf(args[0], args[1], args[2])
			return nil, fmt.Sprint(e)
		}
	}
	expectKem(t, "ErrorOf", by(impl.ErrorOf), by(modelErrorOf), secret, m, cipher)
	return e
}

func expectHandOver(t *testing.T, public, m string) (string, string, bool) {
	t.Helper()
	by := func(handOver func(public, m string) (string, string, bool)) kemAsk {
		return func(args []string) ([]string, string) {
			cipher, found, ok := handOver(args[0], args[1])
			return []string{cipher, found}, fmt.Sprint(ok)
		}
	}
	texts, rest := expectKem(t, "HandOver", by(impl.HandOver), by(modelHandOver), public, m)
	return texts[0], texts[1], rest == "true"
}

// expectPromise13 is fast, since it asks no model.
func expectPromise13(t *testing.T, pair impl.Pair, m, coins string) {
	t.Helper()
	encrypted, ok := impl.Encrypt(pair.Public, m, coins)
	handed, found, right := impl.HandOver(pair.Public, m)
	if !ok || !right || len(encrypted) != kemCipher || len(handed) != kemCipher || len(found) != kemSeed {
		t.Fatalf("%s is not encrypted to %s, or not handed over", tellSeed(m), tellSeed(pair.Public))
	}
	for _, cipher := range []string{encrypted, handed} {
		e := impl.ErrorOf(pair.Secret, m, cipher)
		got, ok := impl.Decrypt(pair.Secret, cipher)
		if e < 0 || e >= kemFar || !ok || got != m {
			t.Errorf("%s is decrypted as %s, %v, with an error of %d", tellSeed(m), tellSeed(got), ok, e)
		}
	}
	if taken, ok := impl.TakeOver(pair.Secret, handed); !ok || taken != found {
		t.Errorf("of %s, %s is found by one and %s, %v by the other", tellSeed(m), tellSeed(found), tellSeed(taken), ok)
	}
	if taken, ok := impl.TakeOver(pair.Secret, encrypted); !ok || taken == found || taken != digestByLibrary(pair.Secret[kemSecret-32:]+encrypted) {
		t.Errorf("of %s, with other coins, %s, %v is found", tellSeed(m), tellSeed(taken), ok)
	}
}

func drawBytes(draw *rand.Rand, n int) string {
	bytes := make([]byte, n)
	for i := range bytes {
		bytes[i] = byte(draw.Uint32())
	}
	return string(bytes)
}

// kemTexts are texts of 32 bytes, as seeds, as messages and as coins.
func kemTexts() []string {
	list := []string{strings.Repeat("\x00", 32), strings.Repeat("\xff", 32), strings.Repeat("\x01", 32), strings.Repeat("\x80", 32), strings.Repeat("\x55", 32), textOf(32)}
	for _, i := range []int{0, 1, 15, 30, 31} {
		for _, b := range []byte{1, 128} {
			one := make([]byte, 32)
			one[i] = b
			list = append(list, string(one))
		}
	}
	for n := range 8 {
		list = append(list, digestByLibrary(fmt.Sprint(n)))
	}
	return list
}

func pairFor(t *testing.T, word string) impl.Pair {
	t.Helper()
	pair, ok := impl.PairOf(digestByLibrary(word))
	if !ok || len(pair.Public) != kemPublic || len(pair.Secret) != kemSecret {
		t.Fatalf("there is no pair of %s", word)
	}
	return pair
}

// otherSizes are made of a text, but have not its length.
func otherSizes(text string) []string {
	size := len(text)
	return []string{"", text[:1], text[:size/2], text[:size-1], text[1:], text + "\x00", "\x00" + text, text + text[:1], text + text}
}

func turnedByte(text string, at int, mask byte) string {
	bytes := []byte(text)
	bytes[at] ^= mask
	return string(bytes)
}

// withNumber has another number of 12 bits at a place of the two polynomials that a text begins with.
func withNumber(text string, at int, n int) string {
	list, _ := modelUnpack(text[:2*polySize], 12, 2*ringDeg)
	list[at] = n
	packed, _ := modelPack(list, 12)
	return packed + text[2*polySize:]
}

// withWrongPolys begin with two polynomials, one or both of which are not right.
func withWrongPolys(text string) []string {
	var list []string
	for _, at := range []int{0, 1, 128, 254, 255, 256, 257, 400, 510, 511} {
		for _, n := range []int{ringSize, ringSize + 1, 4094, 4095} {
			list = append(list, withNumber(text, at, n))
		}
	}
	return append(list, withNumber(withNumber(text, 0, ringSize), 511, ringSize), strings.Repeat("\xff", 2*polySize)+text[2*polySize:])
}

// The digests are those of another program, which was written down from the chapter by itself.
func TestKnownPairs(t *testing.T) {
	for _, c := range []struct {
		seed, m                                                             string
		public, secret, encrypted, handed, found, takenTurned, takenByOther string
		error, errorEncrypted, errorTurned, errorOther                      int
	}{
		{"0000000000000000000000000000000000000000000000000000000000000000", "0000000000000000000000000000000000000000000000000000000000000000",
			"de96651df4839e41c923bf3d0adc968b43c602b4416547d4584d29df4e74dcfe", "6e24f2b77ada541c33d30bacd218d1719b5933a719cce870780f71a88f7a4c2e",
			"f809668776ca2d0c368a65a3a83ff7cb0cfb25c27d3f158f6e2b974bf9037a3e", "9ccea341e67d3ab978cdc670245b83151fbbaa05c3c64a18c5ddb24e16787694",
			"b1b1ee28da5310f1b743db79d62bb656efb489fde618bef3723ee1a113856492", "23ec3b6bdd44f45aed09bf972d06a5a9e3cf56fbe7529f4469710cecbd5bb673",
			"9dd2e7df73656e348ba7bb3bffd03e12c33676c7fc05568c631daf3a3777f5a6", 239, 196, 235, 1663},
		{"ffffffffffffffffffffffffffffffffffffffffffffffffffffffffffffffff", "ffffffffffffffffffffffffffffffffffffffffffffffffffffffffffffffff",
			"a1ef62d246aef44cfc034d6c3d4ba8e578749854317c742f740fb0a82514a0c4", "d77fd72f8c9abefa948bb8d509f85a648da4c6ac0ce02c894727b49892caac6a",
			"cb602837587bc6ccc82a022b4546ff5cdba623bc954429637a9a0d8fbf0c973e", "8ad1181241887955a20eaaf472d6c305e060b12192421a9089b9746dad9850e6",
			"99abe76e80f229b9a625902ef1c4940651c09fb06161402d0a178312cba8b37d", "8effde640b806ac0b69388e53131c0aa4e5465d2b73b5d7aa126474a3743f9c0",
			"52dd72a5ffa274c54d8b3e9932d2878d3dbb40c179cfd2a295d00b0be5edbe31", 179, 197, 173, 1660},
		{"ca978112ca1bbdcafac231b39a23dc4da786eff8147c4e72b9807785afee48bb", "62c66a7a5dd70c3146618063c344e531e6d4b59e379808443ce962b3abd63c5a",
			"1461fe4d02a86f1bb80611830f8dc6270e5922850b8fd63cedadba18f294cefb", "5cda40c46b6d27ad6600c24f5724e3c88d903d2daea821e0da56beb9d7334049",
			"6cb3c236db0d46b5e19a90580010aa07cd51f8059ab11a9cf1ebb53cfce12037", "9773a5eda582fba0693fc2e966410bb76a7e23bdc4a917f1255c8575603ee3a7",
			"e5f008b8fc254920a14fec9513bea4f6d524b04a62a49eb66c31efaa5e79c742", "7de07cb4e6bd15b312c39bbe0d8c4ea57e86a9340005ceb96cef5472c6baf228",
			"e318e0b912b23dceb53cd620832b52d4f7bc8673d1222235dd973922ca9ecb5e", 183, 165, 186, 1661},
		{"000102030405060708090a0b0c0d0e0f101112131415161718191a1b1c1d1e1f", "fffefdfcfbfaf9f8f7f6f5f4f3f2f1f0efeeedecebeae9e8e7e6e5e4e3e2e1e0",
			"c8c9eb04812b870211d258d1a26abfe3488ebc572ab4290c87268fcabb3d332d", "00a5cb983fc514a7c2dafd33f7f04d714466817b378e96cf7a5a28990d26afdb",
			"7f20c716e99e50e7fe4715dbd392ca11e38f387909df0533fb0e9c96de82a520", "aa9d2c5b42124c359369c580b2946e16b0470cbf7703f86d5682831196665b83",
			"c2e417157ae69403000d950f2671d4b39a970620f31e1f6bac00ede556bab412", "9812efdf51a6a4305e6c53976f0e2a6dabad64258184a457ec88fe2cd992cd9d",
			"44a21e321d96d607e506f9bf61d3422d20d2a3da6406e35e99748b9b30cd97e3", 184, 193, 188, 1657},
	} {
		seed, m := bytesOf(t, c.seed), bytesOf(t, c.m)
		pair, _ := impl.PairOf(seed)
		other, _ := impl.PairOf(digestByLibrary(seed))
		encrypted, _ := impl.Encrypt(pair.Public, m, seed)
		handed, found, _ := impl.HandOver(pair.Public, m)
		if len(handed) != kemCipher {
			t.Fatalf("%s is not handed over", c.m)
		}
		turned := turnedByte(handed, 0, 1)
		takenTurned, _ := impl.TakeOver(pair.Secret, turned)
		takenByOther, _ := impl.TakeOver(other.Secret, handed)
		for want, got := range map[string]string{
			c.public: digestByLibrary(pair.Public), c.secret: digestByLibrary(pair.Secret),
			c.encrypted: digestByLibrary(encrypted), c.handed: digestByLibrary(handed),
			c.found: found, c.takenTurned: takenTurned, c.takenByOther: takenByOther,
		} {
			if got != bytesOf(t, want) {
				t.Errorf("of the seed %s and %s comes %x, want %s", c.seed, c.m, got, want)
			}
		}
		got := [4]int{impl.ErrorOf(pair.Secret, m, handed), impl.ErrorOf(pair.Secret, m, encrypted), impl.ErrorOf(pair.Secret, m, turned), impl.ErrorOf(other.Secret, m, handed)}
		if want := [4]int{c.error, c.errorEncrypted, c.errorTurned, c.errorOther}; got != want {
			t.Errorf("of the seed %s and %s the errors are %v, want %v", c.seed, c.m, got, want)
		}
	}
}

func TestTheRank(t *testing.T) {
	if impl.Rank != 2 {
		t.Errorf("Rank = %d", impl.Rank)
	}
}

func TestPairsOfSeeds(t *testing.T) {
	seeds := kemTexts()
	for n := range 60 {
		seeds = append(seeds, digestByLibrary(fmt.Sprintf("seed %d", n)))
	}
	met := map[string]string{}
	for _, seed := range seeds {
		pair, ok := expectPairOf(t, seed)
		if !ok || len(pair.Public) != kemPublic || len(pair.Secret) != kemSecret {
			t.Fatalf("PairOf of %x = %d and %d bytes, %v", seed, len(pair.Public), len(pair.Secret), ok)
		}
		expectPublicOk(t, pair.Public, true)
		if pair.Secret[2*polySize:kemSecret-64] != pair.Public {
			t.Errorf("the secret of %x does not hold its public text", seed)
		}
		for _, part := range []string{pair.Public, pair.Secret[:2*polySize], pair.Secret[kemSecret-32:]} {
			if other, there := met[part]; there {
				t.Errorf("the seeds %x and %x have something in common", seed, other)
			}
			met[part] = seed
		}
	}
}

// What is kept secret is small, once it is no transform any more.
func TestSecretsAreSmall(t *testing.T) {
	for _, seed := range kemTexts() {
		pair, _ := impl.PairOf(seed)
		first, other, ok := modelTwo(pair.Secret)
		if !ok || !modelSmallOk(modelInvNtt(first)) || !modelSmallOk(modelInvNtt(other)) {
			t.Errorf("the secret of %x is not small", seed)
		}
	}
}

func TestSeedsOfOtherSizes(t *testing.T) {
	for _, size := range []int{0, 1, 16, 31, 33, 63, 64, 65, 128, 800, 1632, impl.MaxText, impl.MaxText + 1} {
		for _, seed := range []string{textOf(size), strings.Repeat("\x00", size)} {
			if pair, ok := expectPairOf(t, seed); ok || pair != (impl.Pair{}) {
				t.Errorf("PairOf of %d bytes = %d and %d bytes, %v, want none", size, len(pair.Public), len(pair.Secret), ok)
			}
		}
	}
	for size := range 200 {
		if _, ok := impl.PairOf(textOf(size)); ok != (size == kemSeed) {
			t.Errorf("PairOf of %d bytes: %v", size, ok)
		}
	}
}

func TestPublicOkOfSizes(t *testing.T) {
	pair := pairFor(t, "sizes")
	for _, text := range otherSizes(pair.Public) {
		expectPublicOk(t, text, false)
	}
	for _, text := range []string{pair.Secret, pair.Secret[:kemPublic-1], pair.Public[:2*polySize], pair.Public[polySize:]} {
		expectPublicOk(t, text, false)
	}
	for size := range kemSecret + 100 {
		if got := impl.PublicOk(strings.Repeat("\x00", size)); got != (size == kemPublic) {
			t.Errorf("PublicOk of %d bytes 0 = %v", size, got)
		}
	}
	// A secret begins with right polynomials: cut, it could be a public text.
	expectPublicOk(t, pair.Secret[:kemPublic], true)
}

func TestPublicOkOfNumbers(t *testing.T) {
	pair := pairFor(t, "numbers")
	for at := range 2 * ringDeg {
		for n, right := range map[int]bool{0: true, 1: true, ringSize - 1: true, ringSize: false, ringSize + 1: false, 4094: false, 4095: false} {
			if got := impl.PublicOk(withNumber(pair.Public, at, n)); got != right {
				t.Errorf("PublicOk with %d at %d = %v", n, at, got)
			}
		}
	}
	for _, text := range withWrongPolys(pair.Public) {
		expectPublicOk(t, text, false)
	}
	for _, rho := range kemTexts() {
		expectPublicOk(t, pair.Public[:2*polySize]+rho, true)
		expectPublicOk(t, strings.Repeat("\x00", 2*polySize)+rho, true)
		expectPublicOk(t, strings.Repeat("\xff", 2*polySize)+rho, false)
	}
}

// Promise 13, with each of the functions held against its model.
func TestTextsAreHandedOver(t *testing.T) {
	texts := kemTexts()
	for i, m := range texts {
		pair, coins := pairFor(t, fmt.Sprint("handed ", i)), texts[(7*i+3)%len(texts)]
		encrypted, ok := expectEncrypt(t, pair.Public, m, coins)
		handed, found, right := expectHandOver(t, pair.Public, m)
		if !ok || !right {
			t.Fatalf("%x is not encrypted, or not handed over", m)
		}
		for _, cipher := range []string{encrypted, handed} {
			if e := expectErrorOf(t, pair.Secret, m, cipher); e < 0 || e >= kemFar {
				t.Errorf("%x is encrypted with an error of %d", m, e)
			}
			if got, ok := expectDecrypt(t, pair.Secret, cipher); !ok || got != m {
				t.Errorf("%x is decrypted as %x, %v", m, got, ok)
			}
		}
		if taken, ok := expectTakeOver(t, pair.Secret, handed); !ok || taken != found {
			t.Errorf("of %x, %x is found by one and %x, %v by the other", m, found, taken, ok)
		}
		if taken, ok := expectTakeOver(t, pair.Secret, encrypted); !ok || taken == found {
			t.Errorf("of %x, with other coins, %x, %v is found", m, taken, ok)
		}
		expectPromise13(t, pair, m, coins)
	}
}

func TestDrawnTextsAreHandedOver(t *testing.T) {
	draw := rand.New(rand.NewPCG(13, 1))
	for range 300 {
		pair, ok := impl.PairOf(drawBytes(draw, kemSeed))
		if !ok {
			t.Fatal("there is no pair")
		}
		expectPromise13(t, pair, drawBytes(draw, kemSeed), drawBytes(draw, kemSeed))
		expectPromise13(t, pair, strings.Repeat("\x00", 32), drawBytes(draw, kemSeed))
		expectPromise13(t, pair, strings.Repeat("\xff", 32), drawBytes(draw, kemSeed))
	}
}

func TestEachBitOfAMessage(t *testing.T) {
	pair := pairFor(t, "bits")
	met := map[string]int{}
	for bit := range 256 {
		m := turnedByte(strings.Repeat("\x00", 32), bit/8, 1<<(bit%8))
		expectPromise13(t, pair, m, textOf(32))
		cipher, found, _ := impl.HandOver(pair.Public, m)
		for _, text := range []string{cipher, found} {
			if other, there := met[text]; there {
				t.Errorf("the bits %d and %d are handed over alike", bit, other)
			}
			met[text] = bit
		}
		// A message that has one bit turned is as far as can be from what is found.
		near, far := impl.ErrorOf(pair.Secret, m, cipher), impl.ErrorOf(pair.Secret, turnedByte(m, bit/8, 1<<(bit%8)), cipher)
		if near >= kemFar || far <= kemFar {
			t.Errorf("bit %d: the error is %d, and %d when it is turned", bit, near, far)
		}
	}
}

// Right polynomials of any kind are a public text; what they were not made with does not decrypt it, but it is encrypted.
func TestPublicTextsOfAnyPolynomials(t *testing.T) {
	draw := rand.New(rand.NewPCG(13, 2))
	for _, p := range [][]int{make([]int, ringDeg), eachNumber(ringSize - 1), onePower(1, 0), drawPoly(draw), drawPoly(draw)} {
		for _, rho := range kemTexts()[:3] {
			public := modelPolyBytes(p) + modelPolyBytes(drawPoly(draw)) + rho
			if _, ok := expectEncrypt(t, public, drawBytes(draw, 32), drawBytes(draw, 32)); !ok {
				t.Errorf("nothing is encrypted to %s", tellPoly(p))
			}
			if _, _, ok := expectHandOver(t, public, drawBytes(draw, 32)); !ok {
				t.Errorf("nothing is handed over to %s", tellPoly(p))
			}
		}
	}
}

func TestAnySecretsAndCiphers(t *testing.T) {
	draw := rand.New(rand.NewPCG(13, 3))
	ciphers := []string{strings.Repeat("\x00", kemCipher), strings.Repeat("\xff", kemCipher)}
	for range 6 {
		ciphers = append(ciphers, drawBytes(draw, kemCipher))
	}
	for _, p := range [][]int{make([]int, ringDeg), eachNumber(ringSize - 1), drawPoly(draw)} {
		secret := modelPolyBytes(p) + modelPolyBytes(drawPoly(draw)) + drawBytes(draw, kemPublic+64)
		for _, cipher := range ciphers {
			m, ok := expectDecrypt(t, secret, cipher)
			// What is decrypted is the message that the cipher is nearest to.
			if e := expectErrorOf(t, secret, m, cipher); !ok || e < 0 || e > kemFar {
				t.Errorf("any cipher is decrypted as %x, %v, with an error of %d", m, ok, e)
			}
			if e := expectErrorOf(t, secret, turnedByte(m, 9, 4), cipher); e < kemFar {
				t.Errorf("any cipher is decrypted, and has an error of %d of another message", e)
			}
			if taken, ok := expectTakeOver(t, secret, cipher); !ok || taken != digestByLibrary(secret[kemSecret-32:]+cipher) {
				t.Errorf("of any cipher, %x, %v is found", taken, ok)
			}
		}
	}
}

// plainSecrets have 1 as one of their polynomials and 5 as the other, so that w is v less the one of u and 5 times the other.
func plainSecrets() [2]string {
	one, five := modelPolyBytes(modelNtt(onePower(1, 0))), modelPolyBytes(modelNtt(onePower(5, 0)))
	rest := textOf(kemPublic + 64)
	return [2]string{one + five + rest, five + one + rest}
}

// plainCiphers has, for each w, ciphers that come to it at each place: one for each plain secret.
func plainCiphers(t *testing.T) map[int][2]string {
	t.Helper()
	all := map[int][2]string{}
	for n := range 1024 * 64 {
		x, times5, y := n%1024, n/1024, n%16
		w := modelMod(modelStretch(y, 4)-modelStretch(x, 10)-5*modelStretch(times5, 10), ringSize)
		if _, there := all[w]; there {
			continue
		}
		one, _ := modelPack(eachNumber(x), 10)
		five, _ := modelPack(eachNumber(times5), 10)
		v, _ := modelPack(eachNumber(y), 4)
		all[w] = [2]string{one + five + v, five + one + v}
	}
	if len(all) != ringSize {
		t.Fatalf("ciphers come to %d numbers, want each of %d", len(all), ringSize)
	}
	return all
}

func TestErrorsAtTheirEdges(t *testing.T) {
	ciphers := plainCiphers(t)
	zeros, ones := strings.Repeat("\x00", 32), strings.Repeat("\xff", 32)
	for _, c := range []struct {
		w, ofZeros, ofOnes int
		m                  string
	}{
		{0, 0, 1664, zeros}, {1, 1, 1664, zeros}, {2, 2, 1663, zeros}, {830, 830, 835, zeros}, {831, 831, 834, zeros}, {832, 832, 833, zeros},
		{833, 833, 832, ones}, {834, 834, 831, ones}, {835, 835, 830, ones}, {1663, 1663, 2, ones}, {1664, 1664, 1, ones}, {1665, 1664, 0, ones}, {1666, 1663, 1, ones},
		{2494, 835, 829, ones}, {2495, 834, 830, ones}, {2496, 833, 831, ones},
		{2497, 832, 832, zeros}, {2498, 831, 833, zeros}, {2499, 830, 834, zeros}, {3327, 2, 1662, zeros}, {3328, 1, 1663, zeros},
	} {
		for i, secret := range plainSecrets() {
			cipher := ciphers[c.w][i]
			if got, ok := expectDecrypt(t, secret, cipher); !ok || got != c.m {
				t.Errorf("%d at each place is decrypted as %x, %v", c.w, got, ok)
			}
			ofZeros, ofOnes := expectErrorOf(t, secret, zeros, cipher), expectErrorOf(t, secret, ones, cipher)
			if ofZeros != c.ofZeros || ofOnes != c.ofOnes {
				t.Errorf("%d at each place has the errors %d and %d, want %d and %d", c.w, ofZeros, ofOnes, c.ofZeros, c.ofOnes)
			}
		}
	}
}

// Promise 13, first half, of each number that may come: below kemFar the message is found, above it it is not; at kemFar it hangs on the side, so that this is not small enough.
func TestErrorsThatAreSmallEnough(t *testing.T) {
	messages := []string{strings.Repeat("\x00", 32), strings.Repeat("\xff", 32)}
	secret := plainSecrets()[0]
	most := 0
	for w, both := range plainCiphers(t) {
		cipher := both[0]
		got, ok := impl.Decrypt(secret, cipher)
		for _, m := range messages {
			e := impl.ErrorOf(secret, m, cipher)
			if e < kemFar {
				most = max(most, e)
			}
			if small := e < kemFar; !ok || e < 0 || small && got != m || e > kemFar && got == m {
				t.Errorf("%d at each place is decrypted as %x, %v, where the error of %x is %d", w, got, ok, m, e)
			}
		}
	}
	if most != kemFar-1 {
		t.Errorf("the greatest error that is small enough is %d", most)
	}
}

func TestCiphersWithOneByteTurned(t *testing.T) {
	pair, m := pairFor(t, "turned"), textOf(32)
	cipher, found, _ := impl.HandOver(pair.Public, m)
	spare := pair.Secret[kemSecret-32:]
	met := map[string]string{found: "the cipher itself"}
	same := 0
	for at := range kemCipher {
		for _, mask := range []byte{1, 128} {
			turned, what := turnedByte(cipher, at, mask), fmt.Sprintf("byte %d turned by %d", at, mask)
			taken, ok := impl.TakeOver(pair.Secret, turned)
			if !ok || taken != digestByLibrary(spare+turned) {
				t.Errorf("%s: %x, %v is found", what, taken, ok)
			}
			if other, there := met[taken]; there {
				t.Errorf("%s and %s have one secret", what, other)
			}
			met[taken] = what
			if got, _ := impl.Decrypt(pair.Secret, turned); got == m {
				same++
			}
		}
	}
	// Most of these are decrypted to the same message, and still are not taken for what was handed over.
	if same == 0 || same == 2*kemCipher {
		t.Errorf("%d of %d turned ciphers are decrypted to the same message", same, 2*kemCipher)
	}
	for _, at := range []int{0, 1, 319, 320, 639, 640, 767} {
		for _, mask := range []byte{1, 16, 255} {
			expectTakeOver(t, pair.Secret, turnedByte(cipher, at, mask))
			expectErrorOf(t, pair.Secret, m, turnedByte(cipher, at, mask))
		}
	}
}

// Of a secret, Decrypt looks at the polynomials alone, and TakeOver at the public text and the last 32 bytes as well.
func TestSecretsWithOneByteTurned(t *testing.T) {
	pair, m := pairFor(t, "a secret"), textOf(32)
	cipher, found, _ := impl.HandOver(pair.Public, m)
	publicAt, digestAt, spareAt := 2*polySize, 2*polySize+kemPublic, kemSecret-32
	for _, at := range []int{publicAt, publicAt + 1, publicAt + 383, publicAt + 384, publicAt + 767, publicAt + 768, digestAt - 1} {
		for _, mask := range []byte{1, 15, 128, 255} {
			secret := turnedByte(pair.Secret, at, mask)
			if taken, ok := expectTakeOver(t, secret, cipher); !ok || taken != digestByLibrary(secret[spareAt:]+cipher) {
				t.Errorf("byte %d of the secret turned by %d: %x, %v is found", at, mask, taken, ok)
			}
		}
	}
	for _, at := range []int{digestAt, digestAt + 31, spareAt, kemSecret - 1} {
		if taken, ok := expectTakeOver(t, turnedByte(pair.Secret, at, 255), cipher); !ok || taken != found {
			t.Errorf("byte %d of the secret turned: %x, %v is found", at, taken, ok)
		}
	}
	for at := publicAt; at < kemSecret; at += 13 {
		secret := turnedByte(pair.Secret, at, 255)
		if got, ok := impl.Decrypt(secret, cipher); !ok || got != m {
			t.Errorf("byte %d of the secret turned: decrypted as %x, %v", at, got, ok)
		}
		if impl.ErrorOf(secret, m, cipher) != impl.ErrorOf(pair.Secret, m, cipher) {
			t.Errorf("byte %d of the secret turned: the error is another one", at)
		}
	}
	wrong := turnedByte(cipher, 5, 1)
	first, _ := expectTakeOver(t, pair.Secret, wrong)
	if other, _ := expectTakeOver(t, turnedByte(pair.Secret, spareAt, 1), wrong); other == first {
		t.Error("what is found of a wrong cipher does not hang on the end of the secret")
	}
}

// A public text within a secret that is not right leaves TakeOver with nothing to hand over again.
func TestSecretsWithAWrongPublicPart(t *testing.T) {
	pair, m := pairFor(t, "a part"), textOf(32)
	cipher, _, _ := impl.HandOver(pair.Public, m)
	for _, public := range withWrongPolys(pair.Public) {
		secret := pair.Secret[:2*polySize] + public + pair.Secret[2*polySize+kemPublic:]
		if taken, ok := expectTakeOver(t, secret, cipher); !ok || taken != digestByLibrary(pair.Secret[kemSecret-32:]+cipher) {
			t.Errorf("with a public part that is not right %x, %v is found", taken, ok)
		}
		if got, ok := impl.Decrypt(secret, cipher); !ok || got != m {
			t.Errorf("with a public part that is not right %x is decrypted as %x, %v", m, got, ok)
		}
	}
}

func TestHalvesThatDoNotBelongTogether(t *testing.T) {
	var pairs []impl.Pair
	for n := range 5 {
		pairs = append(pairs, pairFor(t, fmt.Sprint("of many ", n)))
	}
	for i, to := range pairs {
		m := digestByLibrary(fmt.Sprint(i))
		cipher, found, _ := impl.HandOver(to.Public, m)
		for j, by := range pairs {
			e := expectErrorOf(t, by.Secret, m, cipher)
			got, ok := expectDecrypt(t, by.Secret, cipher)
			taken, right := expectTakeOver(t, by.Secret, cipher)
			together := i == j
			if !ok || !right || together != (e >= 0 && e < kemFar) || together != (got == m) || together != (taken == found) {
				t.Errorf("handed over to %d and taken by %d: error %d, %x of %x, %x of %x", i, j, e, got, m, taken, found)
			}
		}
	}
}

func expectNotEncrypted(t *testing.T, public, m, coins string) {
	t.Helper()
	if cipher, ok := expectEncrypt(t, public, m, coins); ok || cipher != "" {
		t.Errorf("Encrypt to %d bytes of %d bytes with %d bytes = %d bytes, %v, want none", len(public), len(m), len(coins), len(cipher), ok)
	}
}

func expectNotHandedOver(t *testing.T, public, m string) {
	t.Helper()
	if cipher, found, ok := expectHandOver(t, public, m); ok || cipher != "" || found != "" {
		t.Errorf("HandOver to %d bytes of %d bytes = %d and %d bytes, %v, want none", len(public), len(m), len(cipher), len(found), ok)
	}
}

// expectNotDecrypted asks for m's error, too, which may be of any size.
func expectNotDecrypted(t *testing.T, secret, m, cipher string) {
	t.Helper()
	if got, ok := expectDecrypt(t, secret, cipher); ok || got != "" {
		t.Errorf("Decrypt by %d bytes of %d bytes = %d bytes, %v, want none", len(secret), len(cipher), len(got), ok)
	}
	if found, ok := expectTakeOver(t, secret, cipher); ok || found != "" {
		t.Errorf("TakeOver by %d bytes of %d bytes = %d bytes, %v, want none", len(secret), len(cipher), len(found), ok)
	}
	if e := expectErrorOf(t, secret, m, cipher); e != -1 {
		t.Errorf("ErrorOf of %d, %d and %d bytes = %d, want -1", len(secret), len(m), len(cipher), e)
	}
}

func TestPublicTextsThatAreRefused(t *testing.T) {
	pair, m := pairFor(t, "refused"), textOf(32)
	wrong := append(otherSizes(pair.Public), withWrongPolys(pair.Public)...)
	for _, public := range append(wrong, pair.Secret, m) {
		expectNotEncrypted(t, public, m, m)
		expectNotEncrypted(t, public, "", m)
		expectNotHandedOver(t, public, m)
		expectNotHandedOver(t, public, "")
	}
}

func TestMessagesAndCoinsThatAreRefused(t *testing.T) {
	pair, m := pairFor(t, "refused"), textOf(32)
	cipher, _ := impl.Encrypt(pair.Public, m, m)
	for _, wrong := range otherSizes(m) {
		expectNotEncrypted(t, pair.Public, wrong, m)
		expectNotEncrypted(t, pair.Public, m, wrong)
		expectNotEncrypted(t, pair.Public, wrong, wrong)
		expectNotHandedOver(t, pair.Public, wrong)
		if e := expectErrorOf(t, pair.Secret, wrong, cipher); e != -1 {
			t.Errorf("ErrorOf of %d bytes = %d, want -1", len(wrong), e)
		}
	}
	for size := range 100 {
		text, right := textOf(size), size == kemSeed
		_, ok := impl.Encrypt(pair.Public, text, m)
		_, other := impl.Encrypt(pair.Public, m, text)
		_, _, handed := impl.HandOver(pair.Public, text)
		if e := impl.ErrorOf(pair.Secret, text, cipher); ok != right || other != right || handed != right || (e >= 0) != right {
			t.Errorf("%d bytes: encrypted %v, as coins %v, handed over %v, error %d", size, ok, other, handed, e)
		}
	}
}

func TestSecretsAndCiphersThatAreRefused(t *testing.T) {
	pair, m := pairFor(t, "refused"), textOf(32)
	cipher, _, _ := impl.HandOver(pair.Public, m)
	wrong := append(otherSizes(pair.Secret), withWrongPolys(pair.Secret)...)
	for _, secret := range append(wrong, pair.Public, cipher) {
		expectNotDecrypted(t, secret, m, cipher)
		expectNotDecrypted(t, secret, "", cipher)
		expectNotDecrypted(t, secret, m, "")
	}
	for _, other := range append(otherSizes(cipher), pair.Public, pair.Secret, m) {
		expectNotDecrypted(t, pair.Secret, m, other)
		expectNotDecrypted(t, pair.Secret, "", other)
	}
	for size := range kemSecret + 100 {
		zeros := strings.Repeat("\x00", size)
		_, bySecret := impl.Decrypt(zeros, cipher)
		_, ofCipher := impl.Decrypt(pair.Secret, zeros)
		if bySecret != (size == kemSecret) || ofCipher != (size == kemCipher) {
			t.Errorf("%d bytes 0 decrypt: %v, are decrypted: %v", size, bySecret, ofCipher)
		}
	}
}

func TestEachNumberOfASecret(t *testing.T) {
	pair := pairFor(t, "each number")
	cipher, _, _ := impl.HandOver(pair.Public, textOf(32))
	for at := range 2 * ringDeg {
		for n, right := range map[int]bool{ringSize - 1: true, ringSize: false, 4095: false} {
			secret := withNumber(pair.Secret, at, n)
			_, ok := impl.Decrypt(secret, cipher)
			_, taken := impl.TakeOver(secret, cipher)
			if e := impl.ErrorOf(secret, textOf(32), cipher); ok != right || taken != right || (e == -1) == right {
				t.Errorf("a secret with %d at %d: decrypts %v, takes over %v, error %d", n, at, ok, taken, e)
			}
		}
	}
}

func TestPairsLeaveNothingRunning(t *testing.T) {
	before := runtime.NumGoroutine()
	for n := range 60 {
		pair := pairFor(t, fmt.Sprint("running ", n))
		expectEnded(t, "PairOf", before)
		expectPromise13(t, pair, textOf(32), textOf(32))
		expectEnded(t, "what is done with a pair", before)
		impl.PairOf(textOf(n % 32))
		impl.Encrypt(pair.Public, textOf(n%32), textOf(32))
		impl.HandOver(pair.Public[n+1:], textOf(32))
		impl.TakeOver(pair.Secret, textOf(n))
		impl.ErrorOf(pair.Secret[n+1:], textOf(32), textOf(kemCipher))
		expectEnded(t, "what is refused", before)
	}
}

func TestPairsAmongMany(t *testing.T) {
	before := runtime.NumGoroutine()
	var callers sync.WaitGroup
	for caller := range 8 {
		callers.Go(func() {
			for n := range 5 {
				seed := digestByLibrary(fmt.Sprint(caller, n))
				pair, _ := impl.PairOf(seed)
				if want, _ := modelPairOf(seed); pair != want {
					t.Error("a pair among many is another one")
					return
				}
				cipher, found, _ := impl.HandOver(pair.Public, seed)
				wantCipher, wantFound, _ := modelHandOver(pair.Public, seed)
				if taken, ok := impl.TakeOver(pair.Secret, cipher); !ok || taken != found || cipher != wantCipher || found != wantFound {
					t.Error("a secret handed over among many is another one")
				}
			}
		})
	}
	callers.Wait()
	expectEnded(t, "pairs among many", before)
}
