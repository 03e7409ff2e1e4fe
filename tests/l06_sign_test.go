package tests

import (
	"crypto/sha256"
	"math/big"
	"math/rand"
	"slices"
	"strconv"
	"strings"
	"testing"

	"loop.example/g00394/impl"
)

// houseNumbers and houseSecrets: as the document lists them.
var houseNumbers = []string{
	"1126842482294775308195694623308240597", "1247981655423532154092554863888897209", "1148686320029967765174256704684350111",
	"1041691738963920440323911078259316039", "1188244383298528754479973652216547877", "1075170530945368617518771466788785813",
}

var houseSecrets = []string{
	"627081986843657021038103046832190081", "235973399362320680315299167363159713", "281032644999931383987796849300097057",
	"547016512755288186570190285196893553", "685166474584607192110490645292250793", "96021684203171376568690368316119293",
}

// noHouses: numbers that are no house's.
func noHouses() []int {
	return []int{-1, -2, -6, -7, impl.Secrets, impl.Secrets + 1, 2 * impl.Secrets, 255, 256, 65536, 1 << 32, 1<<32 + 2, 1<<63 - 1, -1 << 63, -1<<63 + 1}
}

func bigFigures(t *testing.T, figures string) *big.Int {
	t.Helper()
	n, ok := new(big.Int).SetString(figures, 10)
	if !ok {
		t.Fatalf("%s is no number: the case is none", figures)
	}
	return n
}

func bigBytes(text string) *big.Int { return new(big.Int).SetBytes([]byte(text)) }

// keyText: a number in KeySize bytes, the highest first.
func keyText(n *big.Int) string {
	return string(n.FillBytes(make([]byte, impl.KeySize)))
}

// more: the number of these bytes and so much more, in KeySize bytes.
func more(text string, n int64) string {
	number := bigBytes(text)
	return keyText(number.Add(number, big.NewInt(n)))
}

func paddedByLibrary(text string) string {
	digest := sha256.Sum256([]byte(text))
	return "\x00\x01\xff\xff\xff\xff\xff\xff\x00" + string(digest[:6])
}

func signByLibrary(t *testing.T, i int, text string) string {
	t.Helper()
	return keyText(new(big.Int).Exp(bigBytes(paddedByLibrary(text)), bigFigures(t, houseSecrets[i]), bigFigures(t, houseNumbers[i])))
}

func sigOkByLibrary(key, text, sig string) bool {
	n, s := bigBytes(key), bigBytes(sig)
	if len(key) != 15 || len(sig) != 15 || s.Cmp(n) >= 0 {
		return false
	}
	return s.Exp(s, big.NewInt(65537), n).Cmp(bigBytes(paddedByLibrary(text))) == 0
}

func checkSigOk(t *testing.T, key, text, sig string, want bool) {
	t.Helper()
	if byLibrary := sigOkByLibrary(key, text, sig); byLibrary != want {
		t.Fatalf("key %x, text of %d bytes, sig %x: the case is none, the library tells %v", key, len(text), sig, byLibrary)
	}
	if got := impl.SigOk(key, text, sig); got != want {
		t.Fatalf("SigOk(%x, text of %d bytes, %x) = %v, want %v", key, len(text), sig, got, want)
	}
}

// textsToSign: empty, short, at the edges of a block, and long ones.
func textsToSign() []string {
	list := []string{"", " ", "\x00", "\xff", "said", "sald", "said ", "\x00said", strings.Repeat("\x00", 15), strings.Repeat("\xff", 15), longTexts()[2]}
	for _, size := range []int{14, 15, 16, 55, 56, 57, 63, 64, 65, 120, 1000, impl.MaxText, impl.MaxText + 1} {
		list = append(list, textOfSize(size))
	}
	return list
}

func TestSignConstants(t *testing.T) {
	if impl.KeySize != 15 || impl.Secrets != 6 || impl.Exponent != 65537 {
		t.Errorf("KeySize %d, Secrets %d, Exponent %d", impl.KeySize, impl.Secrets, impl.Exponent)
	}
}

func TestHouses(t *testing.T) {
	for i := range impl.Secrets {
		number, secret := bigFigures(t, houseNumbers[i]), bigFigures(t, houseSecrets[i])
		if got := impl.PublicAt(i); got != keyText(number) || len(got) != impl.KeySize {
			t.Errorf("PublicAt(%d) = %x, want %x", i, got, keyText(number))
		}
		if got := impl.PublicAt(i); got != impl.NatText(impl.NatFigures(houseNumbers[i])) {
			t.Errorf("PublicAt(%d) = %x, which is not NatText of its number", i, got)
		}
		if got := impl.SecretAt(i); !slices.Equal(got, listOf(secret)) || !impl.NatOk(got) {
			t.Errorf("SecretAt(%d) = %d, want %d", i, got, listOf(secret))
		}
	}
	for _, i := range noHouses() {
		if got := impl.PublicAt(i); got != "" {
			t.Errorf("PublicAt(%d) = %x, want nothing", i, got)
		}
		if got := impl.SecretAt(i); len(got) != 0 {
			t.Errorf("SecretAt(%d) = %d, want nothing", i, got)
		}
		for _, text := range textsToSign() {
			if got := impl.SignWith(i, text); got != "" {
				t.Errorf("SignWith(%d, text of %d bytes) = %x, want nothing", i, len(text), got)
			}
		}
	}
}

func TestPadded(t *testing.T) {
	if got, want := impl.Padded("abc"), "\x00\x01\xff\xff\xff\xff\xff\xff\x00\xba\x78\x16\xbf\x8f\x01"; got != want {
		t.Errorf("Padded of abc = %x, want %x", got, want)
	}
	if got, want := impl.Padded(""), "\x00\x01\xff\xff\xff\xff\xff\xff\x00\xe3\xb0\xc4\x42\x98\xfc"; got != want {
		t.Errorf("Padded of nothing = %x, want %x", got, want)
	}
	for _, text := range textsToDigest() {
		got := impl.Padded(text)
		if got != paddedByLibrary(text) || len(got) != impl.KeySize {
			t.Errorf("Padded of %d bytes = %x, want %x", len(text), got, paddedByLibrary(text))
		}
		if got[9:] != impl.Digest(text)[:6] {
			t.Errorf("Padded of %d bytes = %x, which does not end in the first six of Digest", len(text), got)
		}
	}
}

// TestWhatIsSignedIsRight: promise 6, for each house; what one signed is right by its own key and for its own text alone.
func TestWhatIsSignedIsRight(t *testing.T) {
	for i := range impl.Secrets {
		for _, text := range textsToSign() {
			sig := impl.SignWith(i, text)
			if want := signByLibrary(t, i, text); sig != want || len(sig) != impl.KeySize {
				t.Fatalf("SignWith(%d, text of %d bytes) = %x, want %x", i, len(text), sig, want)
			}
			for other := range impl.Secrets {
				checkSigOk(t, impl.PublicAt(other), text, sig, other == i)
			}
			for _, other := range []string{text + "\x00", "\x00" + text, text + text + "x", sig, impl.Padded(text), impl.PublicAt(i)} {
				checkSigOk(t, impl.PublicAt(i), other, sig, false)
			}
		}
	}
}

// TestSignaturesByPowers: the secret's other half makes the padded text again, without the library.
func TestSignaturesByPowers(t *testing.T) {
	for i := range impl.Secrets {
		number := impl.ReadNat(impl.PublicAt(i))
		for _, text := range textsToSign() {
			padded := impl.ReadNat(impl.Padded(text))
			sig := impl.SignWith(i, text)
			signed := impl.ReadNat(sig)
			if got := impl.PowMod(signed, impl.NatOf(impl.Exponent), number); !slices.Equal(got, padded) {
				t.Fatalf("house %d, text of %d bytes: by the exponent %d, want %d", i, len(text), got, padded)
			}
			if got := impl.PowMod(padded, impl.SecretAt(i), number); !slices.Equal(got, signed) {
				t.Fatalf("house %d, text of %d bytes: by the secret %d, want %d", i, len(text), got, signed)
			}
			if impl.NatCmp(signed, number) != -1 || len(sig) != impl.KeySize || !impl.SigOk(impl.PublicAt(i), text, sig) {
				t.Fatalf("house %d, text of %d bytes: %x is not right", i, len(text), sig)
			}
		}
	}
}

func TestManySignatures(t *testing.T) {
	source := rand.New(rand.NewSource(6))
	for round := range 300 {
		text := textOfSize(source.Intn(200)) + strconv.Itoa(round)
		i := source.Intn(impl.Secrets)
		sig := impl.SignWith(i, text)
		if want := signByLibrary(t, i, text); sig != want {
			t.Fatalf("SignWith(%d, %q) = %x, want %x", i, text, sig, want)
		}
		checkSigOk(t, impl.PublicAt(i), text, sig, true)
		checkSigOk(t, impl.PublicAt(i), text+".", sig, false)
	}
}

// turned: text with the byte at a place turned by some bits.
func turned(text string, at int, bits byte) string {
	bytes := []byte(text)
	bytes[at] ^= bits
	return string(bytes)
}

func TestSigOkTurned(t *testing.T) {
	for i := range impl.Secrets {
		for _, text := range []string{"said", textOfSize(70)} {
			key, sig := impl.PublicAt(i), impl.SignWith(i, text)
			for at := range impl.KeySize {
				for _, bits := range []byte{1, 2, 4, 8, 16, 32, 64, 128, 255} {
					checkSigOk(t, turned(key, at, bits), text, sig, false)
					checkSigOk(t, key, text, turned(sig, at, bits), false)
				}
			}
			for at := range len(text) {
				checkSigOk(t, key, turned(text, at, 1), sig, false)
				checkSigOk(t, key, turned(text, at, 128), sig, false)
			}
			checkSigOk(t, key, text, sig, true)
		}
	}
}

// textLike: the first of some texts whose signature by that house is as it is asked for.
func textLike(t *testing.T, i int, asked func(sig string) bool) string {
	t.Helper()
	for n := range 20000 {
		if text := "text " + strconv.Itoa(n); asked(signByLibrary(t, i, text)) {
			return text
		}
	}
	t.Fatalf("house %d has no such text: the case is none", i)
	return ""
}

// TestSigOkTooGreat: a signature and the key make one that has the same power, and is refused.
func TestSigOkTooGreat(t *testing.T) {
	limit := new(big.Int).Lsh(big.NewInt(1), 8*impl.KeySize)
	for i := range impl.Secrets {
		key := impl.PublicAt(i)
		number := bigBytes(key)
		room := new(big.Int).Sub(limit, number)
		text := textLike(t, i, func(sig string) bool { return bigBytes(sig).Cmp(room) < 0 })
		sig := impl.SignWith(i, text)
		sum := new(big.Int).Add(bigBytes(sig), number)
		if !slices.Equal(impl.PowMod(listOf(sum), impl.NatOf(impl.Exponent), listOf(number)), impl.ReadNat(impl.Padded(text))) {
			t.Fatalf("house %d: the case is none", i)
		}
		checkSigOk(t, key, text, sig, true)
		checkSigOk(t, key, text, keyText(sum), false)
		for _, n := range []int64{-2, -1, 0, 1, 2} {
			checkSigOk(t, key, text, more(key, n), false)
			checkSigOk(t, key, text, more(sig, n), n == 0)
		}
		checkSigOk(t, key, text, strings.Repeat("\xff", impl.KeySize), false)
		checkSigOk(t, key, text, strings.Repeat("\x00", impl.KeySize), false)
		checkSigOk(t, key, text, impl.Padded(text), false)
	}
}

// TestSigOkJustBelow: one less than a key is itself again by odd powers, so that with a key of one more than the padded text, the padded text is a signature just below the key.
func TestSigOkJustBelow(t *testing.T) {
	for _, text := range textsToSign() {
		sig := impl.Padded(text)
		key := more(sig, 1)
		checkSigOk(t, key, text, sig, true)
		checkSigOk(t, key, text+"x", sig, false)
		checkSigOk(t, key, text, key, false)
		checkSigOk(t, key, text, more(key, 1), false)
		twice := new(big.Int).Add(bigBytes(sig), bigBytes(key))
		checkSigOk(t, key, text, keyText(twice), false)
		checkSigOk(t, key, text, more(sig, -1), false)
		checkSigOk(t, sig, text, sig, false)
		checkSigOk(t, sig, text, more(sig, -1), false)
		// Both begin with a byte 0: without it, or with one more, they are the same numbers.
		checkSigOk(t, key[1:], text, sig, false)
		checkSigOk(t, key, text, sig[1:], false)
		checkSigOk(t, key[1:], text, sig[1:], false)
		checkSigOk(t, "\x00"+key, text, sig, false)
		checkSigOk(t, key, text, "\x00"+sig, false)
		checkSigOk(t, "\x00"+key, text, "\x00"+sig, false)
	}
}

// TestSigOkBytesAhead: signatures and keys that begin with bytes 0 count with all of them, and with no more.
func TestSigOkBytesAhead(t *testing.T) {
	for i := range impl.Secrets {
		key := impl.PublicAt(i)
		text := textLike(t, i, func(sig string) bool { return sig[0] == 0 })
		sig := impl.SignWith(i, text)
		if len(sig) != impl.KeySize || sig[0] != 0 {
			t.Fatalf("SignWith(%d, %q) = %x, want KeySize bytes, the first one 0", i, text, sig)
		}
		if sig != signByLibrary(t, i, text) {
			t.Fatalf("SignWith(%d, %q) = %x, want %x", i, text, sig, signByLibrary(t, i, text))
		}
		checkSigOk(t, key, text, sig, true)
		checkSigOk(t, key, text, sig[1:], false)
		checkSigOk(t, key, text, "\x00"+sig, false)
		checkSigOk(t, key, text, sig[1:]+"\x00", false)
	}
}

// TestSigOkOtherKeys: keys that are no house's, primes of several sizes, some with bytes 0 ahead; those that the padded text is not less than have no signature.
func TestSigOkOtherKeys(t *testing.T) {
	source := rand.New(rand.NewSource(66))
	exponent := big.NewInt(impl.Exponent)
	for _, size := range []uint{17, 32, 64, 103, 104, 105, 106, 108, 112, 113, 119, 120} {
		for round := range 6 {
			low := new(big.Int).Lsh(big.NewInt(1), size-1)
			prime := new(big.Int).Add(low, new(big.Int).Rand(source, low))
			less := new(big.Int)
			secret := new(big.Int)
			for !prime.ProbablyPrime(10) || secret.ModInverse(exponent, less.Sub(prime, big.NewInt(1))) == nil {
				prime.Sub(prime, big.NewInt(1))
				secret = new(big.Int)
			}
			text := "key " + strconv.Itoa(round)
			padded := bigBytes(paddedByLibrary(text))
			sig := keyText(new(big.Int).Exp(padded, secret, prime))
			checkSigOk(t, keyText(prime), text, sig, prime.Cmp(padded) > 0)
			checkSigOk(t, keyText(prime), text+"s", sig, false)
			checkSigOk(t, more(keyText(prime), -1), text, sig, false)
		}
	}
}

// TestSigOkSizes: keys and signatures of all sizes about KeySize, made of right ones.
func TestSigOkSizes(t *testing.T) {
	text := "said"
	for i := range impl.Secrets {
		key, sig := impl.PublicAt(i), impl.SignWith(i, text)
		ofSizes := func(right string) []string {
			list := []string{"", right[:1], right[:14], right[1:], "\x00" + right, right + "\x00", right + right, strings.Repeat("\x00", 45) + right, strings.Repeat("\x00", 46) + right, strings.Repeat("\x00", 1000) + right}
			return append(list, right)
		}
		for _, k := range ofSizes(key) {
			for _, s := range ofSizes(sig) {
				checkSigOk(t, k, text, s, k == key && s == sig)
			}
		}
	}
}

func TestSigOkSmallKeys(t *testing.T) {
	none := strings.Repeat("\x00", impl.KeySize)
	for _, text := range textsToSign() {
		sigs := []string{"", none, more(none, 1), impl.Padded(text), impl.SignWith(0, text), strings.Repeat("\xff", impl.KeySize)}
		for _, sig := range sigs {
			for _, key := range []string{"", none, more(none, 1), more(none, 2), more(none, 65537)} {
				checkSigOk(t, key, text, sig, false)
			}
		}
		for i := range impl.Secrets {
			checkSigOk(t, impl.PublicAt(i), text, "", false)
			checkSigOk(t, impl.PublicAt(i), text, none, false)
			checkSigOk(t, "", text, impl.SignWith(i, text), false)
			// Who has none signs with nothing, and is believed by nobody.
			checkSigOk(t, impl.PublicAt(i), text, impl.SignWith(impl.Secrets, text), false)
			checkSigOk(t, impl.PublicAt(-1), text, impl.SignWith(i, text), false)
		}
		checkSigOk(t, "", text, "", false)
	}
	checkSigOk(t, "", "", "", false)
}

func TestSignAnswersAreNewMemory(t *testing.T) {
	for i := range impl.Secrets {
		want, sig := listOf(bigFigures(t, houseSecrets[i])), impl.SignWith(i, "said")
		one, other := impl.SecretAt(i), impl.SecretAt(i)
		spoil(one)
		if !slices.Equal(other, want) || !slices.Equal(impl.SecretAt(i), want) {
			t.Errorf("SecretAt(%d) hands out one memory twice", i)
		}
		spoil(other)
		if impl.SignWith(i, "said") != sig || impl.PublicAt(i) != keyText(bigFigures(t, houseNumbers[i])) {
			t.Errorf("house %d is another one, when what it handed out was written to", i)
		}
	}
	spoil(impl.SecretAt(impl.Secrets))
	spoil(impl.SecretAt(-1))
	for _, text := range textsToSign() {
		before := strings.Clone(text)
		padded, sig := impl.Padded(text), impl.SignWith(0, text)
		if shares(padded, text) || shares(sig, text) || shares(padded, sig) || shares(padded, impl.Padded(text)) || shares(sig, impl.SignWith(0, text)) {
			t.Errorf("text of %d bytes: answers share memory", len(text))
		}
		if !impl.SigOk(impl.PublicAt(0), text, sig) || text != before {
			t.Errorf("text of %d bytes: what was handed in is written to", len(text))
		}
	}
}
