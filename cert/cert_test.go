package cert

import (
	"math"
	"slices"
	"testing"

	"bootstair/api"
	"bootstair/key"
	"bootstair/plain"
)

const root = 527 // the public key of the secret 5

// expect holds an answer and an error against what is wanted.
func expect[T comparable](t *testing.T, call string, got T, err error, want T, wantErr api.Errno) {
	t.Helper()
	if got != want || plain.Told(err) != wantErr || err != nil && wantErr == api.OK {
		t.Errorf("%s: got %v, %v; want %v, %v", call, got, err, want, wantErr)
	}
}

// noKeys are numbers round the public keys, and far from them.
func noKeys() []int { return []int{0, -1, api.Group, api.Group + 64, math.MinInt, math.MaxInt} }

func cert(public, point, answer int) api.Cert {
	return api.Cert{Key: public, Seal: api.Seal{Point: point, Answer: answer}}
}

// chain is one more than may be: the key of the secret 6 sealed by the secret 5, that of 7 by 6, and so on.
func chain() []api.Cert {
	return []api.Cert{
		cert(1325, 754, 98), cert(1478, 423, 216), cert(469, 841, 37), cert(699, 1362, 166), cert(1532, 760, 210),
		cert(839, 807, 184), cert(1234, 729, 94), cert(283, 366, 121), cert(1139, 279, 8), cert(375, 883, 176),
		cert(855, 964, 0), cert(715, 1519, 3), cert(1013, 7, 142),
	}
}

func TestMake(t *testing.T) {
	for _, c := range []struct {
		x, k int
		want api.Cert
	}{
		{1, 1, cert(1, 64, 215)},
		{5, 7, cert(64, 1478, 8)},
		{5, 8, cert(1478, 469, 104)},
		{7, 5, cert(527, 527, 217)},
		{60, 47, cert(927, 366, 183)},
		{200, 100, cert(1, 410, 20)},
		{200, 100, cert(1542, 410, 77)}, // no secret has this key
		{256, 256, cert(1542, 217, 133)},
	} {
		got, err := Make(c.x, c.k, c.want.Key)
		expect(t, "Make", got, err, c.want, api.OK)
	}
}

func TestMakeOfWrongNumbers(t *testing.T) {
	refused := func(x, k, public int) {
		t.Helper()
		got, err := Make(x, k, public)
		expect(t, "Make", got, err, api.Cert{}, api.ErrRange)
	}
	for _, n := range noKeys() {
		refused(5, 7, n)
		refused(n, 7, 64)
		refused(5, n, 64)
		refused(n, n, n)
	}
	refused(api.Order, 7, 64)
	refused(5, api.Order, 64)
}

// TestLast: at each length the key of the last one, and the root's own where there is none.
func TestLast(t *testing.T) {
	want := root
	for n := range api.MaxList + 1 {
		got, err := Last(root, chain()[:n])
		expect(t, "Last", got, err, want, api.OK)
		want = chain()[n].Key
	}
	for _, public := range []int{1, 2, api.Group - 1} {
		got, err := Last(public, nil)
		expect(t, "Last", got, err, public, api.OK)
	}
}

// TestLastOfKeysWithoutSecret: a seal is right by its numbers, whether or not anybody has the secret.
func TestLastOfKeysWithoutSecret(t *testing.T) {
	got, err := Last(1542, []api.Cert{cert(1, 1542, 0), cert(1542, 64, 1), cert(2, 1, 0), cert(105, 1, 0)})
	expect(t, "Last", got, err, 105, api.OK)
}

// TestLastOfWhatWasMade: what Make seals, Last goes through, from any secret to any key.
func TestLastOfWhatWasMade(t *testing.T) {
	for x := 1; x < api.Order; x++ {
		public, _ := key.Public(x)
		made, err := Make(x, api.Order-x, 6*x)
		expect(t, "Make", made.Key, err, 6*x, api.OK)
		got, err := Last(public, []api.Cert{made})
		expect(t, "Last", got, err, 6*x, api.OK)
	}
}

func TestLastOfTooMany(t *testing.T) {
	for _, public := range []int{root, 0, api.Group} { // told ahead of a wrong root
		got, err := Last(public, chain())
		expect(t, "Last", got, err, 0, api.ErrFull)
		got, err = Last(public, make([]api.Cert, 1000))
		expect(t, "Last", got, err, 0, api.ErrFull)
	}
}

func TestLastOfWrongRoot(t *testing.T) {
	for _, public := range noKeys() {
		for _, l := range [][]api.Cert{nil, {}, chain()[:2], {cert(64, 1, 1)}} {
			got, err := Last(public, l)
			expect(t, "Last", got, err, 0, api.ErrRange)
		}
	}
	got, err := Last(1325, chain()[:2]) // the key of another one
	expect(t, "Last", got, err, 0, api.ErrSeal)
}

// changed is the longest chain with another cert at one place.
func changed(at int, to api.Cert) []api.Cert {
	l := chain()[:api.MaxList]
	l[at] = to
	return l
}

func TestLastOfWrongSeal(t *testing.T) {
	for i, c := range chain()[:api.MaxList] {
		for _, to := range []api.Cert{
			cert(c.Key, c.Seal.Point, (c.Seal.Answer+1)%api.Order),
			cert(c.Key, c.Seal.Point-1, c.Seal.Answer),
			cert(c.Key-1, c.Seal.Point, c.Seal.Answer),
			chain()[i+1], // one is left out
		} {
			got, err := Last(root, changed(i, to))
			expect(t, "Last", got, err, 0, api.ErrSeal)
		}
	}
}

func TestLastOfWrongNumbers(t *testing.T) {
	refused := func(at int, to api.Cert) {
		t.Helper()
		got, err := Last(root, changed(at, to))
		expect(t, "Last", got, err, 0, api.ErrRange)
	}
	for i, c := range chain()[:api.MaxList] {
		for _, n := range noKeys() {
			refused(i, cert(n, c.Seal.Point, c.Seal.Answer))
			refused(i, cert(c.Key, n, c.Seal.Answer))
		}
		for _, n := range []int{-1, api.Order, math.MinInt, math.MaxInt} {
			refused(i, cert(c.Key, c.Seal.Point, n))
		}
	}
	// The seals of these are right: a number that is no key is refused as such.
	refused(0, cert(0, 1478, 202))
	refused(0, cert(api.Group, 1478, 207))
	refused(0, cert(api.Modulo-1, 1478, 197))
}

// TestLastTellsTheFirstFault: one by one, so a wrong seal ahead hides a wrong number behind it, and the other way round.
func TestLastTellsTheFirstFault(t *testing.T) {
	bad, none := cert(64, 1, 1), cert(0, 1, 1)
	for _, c := range []struct {
		l    []api.Cert
		want api.Errno
	}{
		{[]api.Cert{bad, none}, api.ErrSeal},
		{[]api.Cert{none, bad}, api.ErrRange},
		{[]api.Cert{chain()[0], bad, none}, api.ErrSeal},
		{[]api.Cert{chain()[0], none, bad}, api.ErrRange},
	} {
		got, err := Last(root, c.l)
		expect(t, "Last", got, err, 0, c.want)
	}
}

func TestLastWritesNothing(t *testing.T) {
	for _, l := range [][]api.Cert{chain()[:api.MaxList], changed(3, cert(64, 1, 1))} {
		was := slices.Clone(l)
		first, errFirst := Last(root, l)
		again, errAgain := Last(root, l)
		if !slices.Equal(l, was) || first != again || errFirst != errAgain {
			t.Errorf("Last of %v left %v, and told %v, then %v", was, l, first, again)
		}
	}
}
