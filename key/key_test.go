package key

import (
	"math"
	"testing"

	"bootstair/api"
	"bootstair/plain"
)

const last = api.Modulo - 1 // the greatest measure

// expect holds an answer and an error against what is wanted.
func expect[T comparable](t *testing.T, call string, got T, err error, want T, wantErr api.Errno) {
	t.Helper()
	if got != want || plain.Told(err) != wantErr || err != nil && wantErr == api.OK {
		t.Errorf("%s: got %v, %v; want %v, %v", call, got, err, want, wantErr)
	}
}

// noSecrets are numbers round the secrets, and far from them.
func noSecrets() []int {
	return []int{0, -1, -256, api.Order, api.Order + 1, api.Group, math.MinInt, math.MaxInt}
}

func noMeasures() []int { return []int{-1, api.Modulo, math.MinInt, math.MaxInt} }

func TestPublic(t *testing.T) {
	for x, want := range map[int]int{1: 64, 2: 1010, 3: 1377, 60: 197, 128: 193, 200: 1456, 255: 799, 256: 217} {
		got, err := Public(x)
		expect(t, "Public", got, err, want, api.OK)
	}
	for _, x := range noSecrets() {
		got, err := Public(x)
		expect(t, "Public", got, err, 0, api.ErrRange)
	}
}

// TestPublicIsOfOneSecret: no two secrets have the same public key, and each is one power further.
func TestPublicIsOfOneSecret(t *testing.T) {
	of := map[int]int{}
	want := 1
	for x := 1; x < api.Order; x++ {
		want = want * api.Base % api.Group
		got, err := Public(x)
		expect(t, "Public", got, err, want, api.OK)
		if of[got] != 0 {
			t.Errorf("%d is the public key of %d and of %d", got, of[got], x)
		}
		of[got] = x
	}
}

type sealed struct {
	x, k, m int
	seal    api.Seal
}

// right are secrets and measures with the seal that is made of them.
func right() []sealed {
	return []sealed{
		{1, 1, 0, api.Seal{Point: 64, Answer: 214}},
		{60, 47, 0, api.Seal{Point: 366, Answer: 75}},
		{1, 256, 0, api.Seal{Point: 217, Answer: 29}},
		{256, 1, 0, api.Seal{Point: 64, Answer: 209}},
		{256, 256, last, api.Seal{Point: 217, Answer: 134}},
		{128, 2, 1, api.Seal{Point: 1010, Answer: 230}},
		{5, 7, 355, api.Seal{Point: 1478, Answer: 178}},
		{7, 5, 355, api.Seal{Point: 527, Answer: 41}},
		{5, 7, 356, api.Seal{Point: 1478, Answer: 183}},
		{5, 8, 355, api.Seal{Point: 469, Answer: 143}},
		{6, 7, 355, api.Seal{Point: 1478, Answer: 91}},
		{200, 100, last, api.Seal{Point: 410, Answer: 134}},
		{200, 100, last - 1, api.Seal{Point: 410, Answer: 191}},
		{5, 1, 24, api.Seal{Point: 64, Answer: 256}},
		{5, 1, 127, api.Seal{Point: 64, Answer: 0}},
		{5, 1, 229, api.Seal{Point: 64, Answer: 253}}, // the challenge is 256
		{5, 1, 230, api.Seal{Point: 64, Answer: 1}},   // the challenge is 0
	}
}

func TestSign(t *testing.T) {
	for _, c := range right() {
		got, err := Sign(c.x, c.k, c.m)
		expect(t, "Sign", got, err, c.seal, api.OK)
	}
}

func TestSignOfWrongNumbers(t *testing.T) {
	refused := func(x, k, m int) {
		t.Helper()
		got, err := Sign(x, k, m)
		expect(t, "Sign", got, err, api.Seal{}, api.ErrRange)
	}
	for _, n := range noSecrets() {
		refused(n, 7, 355)
		refused(5, n, 355)
		refused(n, n, -1)
	}
	for _, m := range noMeasures() {
		refused(5, 7, m)
	}
}

// TestCheckOfEachSecret: who has the secret seals, and each seal is right.
func TestCheckOfEachSecret(t *testing.T) {
	for x := 1; x < api.Order; x++ {
		public, _ := Public(x)
		for k := 1; k < api.Order; k += 5 {
			s, err := Sign(x, k, x*k)
			expect(t, "Sign", err == nil, err, true, api.OK)
			is, err := Check(public, x*k, s)
			expect(t, "Check", is, err, true, api.OK)
		}
	}
}

// TestCheckOfOneAnswer: of all answers to one point just one is right.
func TestCheckOfOneAnswer(t *testing.T) {
	for _, c := range right() {
		public, _ := Public(c.x)
		for answer := range api.Order {
			is, err := Check(public, c.m, api.Seal{Point: c.seal.Point, Answer: answer})
			expect(t, "Check", is, err, answer == c.seal.Answer, api.OK)
		}
	}
}

func TestCheck(t *testing.T) {
	for _, c := range []struct {
		public, m, point, answer int
		want                     bool
	}{
		{527, 355, 1478, 178, true}, // 527 is of the secret 5
		{527, 356, 1478, 178, false},
		{527, 355, 469, 178, false},
		{527, 355, 1478, 179, false},
		{1478, 355, 1478, 178, false},
		{1542, 0, 1, 0, true}, // no secret has this key
		{1542, 1, 1, 0, false},
		{1542, 1, 1542, 0, true},
		{1542, 2, 1542, 0, false},
		{1542, 1, 1479, 1, true},
		{1542, 2, 1479, 1, false},
		{1, 0, 1, 0, true},
		{1, last, 64, 1, true},
		{1, 0, 64, 2, false},
		{64, 0, 1, 3, true},
		{64, 9, 1, 12, true},
		{64, 9, 1, 3, false},
		{2, 0, 1, 0, false},
	} {
		is, err := Check(c.public, c.m, api.Seal{Point: c.point, Answer: c.answer})
		expect(t, "Check", is, err, c.want, api.OK)
	}
}

func TestCheckOfWrongNumbers(t *testing.T) {
	refused := func(public, m, point, answer int) {
		t.Helper()
		is, err := Check(public, m, api.Seal{Point: point, Answer: answer})
		expect(t, "Check", is, err, false, api.ErrRange)
	}
	for _, n := range []int{0, -1, api.Group, api.Group + 527, math.MinInt, math.MaxInt} {
		refused(n, 355, 1478, 178)
		refused(527, 355, n, 178)
	}
	for _, n := range []int{-1, api.Order, api.Order + 178, math.MinInt, math.MaxInt} {
		refused(527, 355, 1478, n)
	}
	for _, m := range noMeasures() {
		refused(527, m, 1478, 178)
		refused(0, m, 0, -1)
	}
}

func TestHold(t *testing.T) {
	for _, c := range []struct {
		public, m, point, answer int
		want                     api.Errno
	}{
		{527, 355, 1478, 178, api.OK},
		{1542, 0, 1, 0, api.OK},
		{527, 356, 1478, 178, api.ErrSeal},
		{527, 355, 1478, 179, api.ErrSeal},
		{64, 355, 1478, 178, api.ErrSeal},
		{0, 355, 1478, 178, api.ErrRange},
		{527, api.Modulo, 1478, 178, api.ErrRange},
		{527, 355, api.Group, 178, api.ErrRange},
		{527, 355, 1478, api.Order, api.ErrRange},
	} {
		expect(t, "Hold", c.m, Hold(c.public, c.m, api.Seal{Point: c.point, Answer: c.answer}), c.m, c.want)
	}
}

func TestIsSecretAndIsPublic(t *testing.T) {
	for n := -2; n < api.Group+2; n++ {
		if IsSecret(n) != (n >= 1 && n <= 256) || IsPublic(n) != (n >= 1 && n <= 1542) {
			t.Errorf("%d: IsSecret %v, IsPublic %v", n, IsSecret(n), IsPublic(n))
		}
	}
}
