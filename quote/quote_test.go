package quote

import (
	"math"
	"testing"

	"bootstair/api"
	"bootstair/bank"
	"bootstair/key"
	"bootstair/plain"
)

const (
	last   = api.Modulo - 1 // the greatest measure
	public = 527            // of the secret 5
)

func tens() api.Bank { return api.Bank{11, 22, 33, 44, 55, 66, 77, 88} }

func with(b api.Bank, i, n int) api.Bank {
	b[i] = n
	return b
}

func filled(n int) (b api.Bank) {
	for i := range b {
		b[i] = n
	}
	return b
}

func quoteOf(nonce, mask, digest, point, answer int) api.Quote {
	return api.Quote{Nonce: nonce, Mask: mask, Digest: digest, Seal: api.Seal{Point: point, Answer: answer}}
}

// whole is of all of tens, for the nonce 9, by the secrets 5 and 7.
func whole() api.Quote { return quoteOf(9, 255, 198970, 1478, 229) }

func noMeasures() []int { return []int{-1, api.Modulo, api.Modulo + 9, math.MinInt, math.MaxInt} }

func noMasks() []int { return []int{-1, 256, 511, 1<<40 + 1, math.MinInt, math.MaxInt} }

func noSecrets() []int { return []int{0, -1, api.Order, api.Order + 5, math.MinInt, math.MaxInt} }

func noPublics() []int { return []int{0, -1, api.Group, api.Group + public, math.MinInt, math.MaxInt} }

// expect holds an answer and an error against what is wanted.
func expect[T comparable](t *testing.T, call string, got T, err error, want T, wantErr api.Errno) {
	t.Helper()
	if got != want || plain.Told(err) != wantErr || err != nil && wantErr == api.OK {
		t.Errorf("%s: got %v, %v; want %v, %v", call, got, err, want, wantErr)
	}
}

// expectCheck holds Check against an error, or against none.
func expectCheck(t *testing.T, public int, q api.Quote, nonce int, want api.Errno) {
	t.Helper()
	expect(t, "Check", q, Check(public, q, nonce), q, want)
}

// expectTells holds Tells against an answer, or against an error.
func expectTells(t *testing.T, q api.Quote, b api.Bank, want bool, wantErr api.Errno) {
	t.Helper()
	got, err := Tells(q, b)
	expect(t, "Tells", got, err, want, wantErr)
}

type made struct {
	x, k, public int
	b            api.Bank
	q            api.Quote
}

// right are quotes that were worked out apart from the program, with what they are made of.
func right() []made {
	return []made{
		{1, 1, 64, api.Bank{}, quoteOf(0, 0, 0, 64, 178)},
		{5, 7, 527, api.Bank{}, quoteOf(0, 0, 0, 1478, 22)},
		{5, 7, 527, api.Bank{}, quoteOf(1, 0, 0, 1478, 77)},
		{5, 7, 527, api.Bank{}, quoteOf(9, 1, 1, 1478, 8)},
		{5, 7, 527, api.Bank{}, quoteOf(9, 128, 1, 1478, 31)}, // one Digest, and another mask: another seal
		{5, 7, 527, api.Bank{}, quoteOf(9, 255, 274559, 1478, 127)},
		{5, 7, 527, tens(), quoteOf(9, 0, 0, 1478, 243)},
		{5, 7, 527, tens(), quoteOf(9, 1, 12, 1478, 63)},
		{5, 7, 527, tens(), quoteOf(9, 3, 95051, 1478, 19)},
		{5, 7, 527, tens(), quoteOf(9, 85, 909205, 1478, 195)},
		{5, 7, 527, tens(), quoteOf(9, 128, 89, 1478, 214)},
		{5, 7, 527, tens(), quoteOf(9, 170, 680661, 1478, 0)},
		{5, 7, 527, tens(), quoteOf(9, 254, 102945, 1478, 163)},
		{5, 7, 527, tens(), whole()},
		{5, 7, 527, tens(), quoteOf(0, 255, 198970, 1478, 88)},
		{5, 7, 527, tens(), quoteOf(last, 255, 198970, 1478, 210)},
		{5, 8, 527, tens(), quoteOf(9, 255, 198970, 469, 17)},
		{6, 7, 1325, tens(), quoteOf(9, 255, 198970, 1478, 94)},
		{7, 5, 1478, tens(), quoteOf(9, 255, 198970, 527, 61)},
		{1, 256, 64, tens(), quoteOf(9, 255, 198970, 217, 256)},
		{256, 1, 217, tens(), quoteOf(9, 255, 198970, 64, 255)},
		{60, 47, 197, tens(), quoteOf(0, 0, 0, 366, 160)},
		{200, 100, 1456, tens(), quoteOf(500000, 15, 920853, 410, 206)},
		{1, 1, 64, filled(last), quoteOf(last, 255, 0, 64, 231)},
		{256, 256, 217, filled(last), quoteOf(last, 255, 0, 217, 116)},
		{5, 7, 527, api.Bank{last - 1}, quoteOf(9, 1, last, 1478, 255)},
		{5, 7, 527, api.Bank{last}, quoteOf(9, 1, 0, 1478, 3)},
	}
}

// TestWorkedOut: each is made so, is right for who asked, and tells of its bank.
func TestWorkedOut(t *testing.T) {
	for _, c := range right() {
		got, err := Make(c.x, c.k, c.q.Nonce, c.q.Mask, c.b)
		expect(t, "Make", got, err, c.q, api.OK)
		expectCheck(t, c.public, c.q, c.q.Nonce, api.OK)
		expectTells(t, c.q, c.b, true, api.OK)
	}
}

// TestEachSecret: who has the secret seals, and each quote is right by its key.
func TestEachSecret(t *testing.T) {
	for x := 1; x < api.Order; x++ {
		of, _ := key.Public(x)
		for _, k := range []int{1, x, 256} {
			nonce := x * k
			q, err := Make(x, k, nonce, x-1, tens())
			expect(t, "Make", q.Nonce, err, nonce, api.OK)
			expectCheck(t, of, q, nonce, api.OK)
		}
	}
}

// TestCheckOtherQuestion: a quote that is right answers one nonce, and no other.
func TestCheckOtherQuestion(t *testing.T) {
	for _, nonce := range []int{0, 8, 10, 107, 198970, last} {
		expectCheck(t, public, whole(), nonce, api.ErrClash)
	}
	for _, c := range right() {
		other := (c.q.Nonce + 1) % api.Modulo
		expectCheck(t, c.public, c.q, other, api.ErrClash)
	}
}

// TestCheckChanged: what is sealed is the nonce, the mask and the digest, by one key.
func TestCheckChanged(t *testing.T) {
	for _, q := range []api.Quote{
		quoteOf(8, 255, 198970, 1478, 229),
		quoteOf(10, 255, 198970, 1478, 229),
		quoteOf(last, 255, 198970, 1478, 229),
		quoteOf(9, 0, 198970, 1478, 229),
		quoteOf(9, 254, 198970, 1478, 229),
		quoteOf(9, 255, 0, 1478, 229),
		quoteOf(9, 255, 198969, 1478, 229),
		quoteOf(9, 255, 198971, 1478, 229),
		quoteOf(9, 255, last, 1478, 229),
		quoteOf(9, 255, 198970, 1477, 229),
		quoteOf(9, 255, 198970, 1, 229),
		quoteOf(9, 255, 198970, api.Group-1, 229),
		quoteOf(255, 9, 198970, 1478, 229), // nonce and mask are told in order
	} {
		expectCheck(t, public, q, q.Nonce, api.ErrSeal)
	}
	for mask := range 255 {
		expectCheck(t, public, quoteOf(9, mask, 198970, 1478, 229), 9, api.ErrSeal)
	}
	for answer := range api.Order {
		if answer != 229 {
			expectCheck(t, public, quoteOf(9, 255, 198970, 1478, answer), 9, api.ErrSeal)
		}
	}
	for _, other := range []int{1, 64, 1325, 1478, api.Group - 1} {
		expectCheck(t, other, whole(), 9, api.ErrSeal)
	}
}

// TestCheckOfOneMeasure: a seal is of All of the three, so others of the same All, or of the same challenge, are right.
func TestCheckOfOneMeasure(t *testing.T) {
	for _, q := range []api.Quote{
		quoteOf(10, 255, 488598, 1478, 229),
		quoteOf(9, 254, 206889, 1478, 229),
		quoteOf(107, 255, 198970, 1478, 229),
		quoteOf(9, 255, 198970+api.Order, 1478, 229),
	} {
		expectCheck(t, public, q, q.Nonce, api.OK)
	}
}

// TestCheckWithoutBank: Check asks for the seal, and not for whether a bank can have such a Digest.
func TestCheckWithoutBank(t *testing.T) {
	seal, err := key.Sign(5, 7, 111654) // All of 9, 0 and 5, worked out apart: no register is asked for
	expect(t, "Sign", seal.Point, err, 1478, api.OK)
	q := quoteOf(9, 0, 5, seal.Point, seal.Answer)
	expectCheck(t, public, q, 9, api.OK)
	expectTells(t, q, tens(), false, api.OK)
}

func TestCheckWrongNumbers(t *testing.T) {
	for _, n := range noMeasures() {
		expectCheck(t, public, whole(), n, api.ErrRange)
		expectCheck(t, public, quoteOf(n, 255, 198970, 1478, 229), 9, api.ErrRange)
		expectCheck(t, public, quoteOf(n, 255, 198970, 1478, 229), n, api.ErrRange)
		expectCheck(t, public, quoteOf(9, 255, n, 1478, 229), 9, api.ErrRange)
	}
	for _, mask := range noMasks() {
		expectCheck(t, public, quoteOf(9, mask, 198970, 1478, 229), 9, api.ErrRange)
	}
	expectCheck(t, public, quoteOf(9, 256, 191051, 1478, 229), 9, api.ErrRange) // the same All, but no mask
	for _, n := range noPublics() {
		expectCheck(t, n, whole(), 9, api.ErrRange)
		expectCheck(t, public, quoteOf(9, 255, 198970, n, 229), 9, api.ErrRange)
	}
	for _, n := range []int{-1, api.Order, api.Order + 229, math.MinInt, math.MaxInt} {
		expectCheck(t, public, quoteOf(9, 255, 198970, 1478, n), 9, api.ErrRange)
	}
	expectCheck(t, public, api.Quote{}, 0, api.ErrRange) // its Point is 0
}

// TestCheckInOrder: ErrRange ahead of ErrSeal, and that ahead of ErrClash.
func TestCheckInOrder(t *testing.T) {
	const wrongAnswer, otherNonce = 230, 8
	expectCheck(t, public, quoteOf(9, 255, 198970, 1478, wrongAnswer), otherNonce, api.ErrSeal)
	expectCheck(t, 64, whole(), otherNonce, api.ErrSeal)
	for _, n := range noMeasures() {
		expectCheck(t, public, quoteOf(9, 255, 198970, 1478, wrongAnswer), n, api.ErrRange)
		expectCheck(t, public, quoteOf(n, 255, 198970, 1478, wrongAnswer), otherNonce, api.ErrRange)
		expectCheck(t, public, quoteOf(9, 255, n, 1478, wrongAnswer), otherNonce, api.ErrRange)
	}
	for _, mask := range noMasks() {
		expectCheck(t, public, quoteOf(9, mask, 198970, 1478, wrongAnswer), otherNonce, api.ErrRange)
	}
	for _, n := range noPublics() {
		expectCheck(t, n, whole(), otherNonce, api.ErrRange)
		expectCheck(t, public, quoteOf(9, 255, 198970, n, wrongAnswer), otherNonce, api.ErrRange)
	}
	expectCheck(t, public, quoteOf(9, 255, 198970, 1478, api.Order), otherNonce, api.ErrRange)
}

func TestMakeWrong(t *testing.T) {
	refused := func(x, k, nonce, mask int, b api.Bank) {
		t.Helper()
		got, err := Make(x, k, nonce, mask, b)
		expect(t, "Make", got, err, api.Quote{}, api.ErrRange)
	}
	for _, n := range noSecrets() {
		refused(n, 7, 9, 255, tens())
		refused(5, n, 9, 255, tens())
		refused(n, n, -1, 256, filled(-1))
	}
	for _, n := range noMeasures() {
		refused(5, 7, n, 255, tens())
		refused(5, 7, n, 0, api.Bank{})
	}
	for _, mask := range noMasks() {
		refused(5, 7, 9, mask, tens())
	}
	for i := range api.Registers {
		for _, n := range noMeasures() {
			for _, mask := range []int{0, 1 << i, 255 - 1<<i, 255} { // whether it is asked for or not
				refused(5, 7, 9, mask, with(tens(), i, n))
			}
		}
	}
}

// TestTellsByEachMask: what differs in one register is told by the masks that ask for it, and by no other.
func TestTellsByEachMask(t *testing.T) {
	for mask := range 256 {
		q, err := Make(5, 7, 9, mask, tens())
		expect(t, "Make", q.Mask, err, mask, api.OK)
		expectTells(t, q, tens(), true, api.OK)
		for i := range api.Registers {
			expectTells(t, q, with(tens(), i, 1), mask>>i%2 == 0, api.OK)
		}
	}
}

// TestTellsNotOnceFurther: a register that went further is told of no more.
func TestTellsNotOnceFurther(t *testing.T) {
	q, err := Make(5, 7, 9, 4, tens())
	expect(t, "Make", q.Mask, err, 4, api.OK)
	for i := range api.Registers {
		further, err := bank.Extend(tens(), i, 0)
		expect(t, "Extend", further[i] != tens()[i], err, true, api.OK)
		expectTells(t, q, further, i != 2, api.OK)
	}
}

// TestTellsOfDigestAlone: neither the nonce nor the seal is asked, and banks of one Digest are the same to it.
func TestTellsOfDigestAlone(t *testing.T) {
	for _, n := range append(noMeasures(), 0, 1, last) {
		expectTells(t, quoteOf(n, 255, 198970, n, n), tens(), true, api.OK)
		expectTells(t, quoteOf(n, 255, 198971, n, n), tens(), false, api.OK)
	}
	expectTells(t, api.Quote{}, api.Bank{}, true, api.OK)
	expectTells(t, api.Quote{}, tens(), true, api.OK)
	expectTells(t, api.Quote{Digest: last}, tens(), false, api.OK)
	expectTells(t, api.Quote{Mask: 3, Digest: 7920}, api.Bank{0: 0, 1: 7919}, false, api.OK)
	expectTells(t, api.Quote{Mask: 3, Digest: 15839}, api.Bank{0: 0, 1: 7919}, true, api.OK)
	expectTells(t, api.Quote{Mask: 3, Digest: 15839}, api.Bank{0: 1, 1: 0}, true, api.OK)
}

func TestTellsWrong(t *testing.T) {
	for _, n := range noMeasures() {
		expectTells(t, api.Quote{Mask: 255, Digest: n}, tens(), false, api.ErrRange)
		expectTells(t, api.Quote{Mask: 0, Digest: n}, api.Bank{}, false, api.ErrRange)
	}
	for _, n := range []int{api.Modulo, -api.Modulo} { // alike by Modulo is not enough
		expectTells(t, api.Quote{Mask: 255, Digest: 198970 + n}, tens(), false, api.ErrRange)
	}
	for _, mask := range noMasks() {
		expectTells(t, api.Quote{Mask: mask, Digest: 198970}, tens(), false, api.ErrRange)
	}
	for i := range api.Registers {
		for _, n := range noMeasures() {
			bad := with(tens(), i, n)
			expectTells(t, api.Quote{}, bad, false, api.ErrRange) // no register is asked for
			expectTells(t, whole(), bad, false, api.ErrRange)
		}
	}
}
