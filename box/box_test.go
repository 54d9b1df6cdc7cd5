package box

import (
	"math"
	"testing"

	"bootstair/api"
	"bootstair/bank"
	"bootstair/plain"
)

const last = api.Modulo - 1 // the greatest measure

// What register 0 is, by mask 1, where a Lid is the least and the greatest one, and where the cover is the greatest.
const (
	lidFirst  = 682663
	lidLast   = 23992
	coverLast = 365324
)

func tens() api.Bank { return api.Bank{11, 22, 33, 44, 55, 66, 77, 88} }

func with(b api.Bank, i, n int) api.Bank {
	b[i] = n
	return b
}

func filled(n int) (b api.Bank) {
	for i := range b {
		b[i] = n
	}
	return b
}

func boxOf(mask, lid, inside int) api.Box { return api.Box{Mask: mask, Lid: lid, Inside: inside} }

func noMeasures() []int { return []int{-1, api.Modulo, math.MinInt, math.MaxInt} }

func noMasks() []int { return []int{-1, 256, 511, 1<<40 + 1, math.MinInt, math.MaxInt} }

// expect holds an answer and an error against what is wanted.
func expect[T comparable](t *testing.T, call string, got T, err error, want T, wantErr api.Errno) {
	t.Helper()
	if got != want || plain.Told(err) != wantErr || err != nil && wantErr == api.OK {
		t.Errorf("%s: got %v, %v; want %v, %v", call, got, err, want, wantErr)
	}
}

// expectClose holds Close against a box, or against an error.
func expectClose(t *testing.T, secret, mask int, b api.Bank, want api.Box, wantErr api.Errno) {
	t.Helper()
	got, err := Close(secret, mask, b)
	expect(t, "Close", got, err, want, wantErr)
}

// expectOpen holds Open against a secret, or against an error.
func expectOpen(t *testing.T, x api.Box, b api.Bank, want int, wantErr api.Errno) {
	t.Helper()
	got, err := Open(x, b)
	expect(t, "Open", got, err, want, wantErr)
}

// TestWorkedOut: boxes that were worked out apart from the program close so, and open so.
func TestWorkedOut(t *testing.T) {
	for _, c := range []struct {
		secret int
		b      api.Bank
		x      api.Box
	}{
		{0, api.Bank{}, boxOf(0, 2, 3)},
		{5, api.Bank{}, boxOf(0, 2, 8)},
		{last - 3, api.Bank{}, boxOf(0, 2, last)},
		{last - 2, api.Bank{}, boxOf(0, 2, 0)},
		{last, api.Bank{}, boxOf(0, 2, 2)},
		{5, api.Bank{}, boxOf(1, 7921, 7927)},
		{5, api.Bank{}, boxOf(128, 7921, 7927)},
		{5, api.Bank{}, boxOf(255, 226201, 226207)},
		{5, tens(), boxOf(0, 2, 8)},
		{5, tens(), boxOf(1, 95030, 95036)},
		{5, tens(), boxOf(3, 706615, 706621)},
		{5, tens(), boxOf(85, 972800, 972806)},
		{5, tens(), boxOf(128, 704793, 704799)},
		{5, tens(), boxOf(170, 138291, 138297)},
		{5, tens(), boxOf(254, 219012, 219018)},
		{0, tens(), boxOf(255, 638707, 638708)},
		{1, tens(), boxOf(255, 638707, 638709)},
		{last - 1, tens(), boxOf(255, 638707, 638706)},
		{last, tens(), boxOf(255, 638707, 638707)},
		{5, filled(last), boxOf(255, 2, 8)},
		{0, api.Bank{lidFirst}, boxOf(1, 0, 1)},
		{last, api.Bank{lidFirst}, boxOf(1, 0, 0)},
		{0, api.Bank{lidLast}, boxOf(1, last, 0)},
		{last, api.Bank{lidLast}, boxOf(1, last, last)},
		{0, api.Bank{coverLast}, boxOf(1, last-1, last)},
		{1, api.Bank{coverLast}, boxOf(1, last-1, 0)},
		{last, api.Bank{coverLast}, boxOf(1, last-1, last-1)},
	} {
		expectClose(t, c.secret, c.x.Mask, c.b, c.x, api.OK)
		expectOpen(t, c.x, c.b, c.secret, api.OK)
	}
}

// TestOpensWhereClosed: it opens by each mask, and in another bank where no register that the mask asks for differs.
func TestOpensWhereClosed(t *testing.T) {
	for mask := range 256 {
		for _, secret := range []int{0, 1, 500000, last} {
			x, err := Close(secret, mask, tens())
			expect(t, "Close", x.Mask, err, mask, api.OK)
			expectOpen(t, x, tens(), secret, api.OK)
			for i := range api.Registers {
				if other := with(tens(), i, 1); mask>>i%2 == 0 {
					expectOpen(t, x, other, secret, api.OK)
				} else {
					expectOpen(t, x, other, 0, api.ErrSeal)
				}
			}
		}
	}
}

// TestNotOnceFurther: a register that went further does not come back, and what was closed ahead stays closed.
func TestNotOnceFurther(t *testing.T) {
	x, err := Close(77, 4, tens())
	expect(t, "Close", x.Mask, err, 4, api.OK)
	further, err := bank.Extend(tens(), 2, 0)
	expect(t, "Extend", further[2] != tens()[2], err, true, api.OK)
	expectOpen(t, x, further, 0, api.ErrSeal)
	expectOpen(t, x, tens(), 77, api.OK)
	beside, err := bank.Extend(tens(), 3, 0)
	expect(t, "Extend", beside[3] != tens()[3], err, true, api.OK)
	expectOpen(t, x, beside, 77, api.OK)
}

// TestLidIsOfTheDigest: it is the Digest that a Lid is made of, so banks and masks of one Digest open the same box.
func TestLidIsOfTheDigest(t *testing.T) {
	a, b := api.Bank{0: 0, 1: 7919}, api.Bank{0: 1, 1: 0}
	x, err := Close(9, 3, a)
	expect(t, "Close", x.Mask, err, 3, api.OK)
	expectOpen(t, x, b, 9, api.OK)
	expectOpen(t, boxOf(1, 7921, 7927), api.Bank{}, 5, api.OK)
	expectOpen(t, boxOf(64, 7921, 7927), api.Bank{}, 5, api.OK)
}

// TestOpenAnyInside: what is inside is not sealed, so each measure there is some secret, and the Lid alone tells.
func TestOpenAnyInside(t *testing.T) {
	for _, c := range []struct{ inside, want int }{
		{0, 361295}, {1, 361296}, {638707, last}, {638708, 0}, {638709, 1}, {last, 361294},
	} {
		expectOpen(t, boxOf(255, 638707, c.inside), tens(), c.want, api.OK)
		expectOpen(t, boxOf(255, 638706, c.inside), tens(), 0, api.ErrSeal)
	}
}

func TestOpenWrongLid(t *testing.T) {
	for _, lid := range []int{0, 1, 2, 638706, 638708, last} {
		expectOpen(t, boxOf(255, lid, 638713), tens(), 0, api.ErrSeal)
	}
	for _, mask := range []int{0, 1, 127, 254} { // the Lid is that of another mask
		expectOpen(t, boxOf(mask, 638707, 638713), tens(), 0, api.ErrSeal)
	}
	expectOpen(t, api.Box{}, api.Bank{}, 0, api.ErrSeal)
	expectOpen(t, boxOf(1, last, 0), api.Bank{lidFirst}, 0, api.ErrSeal)
	expectOpen(t, boxOf(1, 0, 1), api.Bank{lidLast}, 0, api.ErrSeal)
}

func TestCloseWrong(t *testing.T) {
	for _, n := range noMeasures() {
		expectClose(t, n, 0, api.Bank{}, api.Box{}, api.ErrRange)
		expectClose(t, n, 255, tens(), api.Box{}, api.ErrRange)
		expectClose(t, n, 256, with(tens(), 0, -1), api.Box{}, api.ErrRange)
	}
	for _, mask := range noMasks() {
		expectClose(t, 5, mask, tens(), api.Box{}, api.ErrRange)
	}
	for i := range api.Registers {
		for _, n := range noMeasures() {
			for _, mask := range []int{0, 1 << i, 255 - 1<<i, 255} { // whether it is asked for or not
				expectClose(t, 5, mask, with(tens(), i, n), api.Box{}, api.ErrRange)
			}
		}
	}
}

func TestOpenWrongNumbers(t *testing.T) {
	for _, n := range noMeasures() {
		expectOpen(t, boxOf(255, n, 638713), tens(), 0, api.ErrRange)
		expectOpen(t, boxOf(255, 638707, n), tens(), 0, api.ErrRange)
		expectOpen(t, boxOf(255, n, n), tens(), 0, api.ErrRange)
	}
	for _, n := range []int{api.Modulo, -api.Modulo} { // alike by Modulo is not enough
		expectOpen(t, boxOf(255, 638707+n, 638713), tens(), 0, api.ErrRange)
		expectOpen(t, boxOf(255, 638707, 638713+n), tens(), 0, api.ErrRange)
	}
	for _, mask := range noMasks() {
		expectOpen(t, boxOf(mask, 638707, 638713), tens(), 0, api.ErrRange)
	}
	for i := range api.Registers {
		for _, n := range noMeasures() {
			bad := with(tens(), i, n)
			expectOpen(t, boxOf(0, 2, 8), bad, 0, api.ErrRange) // no register is asked for
			expectOpen(t, boxOf(255, 638707, 638713), bad, 0, api.ErrRange)
		}
	}
}

// TestOpenRangeFirst: a number that may not be is told ahead of a Lid that is not the bank's.
func TestOpenRangeFirst(t *testing.T) {
	const wrongLid = 4
	for _, n := range noMeasures() {
		expectOpen(t, boxOf(255, wrongLid, n), tens(), 0, api.ErrRange)
		expectOpen(t, boxOf(255, wrongLid, 5), with(tens(), 7, n), 0, api.ErrRange)
		expectOpen(t, boxOf(0, wrongLid, 5), with(tens(), 0, n), 0, api.ErrRange)
	}
	for _, mask := range noMasks() {
		expectOpen(t, boxOf(mask, wrongLid, 5), tens(), 0, api.ErrRange)
	}
}
