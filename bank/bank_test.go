package bank

import (
	"math"
	"testing"

	"bootstair/api"
	"bootstair/measure"
	"bootstair/plain"
)

const last = api.Modulo - 1 // the greatest measure

func tens() api.Bank { return api.Bank{11, 22, 33, 44, 55, 66, 77, 88} }

func with(b api.Bank, i, n int) api.Bank {
	b[i] = n
	return b
}

func filled(n int) (b api.Bank) {
	for i := range b {
		b[i] = n
	}
	return b
}

func noMeasures() []int { return []int{-1, api.Modulo, math.MinInt, math.MaxInt} }

func noMasks() []int { return []int{-1, 256, 511, 1<<40 + 1, math.MinInt, math.MaxInt} }

// expect holds an answer and an error against what is wanted.
func expect[T comparable](t *testing.T, call string, got T, err error, want T, wantErr api.Errno) {
	t.Helper()
	if got != want || plain.Told(err) != wantErr {
		t.Errorf("%s: got %v, %v; want %v, %v", call, got, err, want, wantErr)
	}
	if wantErr == api.OK && err != nil {
		t.Errorf("%s: the error is %v, not nil", call, err)
	}
}

func TestCheck(t *testing.T) {
	for _, b := range []api.Bank{{}, tens(), filled(last), with(tens(), 3, 0), with(tens(), 7, last)} {
		expect(t, "Check", b, Check(b), b, api.OK)
	}
	for i := range api.Registers {
		for _, n := range noMeasures() {
			b := with(tens(), i, n)
			expect(t, "Check", b, Check(b), b, api.ErrRange)
		}
	}
}

func TestExtend(t *testing.T) {
	for _, c := range []struct {
		b    api.Bank
		i, m int
		want api.Bank
		err  api.Errno
	}{
		{api.Bank{}, 0, 0, api.Bank{1}, api.OK},
		{api.Bank{}, 0, 5, api.Bank{6}, api.OK},
		{api.Bank{6}, 0, 7, api.Bank{47522}, api.OK},
		{api.Bank{}, 7, 5, api.Bank{7: 6}, api.OK},
		{api.Bank{}, 3, last, api.Bank{}, api.OK},
		{api.Bank{last}, 0, 0, api.Bank{992085}, api.OK},
		{api.Bank{last}, 0, last, api.Bank{992084}, api.OK},
		{api.Bank{4: 126}, 4, 2208, api.Bank{}, api.OK},
		{tens(), 0, 100, with(tens(), 0, 87210), api.OK},
		{tens(), 1, 101, with(tens(), 1, 174320), api.OK},
		{tens(), 6, 106, with(tens(), 6, 609870), api.OK},
		{tens(), 7, 107, with(tens(), 7, 696980), api.OK},
		{tens(), -1, 1, api.Bank{}, api.ErrRange},
		{tens(), api.Registers, 1, api.Bank{}, api.ErrRange},
		{tens(), math.MinInt, 1, api.Bank{}, api.ErrRange},
		{tens(), math.MaxInt, 1, api.Bank{}, api.ErrRange},
		{tens(), 0, -1, api.Bank{}, api.ErrRange},
		{tens(), 7, api.Modulo, api.Bank{}, api.ErrRange},
		{tens(), 7, math.MinInt, api.Bank{}, api.ErrRange},
		{tens(), 7, math.MaxInt, api.Bank{}, api.ErrRange},
		{tens(), -1, -1, api.Bank{}, api.ErrRange},
		{with(tens(), 7, -1), 0, 1, api.Bank{}, api.ErrRange}, // another register than the one asked for
		{with(tens(), 0, api.Modulo), 7, 1, api.Bank{}, api.ErrRange},
		{with(tens(), 2, math.MaxInt), 2, 1, api.Bank{}, api.ErrRange},
	} {
		got, err := Extend(c.b, c.i, c.m)
		expect(t, "Extend", got, err, c.want, c.err)
	}
}

// TestExtendOneAlone: one register goes further by chapter 1's Two, and no other moves.
func TestExtendOneAlone(t *testing.T) {
	for i := range api.Registers {
		further, _ := measure.Two(tens()[i], 9)
		got, err := Extend(tens(), i, 9)
		expect(t, "Extend", got, err, with(tens(), i, further), api.OK)
	}
}

// TestExtendInTurn: the same measures in another order come to another register.
func TestExtendInTurn(t *testing.T) {
	b := api.Bank{}
	for _, c := range []struct {
		i, m int
		want api.Bank
	}{
		{0, 5, api.Bank{6}},
		{0, 7, api.Bank{47522}},
		{7, 5, api.Bank{0: 47522, 7: 6}},
		{0, 5, api.Bank{0: 325596, 7: 6}},
		{3, last, api.Bank{0: 325596, 7: 6}},
		{3, 0, api.Bank{0: 325596, 3: 1, 7: 6}},
	} {
		next, err := Extend(b, c.i, c.m)
		expect(t, "Extend", next, err, c.want, api.OK)
		b = next
	}
	one, _ := Extend(api.Bank{}, 2, 5)
	one, _ = Extend(one, 2, 7)
	two, _ := Extend(api.Bank{}, 2, 7)
	two, _ = Extend(two, 2, 5)
	if one == two {
		t.Errorf("5 and 7, and 7 and 5, both come to %v", one)
	}
}

func TestDigest(t *testing.T) {
	for _, c := range []struct {
		b          api.Bank
		mask, want int
	}{
		{api.Bank{}, 0, 0},
		{api.Bank{}, 1, 1},
		{api.Bank{}, 3, 7920},
		{api.Bank{}, 127, 849892},
		{api.Bank{}, 255, 274559},
		{filled(last), 255, 0},
		{tens(), 0, 0},
		{tens(), 1, 12},
		{tens(), 2, 23},
		{tens(), 3, 95051},
		{tens(), 4, 34},
		{tens(), 5, 95062},
		{tens(), 6, 182171},
		{tens(), 64, 78},
		{tens(), 85, 909205},
		{tens(), 127, 754163},
		{tens(), 128, 89},
		{tens(), 129, 95117},
		{tens(), 170, 680661},
		{tens(), 254, 102945},
		{tens(), 255, 198970},
	} {
		got, err := Digest(c.b, c.mask)
		expect(t, "Digest", got, err, c.want, api.OK)
	}
}

func TestDigestWrong(t *testing.T) {
	for _, mask := range noMasks() {
		got, err := Digest(tens(), mask)
		expect(t, "Digest", got, err, 0, api.ErrRange)
	}
	for i := range api.Registers {
		for _, n := range noMeasures() {
			for _, mask := range []int{0, 1 << i, 255 - 1<<i, 255} { // whether it is asked for or not
				got, err := Digest(with(tens(), i, n), mask)
				expect(t, "Digest", got, err, 0, api.ErrRange)
			}
		}
	}
}

func TestSame(t *testing.T) {
	for _, c := range []struct {
		a, b api.Bank
		mask int
		want bool
	}{
		{api.Bank{}, api.Bank{}, 255, true},
		{tens(), tens(), 0, true},
		{tens(), tens(), 255, true},
		{tens(), api.Bank{}, 0, true},
		{tens(), api.Bank{}, 1, false},
		{tens(), api.Bank{}, 255, false},
		{tens(), with(api.Bank{}, 0, 11), 1, true},
		{tens(), with(api.Bank{}, 0, 11), 3, false},
		{tens(), with(api.Bank{}, 7, 88), 128, true},
		{tens(), with(api.Bank{}, 7, 88), 192, false},
		{filled(last), filled(last), 255, true},
		{filled(last), filled(last - 1), 255, false},
		{filled(last), api.Bank{}, 255, false},
	} {
		got, err := Same(c.a, c.b, c.mask)
		expect(t, "Same", got, err, c.want, api.OK)
	}
}

// TestSameByEachMask: what differs in one register is the same by the masks that don't ask for it, and by no other.
func TestSameByEachMask(t *testing.T) {
	for i := range api.Registers {
		for mask := range 256 {
			got, err := Same(tens(), with(tens(), i, 1), mask)
			expect(t, "Same", got, err, mask>>i%2 == 0, api.OK)
			got, err = Same(with(tens(), i, 1), tens(), mask)
			expect(t, "Same", got, err, mask>>i%2 == 0, api.OK)
		}
	}
}

// TestSameIsNotOfDigests: two banks of one digest are not alike when their registers are not.
func TestSameIsNotOfDigests(t *testing.T) {
	a, b := api.Bank{0: 0, 1: 7919}, api.Bank{0: 1, 1: 0}
	one, _ := Digest(a, 3)
	two, _ := Digest(b, 3)
	if one != two {
		t.Fatalf("the digests are %d and %d", one, two)
	}
	got, err := Same(a, b, 3)
	expect(t, "Same", got, err, false, api.OK)
}

func TestSameWrong(t *testing.T) {
	for _, mask := range noMasks() {
		got, err := Same(tens(), tens(), mask)
		expect(t, "Same", got, err, false, api.ErrRange)
	}
	for i := range api.Registers {
		for _, n := range noMeasures() {
			bad := with(tens(), i, n)
			for _, mask := range []int{0, 1 << i, 255 - 1<<i, 255} { // whether it is asked for or not
				got, err := Same(bad, tens(), mask)
				expect(t, "Same", got, err, false, api.ErrRange)
				got, err = Same(tens(), bad, mask)
				expect(t, "Same", got, err, false, api.ErrRange)
				got, err = Same(bad, bad, mask)
				expect(t, "Same", got, err, false, api.ErrRange)
			}
		}
	}
}

func TestIsRegisterAndIsMask(t *testing.T) {
	for n := -2; n < 515; n++ {
		if IsRegister(n) != (n >= 0 && n <= 7) || IsMask(n) != (n >= 0 && n <= 255) {
			t.Errorf("%d: IsRegister %v, IsMask %v", n, IsRegister(n), IsMask(n))
		}
	}
	for _, n := range noMasks() {
		if IsMask(n) {
			t.Errorf("%d is a mask", n)
		}
	}
}
