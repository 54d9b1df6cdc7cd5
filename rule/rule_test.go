package rule

import (
	"math"
	"slices"
	"testing"

	"bootstair/api"
	"bootstair/bank"
	"bootstair/plain"
)

const last = api.Modulo - 1 // the greatest measure

func tens() api.Bank { return api.Bank{11, 22, 33, 44, 55, 66, 77, 88} }

func of(register int, good ...int) api.Rule { return api.Rule{Register: register, Good: good} }

func rules(l ...api.Rule) []api.Rule { return l }

func with(b api.Bank, i, n int) api.Bank {
	b[i] = n
	return b
}

// strict has for each register, in order, a rule that only tens fits.
func strict() (l []api.Rule) {
	for i, n := range tens() {
		l = append(l, of(i, n))
	}
	return l
}

func row(n, count int) []int { return slices.Repeat([]int{n}, count) }

// expect holds an answer and an error against what is wanted.
func expect[T comparable](t *testing.T, call string, got T, err error, want T, wantErr api.Errno) {
	t.Helper()
	if got != want || plain.Told(err) != wantErr || err != nil && wantErr == api.OK {
		t.Errorf("%s: got %v, %v; want %v, %v", call, got, err, want, wantErr)
	}
}

// expectWrong holds Check, Fits with a right bank, and Mask against an error of the rules.
func expectWrong(t *testing.T, l []api.Rule, want api.Errno) {
	t.Helper()
	expect(t, "Check", 0, Check(l), 0, want)
	fits, err := Fits(l, tens())
	expect(t, "Fits", fits, err, false, want)
	mask, err := Mask(l)
	expect(t, "Mask", mask, err, 0, want)
}

func TestCheckRight(t *testing.T) {
	for _, l := range [][]api.Rule{
		nil,
		{},
		rules(of(0)),
		rules(api.Rule{Register: 7, Good: []int{}}),
		rules(of(0, 0, last)),
		rules(of(3, 5, 5, 5)),
		rules(of(7, row(last, api.MaxList)...)),
		rules(of(7, 1), of(0, 1), of(3, 1)),
		strict(),
	} {
		expect(t, "Check", 0, Check(l), 0, api.OK)
	}
}

func TestCheckWrong(t *testing.T) {
	full := row(5, api.MaxList+1)
	for _, c := range []struct {
		l    []api.Rule
		want api.Errno
	}{
		{rules(of(-1, 1)), api.ErrRange},
		{rules(of(api.Registers, 1)), api.ErrRange},
		{rules(of(math.MinInt, 1)), api.ErrRange},
		{rules(of(math.MaxInt, 1)), api.ErrRange},
		{rules(of(0, full...)), api.ErrFull},
		{rules(of(7, row(5, 1000)...)), api.ErrFull},
		{rules(of(0, -1)), api.ErrRange},
		{rules(of(0, api.Modulo)), api.ErrRange},
		{rules(of(0, math.MinInt)), api.ErrRange},
		{rules(of(0, math.MaxInt)), api.ErrRange},
		{rules(of(0, append(row(1, api.MaxList-1), -1)...)), api.ErrRange},
		{rules(of(0, 1), of(0, 1)), api.ErrClash},
		{rules(of(7, 1), of(7)), api.ErrClash},
		{rules(of(4, 1), of(5, 2), of(4, 3)), api.ErrClash},
		{append(strict()[:7], of(0, 1)), api.ErrClash},
	} {
		expectWrong(t, c.l, c.want)
	}
}

// TestCheckTooMany: that they are too many is told ahead of all that is wrong with one of them.
func TestCheckTooMany(t *testing.T) {
	for _, one := range []api.Rule{of(-1, 1), of(0, row(5, 13)...), of(0, -1), of(0, 1), of(8, 1)} {
		expectWrong(t, append(strict(), one), api.ErrFull)
		expectWrong(t, append(rules(one), strict()...), api.ErrFull)
	}
	expectWrong(t, slices.Repeat(rules(of(-1)), 1000), api.ErrFull)
}

// TestCheckOrder: of one rule the fault that is named first is told, of several rules that of the first.
func TestCheckOrder(t *testing.T) {
	full, fullBad := row(5, api.MaxList+1), row(-1, api.MaxList+1)
	for _, c := range []struct {
		l    []api.Rule
		want api.Errno
	}{
		{rules(of(-1, full...)), api.ErrRange},
		{rules(of(8, fullBad...)), api.ErrRange},
		{rules(of(0, fullBad...)), api.ErrFull},
		{rules(of(0, 1), of(0, full...)), api.ErrFull},
		{rules(of(0, 1), of(0, fullBad...)), api.ErrFull},
		{rules(of(0, 1), of(0, -1)), api.ErrRange},
		{rules(of(-1, 1), of(-1, full...)), api.ErrRange},
		{rules(of(0, full...), of(-1, 1)), api.ErrFull},
		{rules(of(0, full...), of(1, -1)), api.ErrFull},
		{rules(of(0, -1), of(1, full...)), api.ErrRange},
		{rules(of(0, -1), of(0, 1)), api.ErrRange},
		{rules(of(0, 1), of(0, 1), of(8, 1)), api.ErrClash},
		{rules(of(0, 1), of(0, 1), of(1, full...)), api.ErrClash},
		{rules(of(0, 1), of(1, full...), of(0, 1)), api.ErrFull},
	} {
		expectWrong(t, c.l, c.want)
	}
}

// TestCheckClash: two rules of one register clash wherever they stand.
func TestCheckClash(t *testing.T) {
	for j := range api.Registers {
		for i := range j {
			l := strict()
			l[j] = of(i)
			expectWrong(t, l, api.ErrClash)
		}
	}
}

func TestFits(t *testing.T) {
	for _, c := range []struct {
		l    []api.Rule
		b    api.Bank
		want bool
	}{
		{nil, api.Bank{}, true},
		{nil, tens(), true},
		{rules(), tens(), true},
		{rules(of(0)), tens(), false},
		{rules(of(0)), api.Bank{}, false},
		{rules(of(0, 11)), tens(), true},
		{rules(of(0, 22)), tens(), false}, // another register's
		{rules(of(7, 88)), tens(), true},
		{rules(of(7, 87, 89)), tens(), false},
		{rules(of(7, 1, 2, 88)), tens(), true},
		{rules(of(7, 88, 1, 2)), tens(), true},
		{rules(of(2, append(row(1, api.MaxList-1), 33)...)), tens(), true},
		{rules(of(2, row(1, api.MaxList)...)), tens(), false},
		{rules(of(5, 0)), api.Bank{}, true},
		{rules(of(5, last)), with(api.Bank{}, 5, last), true},
		{rules(of(3, 44), of(1, 22)), tens(), true},
		{rules(of(3, 44), of(1, 44)), tens(), false},
		{rules(of(3, 22), of(1, 22)), tens(), false},
		{rules(of(3, 44), of(1)), tens(), false},
		{rules(of(3), of(1, 22)), tens(), false},
		{strict(), tens(), true},
		{strict(), api.Bank{}, false},
	} {
		got, err := Fits(c.l, c.b)
		expect(t, "Fits", got, err, c.want, api.OK)
	}
}

// TestFitsEach: one register that is not as its rule wants is enough, wherever it stands; one without a rule is free.
func TestFitsEach(t *testing.T) {
	for i := range api.Registers {
		other := with(tens(), i, 1)
		got, err := Fits(strict(), other)
		expect(t, "Fits", got, err, false, api.OK)
		got, err = Fits(slices.Delete(strict(), i, i+1), other)
		expect(t, "Fits", got, err, true, api.OK)
	}
}

func TestFitsWrongBank(t *testing.T) {
	for i := range api.Registers {
		for _, n := range []int{-1, api.Modulo, math.MinInt, math.MaxInt} {
			for _, l := range [][]api.Rule{nil, strict(), rules(of(i, 1)), rules(of((i+1)%8, 1))} {
				got, err := Fits(l, with(tens(), i, n))
				expect(t, "Fits", got, err, false, api.ErrRange)
			}
		}
	}
}

// TestFitsRulesFirst: what is wrong with the rules is told ahead of what is wrong with the bank.
func TestFitsRulesFirst(t *testing.T) {
	bad := with(tens(), 0, -1)
	got, err := Fits(rules(of(0, row(5, 13)...)), bad)
	expect(t, "Fits", got, err, false, api.ErrFull)
	got, err = Fits(rules(of(0), of(0)), bad)
	expect(t, "Fits", got, err, false, api.ErrClash)
	got, err = Fits(append(strict(), of(0)), bad)
	expect(t, "Fits", got, err, false, api.ErrFull)
}

func TestMask(t *testing.T) {
	for _, c := range []struct {
		l    []api.Rule
		want int
	}{
		{nil, 0},
		{rules(), 0},
		{rules(of(0)), 1},
		{rules(of(0, 5)), 1},
		{rules(of(7, 5)), 128},
		{rules(of(7), of(0)), 129},
		{rules(of(0), of(7)), 129},
		{rules(of(3), of(5), of(1)), 42},
		{strict()[1:], 254},
		{strict()[:7], 127},
		{strict(), 255},
	} {
		got, err := Mask(c.l)
		expect(t, "Mask", got, err, c.want, api.OK)
	}
}

// TestMaskAsks: by their mask, banks that differ where no rule is are the same, and others are not.
func TestMaskAsks(t *testing.T) {
	l := rules(of(6, 77), of(2, 33))
	mask, err := Mask(l)
	expect(t, "Mask", mask, err, 68, api.OK)
	for i := range api.Registers {
		same, err := bank.Same(tens(), with(tens(), i, 1), mask)
		expect(t, "Same", same, err, i != 6 && i != 2, api.OK)
	}
}

// TestListsStay: neither the rules, nor what is good, nor what lies behind their length is written into or read.
func TestListsStay(t *testing.T) {
	good := []int{11, 1, -1, -1}
	l := rules(of(0), of(1, 22), of(-1), of(-1))
	l[0].Good = good[:2]
	expect(t, "Check", 0, Check(l[:2]), 0, api.OK)
	fits, err := Fits(l[:2], tens())
	expect(t, "Fits", fits, err, true, api.OK)
	mask, err := Mask(l[:2])
	expect(t, "Mask", mask, err, 3, api.OK)
	if !slices.Equal(good, []int{11, 1, -1, -1}) {
		t.Errorf("what is good is %v now", good)
	}
	same := func(a, b api.Rule) bool { return a.Register == b.Register && slices.Equal(a.Good, b.Good) }
	if !slices.EqualFunc(l, rules(of(0, 11, 1), of(1, 22), of(-1), of(-1)), same) {
		t.Errorf("the rules are %v now", l)
	}
}
