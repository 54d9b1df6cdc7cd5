package event

import (
	"math"
	"slices"
	"testing"

	"bootstair/api"
	"bootstair/bank"
	"bootstair/boot"
	"bootstair/plain"
	"bootstair/sign"
)

const last = api.Modulo - 1 // the greatest measure

func of(register, measure int) api.Event { return api.Event{Register: register, Measure: measure} }

func events(l ...api.Event) []api.Event { return l }

func times(n int, l ...api.Event) []api.Event { return slices.Repeat(l, n) }

func with(b api.Bank, i, n int) api.Bank {
	b[i] = n
	return b
}

// turns gives n events of register after register.
func turns(n int) (l []api.Event) {
	for i := range n {
		l = append(l, of(i%api.Registers, i))
	}
	return l
}

// turned is the bank of thirty turns, worked out apart from the program.
func turned() api.Bank {
	return api.Bank{970755, 131794, 292836, 453878, 614920, 775962, 91418, 809713}
}

// workedOut is the bank by the words of chapters 1 and 2, not by those packages.
func workedOut(l []api.Event) (b api.Bank) {
	for _, e := range l {
		b[e.Register] = (7919*b[e.Register] + e.Measure + 1) % api.Modulo
	}
	return b
}

// wrongEvents: a register or a measure that is none, or both.
func wrongEvents() (l []api.Event) {
	for _, n := range []int{-1, api.Registers, api.Registers + 1, 255, 1 << 32, math.MinInt, math.MaxInt} {
		l = append(l, of(n, 0), of(n, 7), of(n, last))
	}
	for _, n := range []int{-1, api.Modulo, api.Modulo + 1, 1 << 32, math.MinInt, math.MaxInt} {
		l = append(l, of(0, n), of(3, n), of(api.Registers-1, n), of(-1, n), of(api.Registers, n))
	}
	return l
}

func wrongMasks() []int {
	return []int{-1, -255, 256, 257, 511, 1<<32 + 1, math.MinInt, math.MaxInt}
}

// expectBank holds Check and Replay, and Match by all registers, against the bank that is wanted.
func expectBank(t *testing.T, l []api.Event, want api.Bank) {
	t.Helper()
	if err := Check(l); err != nil {
		t.Errorf("Check(%v): got %v", l, err)
	}
	if b, err := Replay(l); b != want || err != nil {
		t.Errorf("Replay(%v): got %v, %v; want %v", l, b, err, want)
	}
	expectMatch(t, l, want, 255, true)
}

func expectMatch(t *testing.T, l []api.Event, b api.Bank, mask int, want bool) {
	t.Helper()
	if is, err := Match(l, b, mask); is != want || err != nil {
		t.Errorf("Match(%v, %v, %d): got %v, %v; want %v", l, b, mask, is, err, want)
	}
}

func expectNoMatch(t *testing.T, l []api.Event, b api.Bank, mask int, want api.Errno) {
	t.Helper()
	if is, err := Match(l, b, mask); is || plain.Told(err) != want {
		t.Errorf("Match(%v, %v, %d): got %v, %v; want false, %v", l, b, mask, is, err, want)
	}
}

// expectWrong holds all three calls against what is wrong with the events, whatever Match is handed beside them.
func expectWrong(t *testing.T, l []api.Event, want api.Errno) {
	t.Helper()
	if err := Check(l); plain.Told(err) != want {
		t.Errorf("Check(%v): got %v; want %v", l, err, want)
	}
	if b, err := Replay(l); b != (api.Bank{}) || plain.Told(err) != want {
		t.Errorf("Replay(%v): got %v, %v; want noughts and %v", l, b, err, want)
	}
	for _, b := range []api.Bank{{}, turned(), {-1}, {7: api.Modulo}} {
		for _, mask := range []int{0, 1, 255, -1, 256} {
			expectNoMatch(t, l, b, mask, want)
		}
	}
}

// TestLiteral: banks written out, worked out apart from the program.
func TestLiteral(t *testing.T) {
	for _, c := range []struct {
		l    []api.Event
		want api.Bank
	}{
		{events(of(0, 5)), api.Bank{6}},
		{events(of(0, 5), of(0, 7)), api.Bank{47522}},
		{events(of(0, 7), of(0, 5)), api.Bank{63358}}, // in one register the order counts
		{events(of(1, 1), of(0, 2), of(1, 3), of(0, 4)), api.Bank{23762, 15842}},
		{events(of(0, 2), of(0, 4), of(1, 1), of(1, 3)), api.Bank{23762, 15842}}, // between two it does not
		{events(of(7, 0)), api.Bank{7: 1}},
		{times(3, of(7, 0)), api.Bank{7: 718295}},
		{events(of(3, last)), api.Bank{}}, // the greatest measure leaves a nought
		{times(5, of(3, last)), api.Bank{}},
		{events(of(3, last), of(3, 0)), api.Bank{3: 1}},
		{events(of(4, 125), of(4, 2207)), api.Bank{4: last}},
		{events(of(4, 125), of(4, 2208)), api.Bank{}},
		{events(of(4, 125), of(4, 2209)), api.Bank{4: 1}},
		{events(of(0, 71771), of(1, 5723)), api.Bank{71772, 5724}},
		{times(30, of(0, 0)), api.Bank{758338}},
		{times(30, of(5, last-1)), api.Bank{5: 241665}},
		{turns(30), turned()},
	} {
		expectBank(t, c.l, c.want)
	}
}

// TestNone: nil and an empty list are the same; nothing goes in.
func TestNone(t *testing.T) {
	for _, l := range [][]api.Event{nil, {}, turns(3)[:0], events(of(-1, -1))[:0]} {
		expectBank(t, l, api.Bank{})
		for i := range api.Registers {
			expectMatch(t, l, with(api.Bank{}, i, 1), 255, false)
			expectMatch(t, l, with(api.Bank{}, i, last), 255-1<<i, true)
		}
		expectNoMatch(t, l, api.Bank{-1}, 255, api.ErrRange)
		expectNoMatch(t, l, api.Bank{}, 256, api.ErrRange)
	}
}

// TestOne: of each register, measures at the ends and between.
func TestOne(t *testing.T) {
	for i := range api.Registers {
		for _, m := range []int{0, 1, 7, 255, 256, 7918, 7919, 500000, last - 1, last} {
			expectBank(t, events(of(i, m)), with(api.Bank{}, i, (m+1)%api.Modulo))
		}
	}
}

// TestFull: thirty are right, and more are told ahead of what is wrong with one of them.
func TestFull(t *testing.T) {
	for n := range api.MaxDone + 1 {
		expectBank(t, turns(n), workedOut(turns(n)))
		expectBank(t, times(n, of(6, 12345)), workedOut(times(n, of(6, 12345))))
	}
	for _, n := range []int{31, 32, 60, 61, 256, 286, 65566} {
		expectWrong(t, times(n, of(0, 0)), api.ErrFull)
		expectWrong(t, times(n, of(-1, 0)), api.ErrFull)
		expectWrong(t, times(n, of(0, api.Modulo)), api.ErrFull)
	}
	for _, e := range wrongEvents() {
		for _, i := range []int{0, 1, 29, 30} {
			l := turns(31)
			l[i] = e
			expectWrong(t, l, api.ErrFull)
		}
	}
}

// TestRange: an event that is none is told wherever it stands, and so are two of them.
func TestRange(t *testing.T) {
	for _, e := range wrongEvents() {
		for n := 1; n <= api.MaxDone; n++ {
			for _, i := range []int{0, n / 2, n - 1} {
				l := turns(n)
				l[i] = e
				expectWrong(t, l, api.ErrRange)
				l[n-1-i] = e
				expectWrong(t, l, api.ErrRange)
			}
		}
	}
}

// TestEachPlace: no place of a full list goes unasked, for its register or for its measure.
func TestEachPlace(t *testing.T) {
	for i := range api.MaxDone {
		for _, e := range events(of(-1, 1), of(api.Registers, 1), of(1, -1), of(1, api.Modulo)) {
			l := turns(api.MaxDone)
			l[i] = e
			expectWrong(t, l, api.ErrRange)
		}
	}
}

// TestMatchByEachMask: what differs in one register matches by the masks that don't ask for it, and by no other.
func TestMatchByEachMask(t *testing.T) {
	for mask := range 256 {
		expectMatch(t, turns(30), turned(), mask, true)
		expectMatch(t, nil, api.Bank{}, mask, true)
		expectMatch(t, turns(30), api.Bank{}, mask, mask == 0)
		for i := range api.Registers {
			for _, n := range []int{0, 1, last, (turned()[i] + 1) % api.Modulo} {
				expectMatch(t, turns(30), with(turned(), i, n), mask, mask>>i&1 == 0)
			}
		}
	}
}

// TestMatchOneMore: one event more, one less, or another one is told by its register.
func TestMatchOneMore(t *testing.T) {
	for i := range 29 {
		register := i % api.Registers
		less := slices.Delete(turns(29), i, i+1)
		more := slices.Insert(turns(29), i, turns(29)[i])
		other := turns(29)
		other[i].Measure++
		for _, l := range [][]api.Event{less, more, other} {
			expectMatch(t, l, workedOut(turns(29)), 1<<register, false)
			expectMatch(t, l, workedOut(turns(29)), 255, false)
			expectMatch(t, l, workedOut(turns(29)), 255-1<<register, true)
		}
	}
}

// TestMatchIsNotOfDigests: banks of one digest are not alike when their registers are not.
func TestMatchIsNotOfDigests(t *testing.T) {
	other := api.Bank{0: 1}
	one, _ := bank.Digest(api.Bank{1: 7919}, 3)
	two, _ := bank.Digest(other, 3)
	if one != two {
		t.Fatalf("the digests are %d and %d", one, two)
	}
	expectMatch(t, events(of(1, 7918)), api.Bank{1: 7919}, 3, true)
	expectMatch(t, events(of(1, 7918)), other, 3, false)
}

// TestMatchIsOfTheBank: the bank that is handed in is not gone on from, nor are its numbers those of the events.
func TestMatchIsOfTheBank(t *testing.T) {
	expectMatch(t, events(of(0, 5)), api.Bank{5}, 255, false)
	expectMatch(t, events(of(0, 5)), api.Bank{0: 6, 1: 6}, 255, false)
	expectMatch(t, events(of(0, 5)), api.Bank{1: 6}, 255, false)
	expectMatch(t, events(of(0, 5), of(0, 5)), api.Bank{6}, 255, false)
	expectMatch(t, events(of(0, 5)), api.Bank{6}, 255, true)
}

// TestMatchWrongBank: a register that is no measure is told, whether it is asked for or not.
func TestMatchWrongBank(t *testing.T) {
	for i := range api.Registers {
		for _, n := range []int{-1, api.Modulo, turned()[i] + api.Modulo, turned()[i] - api.Modulo, math.MinInt, math.MaxInt} {
			for mask := range 256 {
				expectNoMatch(t, turns(30), with(turned(), i, n), mask, api.ErrRange)
				expectNoMatch(t, nil, with(api.Bank{}, i, n), mask, api.ErrRange)
			}
		}
	}
}

func TestMatchWrongMask(t *testing.T) {
	for _, mask := range wrongMasks() {
		for _, b := range []api.Bank{{}, turned(), with(turned(), 3, -1)} {
			expectNoMatch(t, turns(30), b, mask, api.ErrRange)
			expectNoMatch(t, nil, b, mask, api.ErrRange)
		}
	}
}

// TestListStays: it is not written into, and what lies behind its length is neither read nor written.
func TestListStays(t *testing.T) {
	for n := range api.MaxDone + 1 {
		whole := append(turns(n), times(40, of(-1, api.Modulo))...)
		was := slices.Clone(whole)
		expectBank(t, whole[:n], workedOut(turns(n)))
		expectMatch(t, whole[:n], turned(), 255, n == 30)
		expectWrong(t, whole[:n+1:n+1], told(n+1))
		expectWrong(t, whole, api.ErrFull)
		if !slices.Equal(whole, was) {
			t.Errorf("the list was %v, and is %v", was, whole)
		}
	}
}

// told is what is told of n events of which one is none.
func told(n int) api.Errno {
	if n > api.MaxDone {
		return api.ErrFull
	}
	return api.ErrRange
}

// TestNothingKept: a call answers the same after whatever others, and what becomes of a list afterwards does not show.
func TestNothingKept(t *testing.T) {
	for range 3 {
		l := turns(30)
		b, err := Replay(l)
		clear(l)
		if b != turned() || err != nil {
			t.Errorf("Replay: got %v, %v; want %v", b, err, turned())
		}
		expectBank(t, l, api.Bank{758338})
		expectWrong(t, turns(31), api.ErrFull)
		expectWrong(t, events(of(0, 5), of(8, 5)), api.ErrRange)
		expectBank(t, events(of(0, 5)), api.Bank{6})
	}
}

// TestOfBoot: the events that a boot tells give its bank again, wherever it stopped.
func TestOfBoot(t *testing.T) {
	for n := range api.Registers + 1 {
		for stop := range n + 1 {
			l := images(t, n)
			if stop < n {
				l[stop].Seal = api.Seal{}
			}
			b, went, started, err := boot.Run(527, l)
			if started != stop || err != nil {
				t.Fatalf("boot.Run: got %d, %v; want %d", started, err, stop)
			}
			expectBank(t, went, b)
			for i := range went {
				less := slices.Delete(slices.Clone(went), i, i+1)
				expectMatch(t, less, b, 255, false)
				expectMatch(t, less, b, 255-1<<i, true)
			}
		}
	}
}

// images gives n of them, signed by the secret 5.
func images(t *testing.T, n int) (l []api.Signed) {
	for i := range n {
		s, err := sign.Make(5, 7, api.Image{Name: "os", Version: i + 1, Code: "abc"[:i%4]})
		if err != nil {
			t.Fatal(err)
		}
		l = append(l, s)
	}
	return l
}

// TestMany: rows of each length, with numbers all over, held against what the chapters say.
func TestMany(t *testing.T) {
	n := 1
	next := func(below int) int {
		n = (n*48271 + 11) % 2147483647
		return n % below
	}
	for round := range 3000 {
		var l []api.Event
		for range round % (api.MaxDone + 1) {
			l = append(l, of(next(1+round%api.Registers), next(api.Modulo)))
		}
		want, mask, i := workedOut(l), next(256), next(api.Registers)
		expectBank(t, l, want)
		expectMatch(t, l, with(want, i, (want[i]+1+next(last))%api.Modulo), mask, mask>>i&1 == 0)
	}
}
