package judge

import (
	"math"
	"slices"
	"testing"

	"bootstair/api"
	"bootstair/boot"
	"bootstair/plain"
	"bootstair/quote"
	"bootstair/sign"
)

const last = api.Modulo - 1 // the greatest measure

// question is all that a judge is handed.
type question struct {
	public int
	q      api.Quote
	nonce  int
	l      []api.Event
	rules  []api.Rule
}

func of(register, measure int) api.Event { return api.Event{Register: register, Measure: measure} }

func events(l ...api.Event) []api.Event { return l }

func good(register int, l ...int) api.Rule { return api.Rule{Register: register, Good: l} }

func rules(l ...api.Rule) []api.Rule { return l }

func quoteOf(nonce, mask, digest, point, answer int) api.Quote {
	return api.Quote{Nonce: nonce, Mask: mask, Digest: digest, Seal: api.Seal{Point: point, Answer: answer}}
}

// went gives the bank 47522, 0, 0, 3, 0, 0, 0, 1.
func went() []api.Event { return events(of(0, 5), of(3, 2), of(0, 7), of(7, 0)) }

// laws are of the three registers that went goes into, and it fits them.
func laws() []api.Rule { return rules(good(0, 6, 47522), good(3, 3), good(7, 0, 1, 2)) }

// whole is a quote of went, for the nonce 9, by the secrets 5 and 7, by registers 0, 3 and 7.
func whole() api.Quote { return quoteOf(9, 137, 81526, 1478, 127) }

// fine is a question that is sure, fresh at each call.
func fine() question { return question{527, whole(), 9, went(), laws()} }

func (c question) asked() error { return Sure(c.public, c.q, c.nonce, c.l, c.rules) }

func expect(t *testing.T, c question, want api.Errno) {
	t.Helper()
	if err := c.asked(); plain.Told(err) != want || err != nil && want == api.OK {
		t.Errorf("Sure%v: got %v; want %v", c, err, want)
	}
}

// workedOut is the bank by the words of chapters 1 and 2, not by those packages.
func workedOut(l []api.Event) (b api.Bank) {
	for _, e := range l {
		b[e.Register] = (7919*b[e.Register] + e.Measure + 1) % api.Modulo
	}
	return b
}

// digested is the digest by the words of chapters 1 and 2, not by those packages.
func digested(b api.Bank, mask int) (n int) {
	for i, m := range b {
		if mask>>i&1 == 1 {
			n = (7919*n + m + 1) % api.Modulo
		}
	}
	return n
}

// quoted gives the quote of a bank, for the nonce 9, by the secrets 5 and 7.
func quoted(t *testing.T, mask int, b api.Bank) api.Quote {
	t.Helper()
	q, err := quote.Make(5, 7, 9, mask, b)
	if err != nil {
		t.Fatal(err)
	}
	return q
}

// turns gives n events of register after register.
func turns(n int) (l []api.Event) {
	for i := range n {
		l = append(l, of(i%api.Registers, i))
	}
	return l
}

// only gives of each register that a mask asks for the rule that it is as in a bank.
func only(b api.Bank, mask int) (l []api.Rule) {
	for i, m := range b {
		if mask>>i&1 == 1 {
			l = append(l, good(i, m))
		}
	}
	return l
}

// TestWorkedOut: quotes that were worked out apart from the program.
func TestWorkedOut(t *testing.T) {
	for _, c := range []question{
		fine(),
		{527, quoteOf(0, 137, 81526, 1478, 243), 0, went(), laws()},
		{527, quoteOf(last, 137, 81526, 1478, 188), last, went(), laws()},
		{1325, quoteOf(9, 137, 81526, 1478, 23), 9, went(), laws()},
		{217, quoteOf(9, 137, 81526, 217, 132), 9, went(), laws()},
		{64, quoteOf(9, 137, 81526, 64, 215), 9, went(), laws()},
		{527, quoteOf(9, 255, 761953, 1478, 223), 9, went(), laws()},
		{527, quoteOf(9, 255, 761953, 1478, 223), 9, went(), append(laws(), good(1, 0), good(6, 5, 0))},
		{527, quoteOf(9, 9, 333513, 1478, 208), 9, went(), laws()[:2]},
		{527, quoteOf(9, 129, 333511, 1478, 102), 9, went(), rules(good(7, 1), good(0, 47522))},
		{527, quoteOf(9, 136, 31678, 1478, 160), 9, went(), laws()[1:]},
		{527, quoteOf(9, 1, 47523, 1478, 150), 9, went(), laws()[:1]},
		{527, quoteOf(9, 8, 4, 1478, 142), 9, went(), rules(good(3, 3))},
		{527, quoteOf(9, 128, 2, 1478, 36), 9, went(), nil},
		{527, quoteOf(9, 118, 287774, 1478, 217), 9, went(), rules(good(2, 0))},
		{527, quoteOf(9, 0, 0, 1478, 243), 9, went(), nil},
		{527, quoteOf(9, 255, 274559, 1478, 127), 9, nil, rules(good(4, 0))},
		{527, quoteOf(9, 255, 274559, 1478, 127), 9, events(of(3, last)), rules(good(3, 0))},
		{527, quoteOf(9, 1, 1, 1478, 8), 9, []api.Event{}, []api.Rule{}},
		{527, quoteOf(9, 255, 865663, 1478, 147), 9, turns(30), rules(good(0, 970755), good(7, 809713))},
	} {
		expect(t, c, api.OK)
		c.nonce = (c.nonce + 1) % api.Modulo
		expect(t, c, api.ErrClash)
	}
}

// TestRange: each number that is none is told, of what asks, of the quote, and of its seal.
func TestRange(t *testing.T) {
	huge := []int{math.MinInt, math.MaxInt, -1, 1 << 32, -1 << 32}
	for _, c := range []struct {
		place func(*question) *int
		wrong []int
	}{
		{func(c *question) *int { return &c.nonce }, []int{api.Modulo, api.Modulo + 9}},
		{func(c *question) *int { return &c.q.Nonce }, []int{api.Modulo, api.Modulo + 9}},
		{func(c *question) *int { return &c.q.Digest }, []int{api.Modulo, api.Modulo + 81526}},
		{func(c *question) *int { return &c.q.Mask }, []int{256, 256 + 137}},
		{func(c *question) *int { return &c.public }, []int{0, api.Group, api.Group + 527}},
		{func(c *question) *int { return &c.q.Seal.Point }, []int{0, api.Group, api.Group + 1478}},
		{func(c *question) *int { return &c.q.Seal.Answer }, []int{api.Order, api.Order + 127}},
	} {
		for _, n := range slices.Concat(huge, c.wrong) {
			q := fine()
			*c.place(&q) = n
			expect(t, q, api.ErrRange)
			q.l, q.rules = turns(31), rules(good(0), good(0))
			expect(t, q, api.ErrRange)
		}
	}
}

// TestSeal: what is sealed is the nonce, the mask and the digest, by one key; the events and the rules can't mend it.
func TestSeal(t *testing.T) {
	for _, q := range []api.Quote{
		quoteOf(8, 137, 81526, 1478, 127),
		quoteOf(9, 255, 81526, 1478, 127),
		quoteOf(9, 255, 761953, 1478, 127), // the digest of that mask, unsealed
		quoteOf(9, 137, 81525, 1478, 127),
		quoteOf(9, 137, 0, 1478, 127),
		quoteOf(9, 137, 81526, 1477, 127),
		quoteOf(9, 137, 81526, 1478, 126),
		quoteOf(9, 137, 81526, 1478, 0),
		quoteOf(9, 137, 81526, 469, 127),
		quoteOf(9, 137, 81526, 1478, 23), // the seal of another key
	} {
		c := fine()
		c.q = q
		expect(t, c, api.ErrSeal)
		c.nonce = q.Nonce
		expect(t, c, api.ErrSeal)
	}
	for _, public := range []int{64, 1325, 526, 528, 1, api.Group - 1} {
		c := fine()
		c.public = public
		expect(t, c, api.ErrSeal)
	}
}

// TestOtherQuestion: a quote answers one nonce, and no other, though all else goes together.
func TestOtherQuestion(t *testing.T) {
	for _, nonce := range []int{0, 1, 8, 10, 9 + api.Order, 81526, last} {
		c := fine()
		c.nonce = nonce
		expect(t, c, api.ErrClash)
	}
}

// TestWrongEvents: too many, or one that is none, wherever it stands and whether its register is asked for or not.
func TestWrongEvents(t *testing.T) {
	c := fine()
	c.rules = nil
	for n := range 60 {
		c.l = turns(n)
		c.q = quoted(t, 255, workedOut(c.l))
		if n > api.MaxDone {
			expect(t, c, api.ErrFull)
			c.l[n/2] = of(-1, -1)
			expect(t, c, api.ErrFull)
			continue
		}
		expect(t, c, api.OK)
		for i := range c.l {
			for _, e := range events(of(-1, 0), of(api.Registers, 0), of(0, -1), of(1, api.Modulo), of(math.MaxInt, math.MinInt)) {
				c.l = turns(n)
				c.l[i] = e
				expect(t, c, api.ErrRange)
			}
		}
	}
}

// TestWrongRules: chapter 7's errors, whatever the quote and the events are of.
func TestWrongRules(t *testing.T) {
	for _, w := range []struct {
		want  api.Errno
		rules []api.Rule
	}{
		{api.ErrFull, slices.Repeat(rules(good(0, 47522)), 9)},
		{api.ErrFull, append(only(workedOut(went()), 255), good(8, -1))},
		{api.ErrRange, rules(good(-1, 47522))},
		{api.ErrRange, rules(good(8))},
		{api.ErrRange, rules(good(0, 47522), good(math.MinInt, 3))},
		{api.ErrRange, rules(good(0, 47522), good(math.MaxInt, slices.Repeat([]int{3}, 13)...))},
		{api.ErrFull, rules(good(0, slices.Repeat([]int{47522}, 13)...))},
		{api.ErrFull, rules(good(0, 47522), good(3, slices.Repeat([]int{-1}, 13)...))},
		{api.ErrRange, rules(good(0, 47522, -1))},
		{api.ErrRange, rules(good(0, api.Modulo, 47522))},
		{api.ErrRange, rules(good(1, math.MaxInt))},
		{api.ErrRange, rules(good(0, 47522), good(0, -1))},
		{api.ErrClash, rules(good(0, 47522), good(0, 47522))},
		{api.ErrClash, rules(good(7, 1), good(3, 3), good(7, 1))},
		{api.ErrClash, rules(good(1), good(1), good(-1))},
		{api.ErrClash, rules(good(0), good(1), good(0))},
	} {
		c := fine()
		c.rules = w.rules
		expect(t, c, w.want)
		c.l = nil
		expect(t, c, w.want)
	}
}

// TestShape: one event less, one more, or another one is told where its register is asked for, and nowhere else.
func TestShape(t *testing.T) {
	all := turns(29)
	b := workedOut(all)
	for mask := range 256 {
		c := question{527, quoted(t, mask, b), 9, all, only(b, mask)}
		expect(t, c, api.OK)
		for i := range all {
			want := api.OK
			if mask>>(i%api.Registers)&1 == 1 {
				want = api.ErrShape
			}
			other := slices.Clone(all)
			other[i].Measure++
			for _, l := range [][]api.Event{slices.Delete(slices.Clone(all), i, i+1), slices.Insert(slices.Clone(all), i, all[i]), other} {
				c.l = l
				expect(t, c, want)
			}
		}
	}
}

// TestShapeOfSealed: a digest that is sealed and yet not that of the events.
func TestShapeOfSealed(t *testing.T) {
	for _, q := range []api.Quote{
		quoteOf(9, 137, 0, 1478, 99),
		quoteOf(9, 137, 761953, 1478, 96), // that of all registers
		quoteOf(9, 0, 1, 1478, 248),
		quoteOf(9, 255, 274559, 1478, 127), // that of no events
	} {
		c := fine()
		c.q = q
		expect(t, c, api.ErrShape)
		c.rules = rules(good(1, 7)) // neither asked for nor so
		expect(t, c, api.ErrShape)
		c.rules = nil
		expect(t, c, api.ErrShape)
	}
}

// TestOrderOfEvents: in one register it counts, between two it does not.
func TestOrderOfEvents(t *testing.T) {
	c := fine()
	c.l = events(of(7, 0), of(0, 5), of(0, 7), of(3, 2))
	expect(t, c, api.OK)
	c.l = events(of(0, 7), of(3, 2), of(0, 5), of(7, 0))
	expect(t, c, api.ErrShape)
}

// TestDigestAlike: the digest is what is held, so events of another bank of that digest pass; the rules are held against theirs.
func TestDigestAlike(t *testing.T) {
	q := quoteOf(9, 3, 15839, 1478, 76)
	one, two := events(of(1, 7918)), events(of(0, 0))
	for _, l := range [][]api.Event{one, two} {
		b := workedOut(l)
		expect(t, question{527, q, 9, l, only(b, 3)}, api.OK)
		expect(t, question{527, q, 9, l, nil}, api.OK)
	}
	expect(t, question{527, q, 9, one, only(workedOut(two), 3)}, api.ErrState)
	expect(t, question{527, q, 9, two, only(workedOut(one), 3)}, api.ErrState)
}

// TestEachMaskAndRules: by each mask the rules of each registers; one that is not asked for is told though it fits.
func TestEachMaskAndRules(t *testing.T) {
	b := workedOut(turns(30))
	for mask := range 256 {
		q := quoted(t, mask, b)
		for ruled := range 256 {
			want := api.OK
			if ruled|mask != mask {
				want = api.ErrNone
			}
			expect(t, question{527, q, 9, turns(30), only(b, ruled)}, want)
		}
	}
}

// TestState: one rule that is broken is told, wherever it stands, if none is of a register that is not asked for.
func TestState(t *testing.T) {
	b := workedOut(turns(30))
	for i := range api.Registers {
		for _, l := range [][]int{nil, {}, {b[i] + 1}, {b[i] - 1, 0, last}, {b[(i+1)%api.Registers]}} {
			c := question{527, quoted(t, 255, b), 9, turns(30), only(b, 255)}
			c.rules[i].Good = l
			expect(t, c, api.ErrState)
			slices.Reverse(c.rules)
			expect(t, c, api.ErrState)
			c.rules = rules(good(i, l...))
			expect(t, c, api.ErrState)
			c.q = quoted(t, 255-1<<i, b)
			expect(t, c, api.ErrNone)
			c.q = quoted(t, 1<<i, b)
			expect(t, c, api.ErrState)
			c.rules = only(b, 255)
			c.rules[i].Good = l
			expect(t, c, api.ErrNone)
		}
	}
}

// TestStateIsOfTheEvents: a rule is of what stands in the register, not of a measure that went into it.
func TestStateIsOfTheEvents(t *testing.T) {
	for _, r := range rules(good(0, 5), good(0, 7), good(0, 6), good(0, 8), good(0, 81526), good(3, 2), good(7, 0)) {
		c := fine()
		c.rules = rules(r)
		expect(t, c, api.ErrState)
	}
}

// TestFullGood: twelve are right, and the one that stands in the register is found at each place.
func TestFullGood(t *testing.T) {
	for n := range api.MaxList {
		for i := range n + 1 {
			c := fine()
			l := slices.Repeat([]int{last}, n+1)
			c.rules = rules(good(0, l...))
			expect(t, c, api.ErrState)
			l[i] = 47522
			expect(t, c, api.OK)
		}
	}
}

// fault is one thing that is wrong, and what is told of it.
type fault struct {
	want api.Errno
	do   func(*question)
}

// faults stand in the order in which the chapters name them.
func faults() []fault {
	return []fault{
		{api.ErrRange, func(c *question) { c.nonce = api.Modulo }},
		{api.ErrRange, func(c *question) { c.q.Seal.Point = 0 }},
		{api.ErrSeal, func(c *question) { c.q.Seal.Answer-- }},
		{api.ErrClash, func(c *question) { c.nonce = 8 }},
		{api.ErrFull, func(c *question) { c.l = append(c.l, turns(31)...) }},
		{api.ErrRange, func(c *question) { c.l = append(c.l, of(8, 0)) }},
		{api.ErrFull, func(c *question) { c.rules = append(c.rules, slices.Repeat(rules(good(2)), 9)...) }},
		{api.ErrRange, func(c *question) { c.rules[0].Register = -1 }},
		{api.ErrFull, func(c *question) { c.rules[1].Good = append(c.rules[1].Good, make([]int, 12)...) }},
		{api.ErrRange, func(c *question) { c.rules[1].Good = append(c.rules[1].Good, -1) }},
		{api.ErrClash, func(c *question) { c.rules = append(c.rules, good(3, 3)) }},
		{api.ErrShape, func(c *question) { c.l = append(c.l, of(3, 1)) }},
		{api.ErrNone, func(c *question) { c.rules = append(c.rules, good(1, 0)) }},
		{api.ErrState, func(c *question) { c.rules[2].Good = []int{0, 2} }},
	}
}

// TestOrder: of each choice of faults the one that is named first is told.
func TestOrder(t *testing.T) {
	all := faults()
	for chosen := range 1 << len(all) {
		c, want := fine(), api.OK
		for i, f := range slices.Backward(all) { // from behind, so that one that is named earlier lies on top
			if chosen>>i&1 == 1 {
				f.do(&c)
				want = f.want
			}
		}
		expect(t, c, want)
	}
}

// TestListsStay: they are not written into, and what lies behind their length is neither read nor written.
func TestListsStay(t *testing.T) {
	l := append(went(), slices.Repeat(events(of(-1, api.Modulo)), 40)...)
	one := append([]int{50000, 47522}, slices.Repeat([]int{-1}, 20)...)
	r := append(rules(good(0, one[:2]...), laws()[1], laws()[2]), slices.Repeat(rules(good(-1, -1)), 10)...)
	wasL, wasOne, wasR := slices.Clone(l), slices.Clone(one), slices.Clone(r)
	for _, c := range []struct {
		l     []api.Event
		rules []api.Rule
		want  api.Errno
	}{
		{l[:4], r[:3], api.OK},
		{l[:3], r[:3], api.ErrShape},
		{l[:5], r[:3], api.ErrRange},
		{l, r[:3], api.ErrFull},
		{l[:4], r[:4], api.ErrRange},
		{l[:4], r, api.ErrFull},
		{l[:0], r[:0], api.ErrShape},
		{l[:4], rules(good(0, one[:1]...)), api.ErrState},
		{l[:4], rules(good(0, one[:3]...)), api.ErrRange},
	} {
		expect(t, question{527, whole(), 9, c.l, c.rules}, c.want)
	}
	same := func(a, b api.Rule) bool { return a.Register == b.Register && slices.Equal(a.Good, b.Good) }
	if !slices.Equal(l, wasL) || !slices.Equal(one, wasOne) || !slices.EqualFunc(r, wasR, same) {
		t.Errorf("the lists are %v, %v, %v", l, one, r)
	}
}

// TestNothingKept: a call answers the same after whatever others; what was sure once makes nothing else sure.
func TestNothingKept(t *testing.T) {
	for range 3 {
		c := fine()
		expect(t, c, api.OK)
		expect(t, c, api.OK) // to ask twice by one nonce is for others to keep from
		clear(c.l)
		expect(t, c, api.ErrShape)
		c = fine()
		clear(c.rules[0].Good)
		expect(t, c, api.ErrState)
		for _, f := range faults() {
			c = fine()
			f.do(&c)
			expect(t, c, f.want)
		}
	}
}

// TestOfBoot: what a boot told is sure by the rules of its images, and one that was not started whole is not.
func TestOfBoot(t *testing.T) {
	for n := 1; n <= api.Registers; n++ {
		b, l, started, err := boot.Run(527, images(t, n))
		if started != n || err != nil {
			t.Fatalf("boot.Run: got %d, %v; want %d", started, err, n)
		}
		c := question{527, quoted(t, 1<<n-1, b), 9, l, only(b, 1<<n-1)}
		expect(t, c, api.OK)
		for stop := range n {
			broken := images(t, n)
			broken[stop].Image.Version = 999
			b, l, started, err := boot.Run(527, broken)
			if started != stop || err != nil {
				t.Fatalf("boot.Run: got %d, %v; want %d", started, err, stop)
			}
			told := question{527, quoted(t, 1<<n-1, b), 9, l, c.rules}
			expect(t, told, api.ErrState)
			told.l = c.l // it tells of what should have been
			expect(t, told, api.ErrShape)
			told.q = c.q // and brings the quote of when all was right
			told.nonce = 10
			expect(t, told, api.ErrClash)
		}
	}
}

// images gives n of them, signed by the secret 5.
func images(t *testing.T, n int) (l []api.Signed) {
	t.Helper()
	for i := range n {
		s, err := sign.Make(5, 7, api.Image{Name: "os", Version: i + 1, Code: "abc"[:i%4]})
		if err != nil {
			t.Fatal(err)
		}
		l = append(l, s)
	}
	return l
}

// judged is what is told of a quote that is right, by the words of the chapter.
func judged(q api.Quote, l []api.Event, laws []api.Rule) api.Errno {
	b := workedOut(l)
	notAsked := func(r api.Rule) bool { return q.Mask>>r.Register&1 == 0 }
	broken := func(r api.Rule) bool { return !slices.Contains(r.Good, b[r.Register]) }
	switch {
	case digested(b, q.Mask) != q.Digest:
		return api.ErrShape
	case slices.ContainsFunc(laws, notAsked):
		return api.ErrNone
	case slices.ContainsFunc(laws, broken):
		return api.ErrState
	}
	return api.OK
}

// TestMany: questions of all kinds, held against the words of the chapter.
func TestMany(t *testing.T) {
	n := 1
	next := func(below int) int {
		n = (n*48271 + 11) % 2147483647
		return n / 7 % below
	}
	seen := map[api.Errno]int{}
	for round := range 20000 {
		var l []api.Event
		for range round % (api.MaxDone + 1) {
			l = append(l, of(next(api.Registers), next(api.Modulo)))
		}
		b, mask := workedOut(l), next(256)|next(256)
		q := quoted(t, mask, b)
		laws := only(b, mask&next(256))
		if len(laws) > 0 && next(3) == 0 {
			laws[next(len(laws))].Good = []int{next(api.Modulo), next(api.Modulo)}
		}
		if i := next(api.Registers); mask>>i&1 == 0 && next(2) == 0 {
			laws = slices.Insert(laws, next(len(laws)+1), good(i, b[i]))
		}
		if len(l) > 0 && next(3) == 0 {
			l[next(len(l))].Register = next(api.Registers)
		}
		want := judged(q, l, laws)
		seen[want]++
		expect(t, question{527, q, 9, l, laws}, want)
	}
	for _, want := range []api.Errno{api.OK, api.ErrShape, api.ErrNone, api.ErrState} {
		if seen[want] < 1000 {
			t.Errorf("%v was seen %d times", want, seen[want])
		}
	}
}
