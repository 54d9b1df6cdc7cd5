package keeper

import (
	"math"
	"slices"
	"testing"

	"bootstair/api"
	"bootstair/boot"
	"bootstair/plain"
	"bootstair/quote"
	"bootstair/sign"
)

const (
	last   = api.Modulo - 1 // the greatest measure
	secret = 4711           // what the tests' keeper keeps
)

func of(register, measure int) api.Event { return api.Event{Register: register, Measure: measure} }

func events(l ...api.Event) []api.Event { return l }

func good(register int, l ...int) api.Rule { return api.Rule{Register: register, Good: l} }

func rules(l ...api.Rule) []api.Rule { return l }

func quoteOf(nonce, mask, digest, point, answer int) api.Quote {
	return api.Quote{Nonce: nonce, Mask: mask, Digest: digest, Seal: api.Seal{Point: point, Answer: answer}}
}

// went gives the bank 47522, 0, 0, 3, 0, 0, 0, 1.
func went() []api.Event { return events(of(0, 5), of(3, 2), of(0, 7), of(7, 0)) }

// laws are of the three registers that went goes into, and it fits them.
func laws() []api.Rule { return rules(good(0, 6, 47522), good(3, 3), good(7, 0, 1, 2)) }

// numbers are all that the seed 1 gives, worked out apart from the program.
func numbers() []int {
	return []int{
		7920, 718296, 168963, 13987, 762728, 24918, 325058, 126588, 447375, 752009,
		141417, 877878, 895042, 816351, 664192, 720687, 103249, 626398, 430901, 294803,
		537976, 219186, 728752, 969802, 839026, 226988, 512608, 330603, 37332, 631253,
	}
}

// sealed gives a quote of a bank by the secret 5, whatever events are told with it.
func sealed(t *testing.T, nonce, mask int, b api.Bank) api.Quote {
	t.Helper()
	q, err := quote.Make(5, 7, nonce, mask, b)
	if err != nil {
		t.Fatal(err)
	}
	return q
}

// whole is a quote of went, by registers 0, 3 and 7, that is right.
func whole(t *testing.T, nonce int) api.Quote {
	t.Helper()
	return sealed(t, nonce, 137, api.Bank{0: 47522, 3: 3, 7: 1})
}

// made gives what New makes, of arguments that must be good ones.
func made(t *testing.T, public, secret, seed int, rules []api.Rule) *Keeper {
	t.Helper()
	k, err := New(public, secret, seed, rules)
	if k == nil || err != nil {
		t.Fatalf("New(%d, %d, %d, %v): got %v, %v", public, secret, seed, rules, k, err)
	}
	expectGiven(t, k, 0)
	return k
}

// usual is the tests' keeper: its key is of the secret 5, its seed 1.
func usual(t *testing.T) *Keeper {
	t.Helper()
	return made(t, 527, secret, 1, laws())
}

func expectGiven(t *testing.T, k *Keeper, want int) {
	t.Helper()
	if got := k.Given(); got != want {
		t.Errorf("Given: got %d; want %d", got, want)
	}
}

// expectAsk: that number comes, and nothing is given by it.
func expectAsk(t *testing.T, k *Keeper, want int) {
	t.Helper()
	given := k.Given()
	if got, err := k.Ask(); got != want || err != nil {
		t.Errorf("Ask: got %d, %v; want %d", got, err, want)
	}
	expectGiven(t, k, given)
}

func expectFull(t *testing.T, k *Keeper) {
	t.Helper()
	given := k.Given()
	if got, err := k.Ask(); got != 0 || plain.Told(err) != api.ErrFull {
		t.Errorf("Ask: got %d, %v; want 0, %v", got, err, api.ErrFull)
	}
	expectGiven(t, k, given)
}

// expectGive: the secret comes, and it was given once more.
func expectGive(t *testing.T, k *Keeper, q api.Quote, l []api.Event, want int) {
	t.Helper()
	given := k.Given()
	if got, err := k.Give(q, l); got != want || err != nil {
		t.Errorf("Give(%v, %v): got %d, %v; want %d", q, l, got, err, want)
	}
	expectGiven(t, k, given+1)
}

// expectRefused: no secret comes, and it was given no more often.
func expectRefused(t *testing.T, k *Keeper, q api.Quote, l []api.Event, want api.Errno) {
	t.Helper()
	given := k.Given()
	if got, err := k.Give(q, l); got != 0 || plain.Told(err) != want {
		t.Errorf("Give(%v, %v): got %d, %v; want 0, %v", q, l, got, err, want)
	}
	expectGiven(t, k, given)
}

// asked takes some numbers that must come.
func asked(t *testing.T, k *Keeper, many int) (l []int) {
	t.Helper()
	for range many {
		n, err := k.Ask()
		if err != nil {
			t.Fatalf("Ask: got %v", err)
		}
		l = append(l, n)
	}
	return l
}

// TestWorkedOut: quotes that were worked out apart from the program; each is answered once, and only where it was asked for.
func TestWorkedOut(t *testing.T) {
	for _, c := range []struct {
		public, secret, seed int
		rules                []api.Rule
		quotes               []api.Quote
	}{
		{527, secret, 1, laws(), []api.Quote{quoteOf(7920, 137, 81526, 1478, 250), quoteOf(718296, 137, 81526, 1478, 203), quoteOf(168963, 137, 81526, 1478, 87)}},
		{527, 0, 0, laws(), []api.Quote{quoteOf(1, 137, 81526, 1478, 41), quoteOf(7921, 255, 761953, 1478, 64), quoteOf(726216, 137, 81526, 1478, 210)}},
		{527, last, last, laws()[:1], []api.Quote{quoteOf(992085, 255, 761953, 1478, 185), quoteOf(297549, 137, 81526, 1478, 150)}},
		{527, 1, 341332, laws(), []api.Quote{quoteOf(0, 137, 81526, 1478, 243), quoteOf(2, 137, 81526, 1478, 96), quoteOf(15841, 255, 761953, 1478, 71)}},
		{527, 1, 682664, laws(), []api.Quote{quoteOf(last, 137, 81526, 1478, 188), quoteOf(992086, 255, 761953, 1478, 240)}},
		{217, 527, 1, laws(), []api.Quote{quoteOf(7920, 255, 761953, 217, 223), quoteOf(718296, 137, 81526, 217, 30)}},
		{64, 64, 1, laws(), []api.Quote{quoteOf(7920, 137, 81526, 64, 18), quoteOf(718296, 255, 761953, 64, 166)}},
		{527, secret, 1, nil, []api.Quote{quoteOf(7920, 0, 0, 1478, 29), quoteOf(718296, 255, 761953, 1478, 219)}},
		{527, secret, 1, []api.Rule{}, []api.Quote{quoteOf(7920, 1, 47523, 1478, 193), quoteOf(718296, 0, 0, 1478, 239)}},
		{1, secret, 1, laws(), []api.Quote{quoteOf(7920, 137, 81526, 1, 0), quoteOf(718296, 137, 81526, 64, 1)}},
		{2, secret, 1, laws(), []api.Quote{quoteOf(7920, 137, 81526, 1, 164), quoteOf(718296, 137, 81526, 1, 171)}},
		{api.Group - 1, secret, 1, laws(), []api.Quote{quoteOf(7920, 137, 81526, 64, 1), quoteOf(718296, 137, 81526, 1479, 1)}},
	} {
		k := made(t, c.public, c.secret, c.seed, c.rules)
		for _, q := range c.quotes {
			expectRefused(t, k, q, went(), api.ErrNone)
			expectAsk(t, k, q.Nonce)
			expectGive(t, k, q, went(), c.secret)
			expectRefused(t, k, q, went(), api.ErrNone)
		}
		expectGiven(t, k, len(c.quotes))
	}
}

// start is all that New is handed.
type start struct {
	public, secret, seed int
	rules                []api.Rule
}

func expectNoKeeper(t *testing.T, s start, want api.Errno) {
	t.Helper()
	if k, err := New(s.public, s.secret, s.seed, s.rules); k != nil || plain.Told(err) != want {
		t.Errorf("New%v: got %v, %v; want nil, %v", s, k, err, want)
	}
}

func TestNewOfWrongNumbers(t *testing.T) {
	huge := []int{math.MinInt, math.MaxInt, -1, 1 << 32, -1 << 32}
	for _, n := range append(huge, 0, api.Group, api.Group+527, last) {
		expectNoKeeper(t, start{n, secret, 1, laws()}, api.ErrRange)
	}
	for _, n := range append(huge, api.Modulo, api.Modulo+secret) {
		expectNoKeeper(t, start{527, n, 1, laws()}, api.ErrRange)
		expectNoKeeper(t, start{527, secret, n, laws()}, api.ErrRange)
	}
}

// TestNewOfEdges: what may just be, of each number and of the rules.
func TestNewOfEdges(t *testing.T) {
	var full []api.Rule
	for i := range api.Registers {
		full = append(full, good(i, slices.Repeat([]int{last, 0}, api.MaxList/2)...))
	}
	for _, public := range []int{1, 2, api.Order, api.Group - 1} {
		for _, n := range []int{0, 1, api.Group, last} {
			for _, r := range [][]api.Rule{nil, {}, laws(), full, rules(good(7)), rules(good(0, last, 0))} {
				made(t, public, n, last-n, r)
			}
		}
	}
}

func TestNewOfWrongRules(t *testing.T) {
	for _, c := range []struct {
		want  api.Errno
		rules []api.Rule
	}{
		{api.ErrFull, slices.Repeat(rules(good(0, 5)), 9)},
		{api.ErrFull, slices.Repeat(rules(good(-1, -1)), 9)},
		{api.ErrRange, rules(good(-1))},
		{api.ErrRange, rules(good(0), good(8))},
		{api.ErrRange, rules(good(math.MaxInt, make([]int, 13)...))},
		{api.ErrFull, rules(good(0, make([]int, 13)...))},
		{api.ErrFull, rules(good(1), good(1, slices.Repeat([]int{-1}, 13)...))},
		{api.ErrRange, rules(good(0, 5, -1))},
		{api.ErrRange, rules(good(0, api.Modulo))},
		{api.ErrRange, rules(good(1), good(1, math.MinInt))},
		{api.ErrClash, rules(good(0, 5), good(0, 5))},
		{api.ErrClash, rules(good(7), good(3), good(7), good(-1))},
	} {
		expectNoKeeper(t, start{527, secret, 1, c.rules}, c.want)
	}
}

// TestNewOrder: of each choice of faults the one that is named first is told.
func TestNewOrder(t *testing.T) {
	all := []struct {
		want api.Errno
		do   func(*start)
	}{
		{api.ErrRange, func(s *start) { s.public = api.Group }},
		{api.ErrRange, func(s *start) { s.secret = -1 }},
		{api.ErrRange, func(s *start) { s.seed = api.Modulo }},
		{api.ErrFull, func(s *start) { s.rules = append(s.rules, make([]api.Rule, 9)...) }},
		{api.ErrRange, func(s *start) { s.rules[0].Register = -1 }},
		{api.ErrFull, func(s *start) { s.rules[1].Good = make([]int, 13) }},
		{api.ErrRange, func(s *start) { s.rules[1].Good = append(s.rules[1].Good, -1) }},
		{api.ErrClash, func(s *start) { s.rules = append(s.rules, good(3, 3)) }},
	}
	for chosen := 1; chosen < 1<<len(all); chosen++ {
		s, want := start{527, secret, 1, laws()}, api.OK
		for i, f := range slices.Backward(all) { // from behind, so that one that is named earlier lies on top
			if chosen>>i&1 == 1 {
				f.do(&s)
				want = f.want
			}
		}
		expectNoKeeper(t, s, want)
	}
}

// TestOnceEach: all that a seed gives is answered once each, and then no more is asked.
func TestOnceEach(t *testing.T) {
	k := usual(t)
	for i, n := range numbers() {
		expectAsk(t, k, n)
		expectGive(t, k, whole(t, n), went(), secret)
		expectGiven(t, k, i+1)
	}
	expectFull(t, k)
	for _, n := range numbers() {
		expectRefused(t, k, whole(t, n), went(), api.ErrNone)
	}
	expectFull(t, k)
	expectGiven(t, k, api.MaxDone)
}

// TestInAnyOrder: questions that are open together are answered in whatever order, each by its own quote.
func TestInAnyOrder(t *testing.T) {
	for first := range api.MaxOpen {
		for step := 1; step < api.MaxOpen; step += 2 { // an odd step comes to each of them
			k := usual(t)
			l := asked(t, k, api.MaxOpen)
			for i := range api.MaxOpen {
				n := l[(first+i*step)%api.MaxOpen]
				expectGive(t, k, whole(t, n), went(), secret)
				expectRefused(t, k, whole(t, n), went(), api.ErrNone)
			}
			expectGiven(t, k, api.MaxOpen)
		}
	}
}

// answer is all that Give is handed.
type answer struct {
	q api.Quote
	l []api.Event
}

// fault is one thing that is wrong with an answer, and what is told of it.
type fault struct {
	want api.Errno
	do   func(*testing.T, *answer)
}

// faults stand in the order in which the chapters name them; none of them is of the nonce.
func faults() []fault {
	quoted := func(mask int, b api.Bank) func(*testing.T, *answer) {
		return func(t *testing.T, a *answer) { a.q = sealed(t, a.q.Nonce, mask, b) }
	}
	return []fault{
		{api.ErrRange, func(_ *testing.T, a *answer) { a.q.Digest = api.Modulo }},
		{api.ErrRange, func(_ *testing.T, a *answer) { a.q.Mask = 256 }},
		{api.ErrRange, func(_ *testing.T, a *answer) { a.q.Mask = -1 }},
		{api.ErrRange, func(_ *testing.T, a *answer) { a.q.Seal.Point = api.Group }},
		{api.ErrRange, func(_ *testing.T, a *answer) { a.q.Seal.Answer = api.Order }},
		{api.ErrSeal, func(_ *testing.T, a *answer) { a.q.Seal.Answer = (a.q.Seal.Answer + 1) % api.Order }},
		{api.ErrFull, func(_ *testing.T, a *answer) { a.l = append(a.l, make([]api.Event, 31)...) }},
		{api.ErrRange, func(_ *testing.T, a *answer) { a.l = append(a.l, of(8, 0)) }},
		{api.ErrRange, func(_ *testing.T, a *answer) { a.l = append(a.l, of(0, -1)) }},
		{api.ErrShape, func(_ *testing.T, a *answer) { a.l = append(a.l, of(3, 1)) }},
		{api.ErrNone, quoted(9, api.Bank{0: 47522, 3: 3})},
		{api.ErrState, func(t *testing.T, a *answer) {
			a.l = append(a.l, of(7, 5))
			quoted(a.q.Mask, api.Bank{0: 47522, 3: 3, 7: 7925})(t, a)
		}},
	}
}

// TestUsedWhateverFollows: an answer with a fault uses its number, so the right answer comes too late; the others stay open.
func TestUsedWhateverFollows(t *testing.T) {
	for _, f := range faults() {
		for which := range api.MaxOpen {
			k := usual(t)
			l := asked(t, k, api.MaxOpen)
			expectFull(t, k)
			a := answer{whole(t, l[which]), went()}
			f.do(t, &a)
			expectRefused(t, k, a.q, a.l, f.want)
			expectAsk(t, k, numbers()[api.MaxOpen]) // there is room for just one
			expectFull(t, k)
			expectRefused(t, k, whole(t, l[which]), went(), api.ErrNone)
			expectRefused(t, k, a.q, a.l, api.ErrNone)
			for i, n := range append(l, numbers()[api.MaxOpen]) {
				if i != which {
					expectGive(t, k, whole(t, n), went(), secret)
				}
			}
			expectGiven(t, k, api.MaxOpen)
		}
	}
}

// TestNotOpen: where the number is not open nothing else is told, and nothing is used.
func TestNotOpen(t *testing.T) {
	k := usual(t)
	none := fault{api.ErrNone, func(*testing.T, *answer) {}}
	refused := func(nonce int) {
		t.Helper()
		for _, f := range append(faults(), none) {
			a := answer{whole(t, 7920), went()}
			f.do(t, &a)
			a.q.Nonce = nonce
			expectRefused(t, k, a.q, a.l, api.ErrNone)
		}
	}
	strangers := []int{-1, 0, 1, last, api.Modulo, 7920 + api.Modulo, 7920 - api.Modulo, -7920, 7919, 7921, math.MinInt, math.MaxInt}
	for _, n := range append(strangers, numbers()...) {
		refused(n)
	}
	expectAsk(t, k, 7920)
	expectAsk(t, k, 718296)
	for _, n := range append(strangers, numbers()[2:]...) {
		refused(n)
	}
	expectGive(t, k, whole(t, 7920), went(), secret)
	refused(7920)
	expectGive(t, k, whole(t, 718296), went(), secret)
	for _, n := range append(strangers, numbers()...) {
		refused(n)
	}
	expectGiven(t, k, 2)
}

// TestGiveOrder: of each choice of faults the one that is named first is told.
func TestGiveOrder(t *testing.T) {
	all := faults()
	for chosen := range 1 << len(all) {
		k := usual(t)
		a, want := answer{whole(t, asked(t, k, 1)[0]), went()}, api.OK
		for i, f := range slices.Backward(all) { // from behind, so that one that is named earlier lies on top
			if chosen>>i&1 == 1 {
				f.do(t, &a)
				want = f.want
			}
		}
		if chosen == 0 {
			expectGive(t, k, a.q, a.l, secret)
			continue
		}
		expectRefused(t, k, a.q, a.l, want)
		expectRefused(t, k, whole(t, 7920), went(), api.ErrNone)
	}
}

// TestOtherQuestion: the quote of one question, told to be of another one that is open, is not right, and uses that one.
func TestOtherQuestion(t *testing.T) {
	k := usual(t)
	l := asked(t, k, 2)
	q := whole(t, l[0])
	q.Nonce = l[1]
	expectRefused(t, k, q, went(), api.ErrSeal)
	expectRefused(t, k, whole(t, l[1]), went(), api.ErrNone)
	expectGive(t, k, whole(t, l[0]), went(), secret)
}

// TestOtherKey: a quote that is right of another key is not that of the keeper's.
func TestOtherKey(t *testing.T) {
	for _, public := range []int{64, 217, 526, 528, 1, api.Group - 1} {
		k := made(t, public, secret, 1, laws())
		expectAsk(t, k, 7920)
		expectRefused(t, k, quoteOf(7920, 137, 81526, 1478, 250), went(), api.ErrSeal)
	}
}

// TestRefusedWorkedOut: quotes that are sealed, and yet not as they should be, worked out apart from the program.
func TestRefusedWorkedOut(t *testing.T) {
	for _, c := range []struct {
		want  api.Errno
		q     api.Quote
		l     []api.Event
		rules []api.Rule
	}{
		{api.ErrShape, quoteOf(7920, 137, 0, 1478, 222), went(), laws()},
		{api.ErrShape, quoteOf(7920, 255, 274559, 1478, 250), went(), laws()}, // that of no events
		{api.ErrShape, quoteOf(7920, 0, 1, 1478, 34), went(), nil},
		{api.ErrShape, quoteOf(7920, 137, 81526, 1478, 250), went()[:3], laws()},
		{api.ErrShape, quoteOf(7920, 137, 81526, 1478, 250), nil, laws()},
		{api.ErrNone, quoteOf(7920, 9, 333513, 1478, 251), went(), laws()},
		{api.ErrNone, quoteOf(7920, 0, 0, 1478, 29), went(), laws()},
		{api.ErrNone, quoteOf(7920, 1, 47523, 1478, 193), went(), rules(good(1))},
		{api.ErrState, quoteOf(7920, 255, 274559, 1478, 250), nil, laws()},
		{api.ErrState, quoteOf(7920, 1, 47523, 1478, 193), went(), rules(good(0, 47523, 5, 7))},
		{api.ErrState, quoteOf(7920, 1, 47523, 1478, 193), went(), rules(good(0))},
	} {
		k := made(t, 527, secret, 1, c.rules)
		expectAsk(t, k, 7920)
		expectRefused(t, k, c.q, c.l, c.want)
		expectRefused(t, k, c.q, c.l, api.ErrNone)
	}
}

// TestFull: eight may be open; an answer that is given makes room for one, and one whose number is not open makes none.
func TestFull(t *testing.T) {
	k := usual(t)
	l := asked(t, k, api.MaxOpen)
	if !slices.Equal(l, numbers()[:api.MaxOpen]) {
		t.Errorf("asked %v", l)
	}
	for range 40 {
		expectFull(t, k)
	}
	expectRefused(t, k, whole(t, numbers()[api.MaxOpen]), went(), api.ErrNone)
	expectFull(t, k)
	expectGive(t, k, whole(t, l[3]), went(), secret)
	expectAsk(t, k, numbers()[api.MaxOpen])
	expectFull(t, k)
}

// TestDone: when thirty were asked no more are, though answers are still taken.
func TestDone(t *testing.T) {
	k := usual(t)
	for _, n := range numbers()[:28] {
		expectAsk(t, k, n)
		expectRefused(t, k, api.Quote{Nonce: n}, nil, api.ErrRange)
	}
	expectAsk(t, k, numbers()[28])
	expectAsk(t, k, numbers()[29])
	expectFull(t, k)
	expectGive(t, k, whole(t, numbers()[29]), went(), secret)
	expectFull(t, k)
	expectGive(t, k, whole(t, numbers()[28]), went(), secret)
	expectFull(t, k)
	expectGiven(t, k, 2)
}

// TestAlike: where a number is asked twice it is answered twice, whether the first answer was right or not.
func TestAlike(t *testing.T) {
	right := quoteOf(752465, 137, 81526, 1478, 177)
	for _, wrongs := range []int{0, 1, 2} {
		k := made(t, 527, secret, 242614, laws())
		if l := asked(t, k, 4); !slices.Equal(l, []int{254504, 411133, 752465, 752465}) {
			t.Fatalf("asked %v", l)
		}
		for range wrongs {
			expectRefused(t, k, right, nil, api.ErrShape)
		}
		for range 2 - wrongs {
			expectGive(t, k, right, went(), secret)
		}
		expectRefused(t, k, right, went(), api.ErrNone)
		expectGive(t, k, quoteOf(411133, 137, 81526, 1478, 194), went(), secret)
		expectGive(t, k, quoteOf(254504, 137, 81526, 1478, 216), went(), secret)
	}
}

// TestAskDoesNotHangOnAnswers: the numbers come as they come, whatever is answered between.
func TestAskDoesNotHangOnAnswers(t *testing.T) {
	k := usual(t)
	for i, n := range numbers() {
		expectAsk(t, k, n)
		switch i % 3 {
		case 0:
			expectGive(t, k, whole(t, n), went(), secret)
		case 1:
			expectRefused(t, k, whole(t, n), nil, api.ErrShape)
		case 2:
			expectRefused(t, k, whole(t, 0), went(), api.ErrNone)
			expectGive(t, k, whole(t, n), went(), secret)
		}
	}
	expectGiven(t, k, 20)
}

// TestRulesAreTheKeepers: who handed them in may write into them later, as deep as they go, and nothing hangs on it.
func TestRulesAreTheKeepers(t *testing.T) {
	for _, write := range []func([]api.Rule){
		func(l []api.Rule) { clear(l) },
		func(l []api.Rule) { l[1] = l[0] },
		func(l []api.Rule) { l[0].Register = -1 },
		func(l []api.Rule) { l[2].Register = 1 },
		func(l []api.Rule) { l[1].Good = nil },
		func(l []api.Rule) { clear(l[0].Good) },
		func(l []api.Rule) { l[1].Good[0] = api.Modulo },
	} {
		l := laws()
		k := made(t, 527, secret, 1, l)
		write(l)
		expectAsk(t, k, 7920)
		expectGive(t, k, whole(t, 7920), went(), secret)
		write(l)
		expectAsk(t, k, 718296)
		expectGive(t, k, whole(t, 718296), went(), secret)
	}
}

// TestStrictRulesStay: nor does it help to write into them what would be as wanted.
func TestStrictRulesStay(t *testing.T) {
	l := laws()
	l[0].Good[1] = 5
	k := made(t, 527, secret, 1, l)
	l[0].Good[1] = 47522
	expectAsk(t, k, 7920)
	expectRefused(t, k, whole(t, 7920), went(), api.ErrState)
	clear(l)
	expectAsk(t, k, 718296)
	expectRefused(t, k, whole(t, 718296), went(), api.ErrState)
}

// TestListsStay: they are not written into, and what lies behind their length is neither read nor written.
func TestListsStay(t *testing.T) {
	l := append(went(), slices.Repeat(events(of(-1, api.Modulo)), 40)...)
	one := append([]int{50000, 47522}, slices.Repeat([]int{-1}, 20)...)
	r := append(rules(good(0, one[:2]...), laws()[1], laws()[2]), slices.Repeat(rules(good(-1, -1)), 10)...)
	wasL, wasOne, wasR := slices.Clone(l), slices.Clone(one), slices.Clone(r)
	k := made(t, 527, secret, 1, r[:3])
	n := asked(t, k, 6)
	expectGive(t, k, whole(t, n[0]), l[:4], secret)
	expectRefused(t, k, whole(t, n[1]), l[:3], api.ErrShape)
	expectRefused(t, k, whole(t, n[2]), l[:5], api.ErrRange)
	expectRefused(t, k, whole(t, n[3]), l, api.ErrFull)
	expectRefused(t, k, whole(t, n[4]), l[:0], api.ErrShape)
	expectGive(t, k, whole(t, n[5]), l[:4:4], secret)
	expectNoKeeper(t, start{527, secret, 1, r[:4]}, api.ErrRange)
	expectNoKeeper(t, start{527, secret, 1, r}, api.ErrFull)
	expectNoKeeper(t, start{527, secret, 1, rules(good(0, one[:3]...))}, api.ErrRange)
	same := func(a, b api.Rule) bool { return a.Register == b.Register && slices.Equal(a.Good, b.Good) }
	if !slices.Equal(l, wasL) || !slices.Equal(one, wasOne) || !slices.EqualFunc(r, wasR, same) {
		t.Errorf("the lists are %v, %v, %v", l, one, r)
	}
}

// TestEventsAreNotKept: what is written into them later has no bearing on what was given, nor on the next answer.
func TestEventsAreNotKept(t *testing.T) {
	k := usual(t)
	l := went()
	for _, n := range asked(t, k, 3) {
		copy(l, went())
		expectGive(t, k, whole(t, n), l, secret)
		clear(l)
	}
	for _, n := range asked(t, k, 1) {
		expectRefused(t, k, whole(t, n), l, api.ErrShape)
	}
}

// TestApart: two keepers that are alike know nothing of each other.
func TestApart(t *testing.T) {
	l := laws()
	a, b, other := made(t, 527, 1, 1, l), made(t, 527, 2, 1, l), made(t, 527, 3, 1, nil)
	expectAsk(t, a, 7920)
	expectRefused(t, b, whole(t, 7920), went(), api.ErrNone)
	expectAsk(t, b, 7920)
	expectGive(t, a, whole(t, 7920), went(), 1)
	expectGiven(t, b, 0)
	expectGive(t, b, whole(t, 7920), went(), 2)
	expectAsk(t, a, 718296)
	expectAsk(t, other, 7920)
	expectGive(t, other, quoteOf(7920, 0, 0, 1478, 29), went(), 3)
	expectRefused(t, b, whole(t, 718296), went(), api.ErrNone)
	expectGiven(t, a, 1)
	expectGiven(t, b, 1)
}

// TestOfBoot: who started what should run is given the secret at each question; who started something else is not.
func TestOfBoot(t *testing.T) {
	boots := func(version int) (api.Bank, []api.Event) {
		s, err := sign.Make(5, 7, api.Image{Name: "boot", Version: version, Code: "a"})
		if err != nil {
			t.Fatal(err)
		}
		b, l, started, err := boot.Run(527, []api.Signed{s})
		if started != 1 || err != nil {
			t.Fatalf("boot.Run: got %d, %v", started, err)
		}
		return b, l
	}
	b, l := boots(2)
	old, oldEvents := boots(1)
	k := made(t, 527, secret, 1, rules(good(0, 71772))) // one more than the measure of "boot 2 a"
	for _, n := range asked(t, k, 3) {
		expectGive(t, k, sealed(t, n, 1, b), l, secret)
	}
	for _, n := range asked(t, k, 3) {
		expectRefused(t, k, sealed(t, n, 1, old), oldEvents, api.ErrState)
	}
	for _, n := range asked(t, k, 3) {
		expectRefused(t, k, sealed(t, n, 1, old), l, api.ErrShape) // it tells of what should have been
	}
	for _, n := range asked(t, k, 3) {
		expectRefused(t, k, sealed(t, n, 254, b), l, api.ErrNone) // it leaves out what is asked for
	}
	expectGiven(t, k, 3)
}

// TestMany: calls of all kinds in a row, held against a list of what is open and a count of what was given.
func TestMany(t *testing.T) {
	state := 1
	next := func(below int) int {
		state = (state*48271 + 11) % 2147483647
		return state / 7 % below
	}
	all := faults()
	for range 300 {
		k := usual(t)
		var open []int
		issued, given := 0, 0
		for range 150 {
			if next(3) == 0 {
				if len(open) == api.MaxOpen || issued == api.MaxDone {
					expectFull(t, k)
					continue
				}
				expectAsk(t, k, numbers()[issued])
				open = append(open, numbers()[issued])
				issued++
				continue
			}
			a, want := answer{whole(t, numbers()[next(min(issued+2, api.MaxDone))]), went()}, api.OK
			if f := next(2 * len(all)); f < len(all) {
				all[f].do(t, &a)
				want = all[f].want
			}
			at := slices.Index(open, a.q.Nonce)
			switch {
			case at < 0:
				expectRefused(t, k, a.q, a.l, api.ErrNone)
				continue
			case want == api.OK:
				expectGive(t, k, a.q, a.l, secret)
				given++
			default:
				expectRefused(t, k, a.q, a.l, want)
			}
			open = slices.Delete(open, at, at+1)
		}
		expectGiven(t, k, given)
	}
}
