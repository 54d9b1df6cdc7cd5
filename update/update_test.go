package update

import (
	"math"
	"slices"
	"testing"
	"unsafe"

	"bootstair/api"
	"bootstair/count"
	"bootstair/plain"
	"bootstair/sign"
	"bootstair/slot"
)

const (
	root     = 527 // the public key of the secret 5
	secret   = 7   // of the key of the last of two certs
	stranger = 99  // a secret that no cert is of
	nine     = "abcdefghi"
)

func expect(t *testing.T, call string, err error, want api.Errno) {
	t.Helper()
	if plain.Told(err) != want || err != nil && want == api.OK {
		t.Errorf("%s: got %v; want %v", call, err, want)
	}
}

func sealed(key, point, answer int) api.Cert {
	return api.Cert{Key: key, Seal: api.Seal{Point: point, Answer: answer}}
}

// chain is one more than may be: the key of the secret 6 sealed by the secret 5, that of 7 by 6, and so on.
func chain() []api.Cert {
	return []api.Cert{
		sealed(1325, 754, 98), sealed(1478, 423, 216), sealed(469, 841, 37), sealed(699, 1362, 166), sealed(1532, 760, 210),
		sealed(839, 807, 184), sealed(1234, 729, 94), sealed(283, 366, 121), sealed(1139, 279, 8), sealed(375, 883, 176),
		sealed(855, 964, 0), sealed(715, 1519, 3), sealed(1013, 7, 142),
	}
}

func two() []api.Cert { return chain()[:2:2] }

func made(name string, version int, code string) api.Image {
	return api.Image{Name: name, Version: version, Code: code}
}

func signed(name string, version int, code string, point, answer int) api.Signed {
	return api.Signed{Image: made(name, version, code), Seal: api.Seal{Point: point, Answer: answer}}
}

// of gives an image that a secret signed.
func of(t *testing.T, x int, m api.Image) api.Signed {
	t.Helper()
	s, err := sign.Make(x, 3, m)
	if err != nil {
		t.Fatalf("sign.Make(%d, %v): got %v", x, m, err)
	}
	return s
}

func boot(t *testing.T, version int) api.Signed {
	t.Helper()
	return of(t, secret, made("boot", version, "a"))
}

func counts(t *testing.T, name string, least int) *count.Counts {
	t.Helper()
	c := count.New()
	if _, err := c.Raise(name, least); err != nil {
		t.Fatalf("Raise(%q, %d): got %v", name, least, err)
	}
	return c
}

func slots(t *testing.T, first api.Signed) *slot.Slots {
	t.Helper()
	s, err := slot.New(first)
	if err != nil {
		t.Fatalf("slot.New(%v): got %v", first, err)
	}
	return s
}

// The states that a slot may be in.
func good(s api.Signed) api.Slot             { return api.Slot{Signed: s, Full: true, Good: true} }
func trial(s api.Signed, tries int) api.Slot { return api.Slot{Signed: s, Full: true, Tries: tries} }

func both(s *slot.Slots) [2]api.Slot {
	zero, _ := s.At(0)
	one, _ := s.At(1)
	return [2]api.Slot{zero, one}
}

func expectSlots(t *testing.T, s *slot.Slots, zero, one api.Slot) {
	t.Helper()
	if got, want := both(s), [2]api.Slot{zero, one}; got != want {
		t.Errorf("slots: got %v; want %v", got, want)
	}
}

func expectLeast(t *testing.T, c *count.Counts, name string, want int) {
	t.Helper()
	if got, err := c.Least(name); got != want || err != nil {
		t.Errorf("Least(%q): got %d, %v; want %d", name, got, err, want)
	}
}

// TestLiteral: seals that were worked out apart from the program.
func TestLiteral(t *testing.T) {
	old := made("boot", 1, "b")
	for _, c := range []struct {
		certs int
		now   api.Image
		next  api.Signed
		want  api.Errno
	}{
		{0, old, signed("boot", 2, "a", 1478, 28), api.OK},
		{0, old, signed("boot", 1000, "a", 1478, 186), api.OK},
		{0, made("boot", 999, "a"), signed("boot", 1000, "a", 1478, 186), api.OK},
		{1, old, signed("boot", 2, "a", 1478, 168), api.OK},
		{2, old, signed("boot", 2, "a", 1478, 32), api.OK},
		{12, old, signed("boot", 2, "a", 1478, 18), api.OK},
		{12, made("a", 1, nine[:8]), signed("a", 2, "", 1478, 238), api.OK},
		{12, made("abcdefgh", 999, ""), signed("abcdefgh", 1000, "zyxwvuts", 1478, 32), api.OK},
		{0, old, signed("boot", 2, "a", 1478, 29), api.ErrSeal},
		{0, old, signed("boot", 2, "b", 1478, 28), api.ErrSeal},
		{0, old, signed("boot", 2, "a", 1478, 168), api.ErrSeal}, // of the secret 6
		{1, old, signed("boot", 2, "a", 1478, 28), api.ErrSeal},  // of the root's
		{0, made("boot", 2, "b"), signed("boot", 2, "a", 1478, 28), api.ErrOld},
		{0, made("boot", 3, "b"), signed("boot", 2, "a", 1478, 28), api.ErrOld},
		{0, old, signed("os", 2, "a", 1478, 161), api.ErrShape},
		{13, old, signed("boot", 2, "a", 1478, 28), api.ErrFull},
	} {
		now := api.Signed{Image: c.now}
		expect(t, "May", May(root, chain()[:c.certs], count.New(), now, c.next), c.want)
		s := slots(t, now)
		expect(t, "Do", Do(root, chain()[:c.certs], count.New(), s, c.next), c.want)
		if c.want == api.OK {
			expectSlots(t, s, good(now), trial(c.next, 3))
		} else {
			expectSlots(t, s, good(now), api.Slot{})
		}
	}
}

// TestOfTheLast: at each number of certs only who has the secret of the last key may sign; one ahead, or behind, may not.
func TestOfTheLast(t *testing.T) {
	now := boot(t, 1)
	for n := range api.MaxList + 1 {
		for x := 5; x <= 18; x++ {
			want := api.ErrSeal
			if x == 5+n {
				want = api.OK
			}
			next := of(t, x, made("boot", 2, "x"))
			expect(t, "May", May(root, chain()[:n], count.New(), now, next), want)
			expect(t, "Do", Do(root, chain()[:n], count.New(), slots(t, now), next), want)
		}
	}
}

// TestNoCerts: nil and an empty list are the same, and the root's own key is the last then.
func TestNoCerts(t *testing.T) {
	for _, certs := range [][]api.Cert{nil, {}, chain()[:0]} {
		now, next := boot(t, 1), of(t, 5, made("boot", 2, ""))
		expect(t, "May", May(root, certs, count.New(), now, next), api.OK)
		expect(t, "May", May(root, certs, count.New(), now, boot(t, 2)), api.ErrSeal)
		expect(t, "May", May(0, certs, count.New(), now, next), api.ErrRange)
		expect(t, "May", May(1325, certs, count.New(), now, next), api.ErrSeal)
		expect(t, "Do", Do(root, certs, count.New(), slots(t, now), next), api.OK)
	}
}

// TestVersions: of each two versions only a greater one may follow, and it may not be below the least.
func TestVersions(t *testing.T) {
	versions := []int{1, 2, 3, 9, 10, 11, 500, 998, 999, 1000}
	for _, least := range append([]int{0}, versions...) {
		c := counts(t, "boot", least)
		for _, a := range versions {
			for _, b := range versions {
				want := api.ErrOld
				if b > a && b >= least {
					want = api.OK
				}
				now, next := boot(t, a), boot(t, b)
				expect(t, "May", May(root, two(), c, now, next), want)
				expect(t, "Do", Do(root, two(), c, slots(t, now), next), want)
			}
		}
		expectLeast(t, c, "boot", least)
	}
}

// TestLeastOfOtherNames: what is kept of another name does not count, even if one begins like the other.
func TestLeastOfOtherNames(t *testing.T) {
	for _, name := range []string{"os", "boo", "boots", "b", "toob"} {
		c := counts(t, name, 1000)
		expect(t, "May", May(root, two(), c, boot(t, 1), boot(t, 2)), api.OK)
		expectLeast(t, c, "boot", 0)
	}
	full := count.New()
	for i := range api.MaxList {
		_, err := full.Raise(string(rune('a'+i)), 9)
		expect(t, "Raise", err, api.OK)
	}
	s := slots(t, boot(t, 1))
	expect(t, "Do", Do(root, two(), full, s, boot(t, 2)), api.OK) // no room is needed to ask
	expectSlots(t, s, good(boot(t, 1)), trial(boot(t, 2), 3))
}

// TestSealOfNow: whose the one is that is there is not asked for.
func TestSealOfNow(t *testing.T) {
	for _, seal := range []api.Seal{{}, {Point: -1, Answer: -1}, {Point: math.MaxInt, Answer: math.MinInt}, {Point: 64, Answer: 1}} {
		now := api.Signed{Image: made("boot", 1, "b"), Seal: seal}
		expect(t, "May", May(root, two(), count.New(), now, boot(t, 2)), api.OK)
		s := slots(t, now)
		expect(t, "Do", Do(root, two(), count.New(), s, boot(t, 2)), api.OK)
		expectSlots(t, s, good(now), trial(boot(t, 2), 3))
	}
}

// ask is what may be wrong with an update.
type ask struct {
	root, least int
	certs       []api.Cert
	now, next   api.Signed
	trying      bool // one that is not good runs
}

func right(t *testing.T) ask {
	t.Helper()
	return ask{root: root, certs: two(), now: boot(t, 5), next: boot(t, 6)}
}

type fault struct {
	err  api.Errno
	spot func(*ask)
}

func none() fault { return fault{api.OK, func(*ask) {}} }

// faultsOfTrust are what may be wrong ahead of the image, in the order in which it is told; of each step one or none.
func faultsOfTrust() [][]fault {
	return [][]fault{
		{none(), {api.ErrFull, func(a *ask) { a.certs = append(a.certs, chain()[2:]...) }}},
		{none(),
			{api.ErrRange, func(a *ask) { a.root = 0 }},
			{api.ErrRange, func(a *ask) { a.root = api.Group }},
			{api.ErrRange, func(a *ask) { a.root = math.MinInt }}},
		{none(),
			{api.ErrRange, func(a *ask) { a.certs[0].Key = 0 }},
			{api.ErrRange, func(a *ask) { a.certs[0].Seal.Point = api.Group }},
			{api.ErrRange, func(a *ask) { a.certs[0].Seal.Answer = api.Order }},
			{api.ErrSeal, func(a *ask) { a.certs[0].Seal.Answer++ }}},
		{none(),
			{api.ErrRange, func(a *ask) { a.certs[1].Key = math.MaxInt }},
			{api.ErrRange, func(a *ask) { a.certs[1].Seal.Answer = -1 }},
			{api.ErrSeal, func(a *ask) { a.certs[1].Seal.Answer-- }}},
	}
}

// faultsOfNext are what may be wrong with the one that is to come.
func faultsOfNext() [][]fault {
	return [][]fault{
		{none(),
			{api.ErrShape, func(a *ask) { a.next.Image.Name = "" }},
			{api.ErrShape, func(a *ask) { a.next.Image.Code = "\xff" }},
			{api.ErrFull, func(a *ask) { a.next.Image.Name = nine }},
			{api.ErrRange, func(a *ask) { a.next.Image.Version = 1001 }}},
		{none(),
			{api.ErrRange, func(a *ask) { a.next.Seal.Point = 0 }},
			{api.ErrRange, func(a *ask) { a.next.Seal.Answer = api.Order }},
			{api.ErrSeal, func(a *ask) { a.next.Seal.Answer++ }}},
	}
}

// faultsOfNow are what may be wrong with the image that is there, in itself.
func faultsOfNow() [][]fault {
	return [][]fault{
		{none(),
			{api.ErrShape, func(a *ask) { a.now.Image.Name = "Boot" }},
			{api.ErrFull, func(a *ask) { a.now.Image.Code = nine }},
			{api.ErrRange, func(a *ask) { a.now.Image.Version = 0 }},
			{api.ErrRange, func(a *ask) { a.now.Image.Version = math.MaxInt }}},
	}
}

// faultsOfBoth are what may keep one from following the other. They leave next as it is: its seal is right still.
func faultsOfBoth() [][]fault {
	return [][]fault{
		{none(), {api.ErrShape, func(a *ask) { a.now.Image.Name = "bootx" }}},
		{none(),
			{api.ErrOld, func(a *ask) { a.now.Image.Version = 6 }},
			{api.ErrOld, func(a *ask) { a.now.Image.Version = 1000 }}},
		{none(), {api.ErrOld, func(a *ask) { a.least = 7 }}},
	}
}

func faultsOfSlots() [][]fault {
	return [][]fault{{none(), {api.ErrState, func(a *ask) { a.trying = true }}}}
}

// eachRow goes through all rows with one fault, or none, of each step, and tells what is wrong with the first that has one.
func eachRow(steps [][]fault, try func(row []fault, want api.Errno)) {
	row := make([]fault, 0, len(steps))
	var further func(want api.Errno)
	further = func(want api.Errno) {
		if len(row) == len(steps) {
			try(row, want)
			return
		}
		for _, f := range steps[len(row)] {
			told := want
			if told == api.OK {
				told = f.err
			}
			row = append(row, f)
			further(told)
			row = row[:len(row)-1]
		}
	}
	further(api.OK)
}

// apply lays the faults, those of the last steps first, so that one of an earlier step is not written over.
func apply(t *testing.T, row []fault) ask {
	t.Helper()
	a := right(t)
	for _, f := range slices.Backward(row) {
		f.spot(&a)
	}
	return a
}

// TestMayTellsTheFirst: of all that may be wrong at once, what the chapter names first is told.
func TestMayTellsTheFirst(t *testing.T) {
	steps := slices.Concat(faultsOfTrust(), faultsOfNext(), faultsOfNow(), faultsOfBoth())
	rows := 0
	eachRow(steps, func(row []fault, want api.Errno) {
		rows++
		a := apply(t, row)
		c := counts(t, "boot", a.least)
		if got := plain.Told(May(a.root, a.certs, c, a.now, a.next)); got != want {
			t.Fatalf("May(%+v): got %v; want %v", a, got, want)
		}
	})
	if rows != 2*4*5*4*5*4*5*2*3*2 {
		t.Errorf("%d rows were gone through", rows)
	}
}

// TestDoTellsTheFirst: the same, with the state of the slots behind all; what is refused changes nothing.
func TestDoTellsTheFirst(t *testing.T) {
	steps := slices.Concat(faultsOfTrust(), faultsOfNext(), faultsOfBoth(), faultsOfSlots())
	eachRow(steps, func(row []fault, want api.Errno) {
		a := apply(t, row)
		c, s := counts(t, "boot", a.least), slots(t, a.now)
		if a.trying {
			expect(t, "Put", s.Put(a.now), api.OK)
			s.Start()
		}
		wanted, pick := both(s), s.Pick()
		if want == api.OK {
			wanted[1], pick = trial(a.next, 3), 1
		}
		if got := plain.Told(Do(a.root, a.certs, c, s, a.next)); got != want {
			t.Fatalf("Do(%+v): got %v; want %v", a, got, want)
		}
		if both(s) != wanted || s.Pick() != pick {
			t.Fatalf("Do(%+v): slots are %v, Pick %d; want %v, %d", a, both(s), s.Pick(), wanted, pick)
		}
		expectLeast(t, c, "boot", a.least)
	})
}

// TestDoHeldAgainstTheGoodOne: neither what was put beside it, nor what runs on trial, counts.
func TestDoHeldAgainstTheGoodOne(t *testing.T) {
	c, s := count.New(), slots(t, boot(t, 5))
	expect(t, "Do", Do(root, two(), c, s, boot(t, 9)), api.OK)
	expect(t, "Do", Do(root, two(), c, s, boot(t, 6)), api.OK) // 9 was never good
	expectSlots(t, s, good(boot(t, 5)), trial(boot(t, 6), 3))
	expect(t, "Do", Do(root, two(), c, s, boot(t, 5)), api.ErrOld)
	expect(t, "Do", Do(root, two(), c, s, boot(t, 8)), api.OK)
	for tries := 2; tries >= 0; tries-- {
		s.Start()
		for version, want := range map[int]api.Errno{4: api.ErrOld, 5: api.ErrOld, 6: api.ErrState, 8: api.ErrState, 9: api.ErrState} {
			expect(t, "Do", Do(root, two(), c, s, boot(t, version)), want)
			expectSlots(t, s, good(boot(t, 5)), trial(boot(t, 8), tries))
		}
	}
	s.Start()
	expect(t, "Do", Do(root, two(), c, s, boot(t, 5)), api.ErrOld)
	expectSlots(t, s, good(boot(t, 5)), trial(boot(t, 8), 0))
	expect(t, "Do", Do(root, two(), c, s, boot(t, 6)), api.OK)
	expectSlots(t, s, good(boot(t, 5)), trial(boot(t, 6), 3))
}

// TestDoWithGoodInSlotOne: the good one is asked for where it stands.
func TestDoWithGoodInSlotOne(t *testing.T) {
	c, s := count.New(), slots(t, boot(t, 5))
	expect(t, "Do", Do(root, two(), c, s, boot(t, 7)), api.OK)
	s.Start()
	expect(t, "Good", s.Good(), api.OK)
	expect(t, "Do", Do(root, two(), c, s, boot(t, 6)), api.ErrOld)
	expect(t, "Do", Do(root, two(), c, s, boot(t, 7)), api.ErrOld)
	expectSlots(t, s, api.Slot{}, good(boot(t, 7)))
	expect(t, "Do", Do(root, two(), c, s, boot(t, 8)), api.OK)
	expectSlots(t, s, trial(boot(t, 8), 3), good(boot(t, 7)))
	s.Start()
	expect(t, "Do", Do(root, two(), c, s, boot(t, 7)), api.ErrOld)
	expect(t, "Do", Do(root, two(), c, s, boot(t, 9)), api.ErrState)
	expectSlots(t, s, trial(boot(t, 8), 2), good(boot(t, 7)))
}

// TestCertsAreNotTouched: the list is neither written into, nor read behind its length, nor kept.
func TestCertsAreNotTouched(t *testing.T) {
	memory := chain()
	certs := memory[:2]
	c, s := count.New(), slots(t, boot(t, 1))
	expect(t, "May", May(root, certs, c, boot(t, 1), boot(t, 2)), api.OK)
	expect(t, "Do", Do(root, certs, c, s, boot(t, 2)), api.OK)
	expect(t, "Do", Do(root, memory, c, s, boot(t, 3)), api.ErrFull)
	if !slices.Equal(memory, chain()) {
		t.Errorf("certs are %v", memory)
	}
	clear(memory)
	expectSlots(t, s, good(boot(t, 1)), trial(boot(t, 2), 3))
	expect(t, "Do", Do(root, two(), c, s, boot(t, 3)), api.OK)
}

// TestTextsAreNotKept: what is written later into the memory of an image's texts changes nothing.
func TestTextsAreNotKept(t *testing.T) {
	name, code := []byte("boot"), []byte("a")
	next := boot(t, 2)
	next.Image.Name, next.Image.Code = unsafe.String(&name[0], len(name)), unsafe.String(&code[0], len(code))
	c, s := count.New(), slots(t, boot(t, 1))
	expect(t, "May", May(root, two(), c, boot(t, 1), next), api.OK)
	expect(t, "Do", Do(root, two(), c, s, next), api.OK)
	name[0], code[0] = 'x', 'x'
	expectSlots(t, s, good(boot(t, 1)), trial(boot(t, 2), 3))
	expectLeast(t, c, "boot", 0)
}

// TestAskedAgain: May changes nothing, so it answers the same as often as one likes; Do may be done again, too, while the good one stays.
func TestAskedAgain(t *testing.T) {
	c, s := counts(t, "boot", 2), slots(t, boot(t, 1))
	for range 40 {
		expect(t, "May", May(root, two(), c, boot(t, 1), boot(t, 2)), api.OK)
		expect(t, "May", May(root, two(), c, boot(t, 2), boot(t, 2)), api.ErrOld)
		expect(t, "Do", Do(root, two(), c, s, boot(t, 2)), api.OK)
		expectSlots(t, s, good(boot(t, 1)), trial(boot(t, 2), 3))
		expectLeast(t, c, "boot", 2)
	}
}

// story tells of updates in another way than the program does: by versions alone.
type story struct {
	good, beside, left int // versions, and the tries of the one beside
	least              int
	trying             bool
}

// may tells what the versions alone would say.
func (m story) may(version int) api.Errno {
	if version <= m.good || version < m.least {
		return api.ErrOld
	}
	return api.OK
}

func (m story) update(t *testing.T, c *count.Counts, s *slot.Slots, version int) story {
	t.Helper()
	want := m.may(version)
	expect(t, "May", May(root, two(), c, boot(t, m.good), boot(t, version)), want)
	if want == api.OK && m.trying {
		want = api.ErrState
	}
	expect(t, "Do", Do(root, two(), c, s, boot(t, version)), want)
	if want == api.OK {
		m.beside, m.left = version, 3
	}
	return m
}

func (m story) raise(t *testing.T, c *count.Counts, version int) story {
	t.Helper()
	_, err := c.Raise("boot", version)
	expect(t, "Raise", err, api.OK)
	m.least = max(m.least, version)
	return m
}

func (m story) start(s *slot.Slots) story {
	s.Start()
	m.trying = m.left > 0
	m.left = max(m.left-1, 0)
	return m
}

// play does one thing, of the program and of the story, and tells how the story goes on.
func (m story) play(t *testing.T, c *count.Counts, s *slot.Slots, deed, by int) story {
	t.Helper()
	switch {
	case deed < 6: // from two older to three newer
		return m.update(t, c, s, max(m.good-2+deed, 1))
	case deed == 6:
		expect(t, "Do", Do(root, two(), c, s, of(t, stranger, made("boot", 1000, "a"))), api.ErrSeal)
	case deed == 7 && by == 0:
		return m.raise(t, c, m.good+2) // above what is good, as no device would
	case deed < 10:
		return m.raise(t, c, m.good)
	case deed < 12 && m.trying:
		expect(t, "Good", s.Good(), api.OK)
		return story{good: m.beside, least: m.least}
	case deed < 12:
		expect(t, "Good", s.Good(), api.ErrClash)
	default:
		return m.start(s)
	}
	return m
}

// TestLongRows plays long rows of deeds, and holds what is there against the story after each.
func TestLongRows(t *testing.T) {
	reached := 0
	for seed := range 40 {
		c, s, m, state := count.New(), slots(t, boot(t, 1)), story{good: 1}, uint32(seed)
		for range 400 {
			state = state*1664525 + 1013904223
			ahead := m
			m = m.play(t, c, s, int(state>>16)&15, int(state>>24)&3)
			if m.good < ahead.good || s.GoodOne() != boot(t, m.good) {
				t.Fatalf("%v is good after %d; want %d", s.GoodOne(), ahead.good, m.good)
			}
			expectLeast(t, c, "boot", m.least)
			if at := both(s)[s.Pick()]; m.left > 0 && at != trial(boot(t, m.beside), m.left) || m.left == 0 && at != good(boot(t, m.good)) {
				t.Fatalf("%v would be started; the story is %+v", at, m)
			}
		}
		reached = max(reached, m.good)
	}
	if reached < 10 {
		t.Errorf("no row came further than version %d", reached)
	}
}
