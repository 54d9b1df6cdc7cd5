package slot

import (
	"math"
	"strings"
	"testing"
	"unsafe"

	"bootstair/api"
	"bootstair/plain"
)

const nine = "abcdefghi"

// signed gives an image whose seal goes with the version, so that no two versions are alike in anything but the name. No key made the seal: slots do not ask for one.
func signed(version int) api.Signed {
	return api.Signed{
		Image: api.Image{Name: "boot", Version: version, Code: strings.Repeat("c", version%9)},
		Seal:  api.Seal{Point: 1000 + version, Answer: version % 257},
	}
}

// The states that a slot may be in.
func empty() api.Slot           { return api.Slot{} }
func good(version int) api.Slot { return api.Slot{Signed: signed(version), Full: true, Good: true} }
func trial(version, tries int) api.Slot {
	return api.Slot{Signed: signed(version), Full: true, Tries: tries}
}

type faulty struct {
	signed api.Signed
	err    api.Errno
}

// wrong are images with what chapter 3's Check says of them, sealed each.
func wrong() []faulty {
	l := []faulty{
		{api.Signed{}, api.ErrShape},
		{api.Signed{Image: api.Image{Version: 2, Code: "a"}}, api.ErrShape},
		{api.Signed{Image: api.Image{Name: nine, Version: 2}}, api.ErrFull},
		{api.Signed{Image: api.Image{Name: "boot", Version: 2, Code: nine}}, api.ErrFull},
		{api.Signed{Image: api.Image{Name: nine, Version: 0, Code: "A"}}, api.ErrShape},
		{api.Signed{Image: api.Image{Name: nine, Version: 0}}, api.ErrFull},
		{api.Signed{Image: api.Image{Name: strings.Repeat("a", 5000), Version: 2}}, api.ErrFull},
	}
	for _, text := range []string{"A", "Z", "`", "{", "0", " ", "\x00", "\x80", "\xff", "é"} {
		l = append(l,
			faulty{api.Signed{Image: api.Image{Name: text, Version: 2}}, api.ErrShape},
			faulty{api.Signed{Image: api.Image{Name: "os", Version: 2, Code: "a" + text}}, api.ErrShape})
	}
	for _, v := range []int{0, -1, 1001, 1<<32 + 2, math.MinInt, math.MaxInt} {
		l = append(l, faulty{api.Signed{Image: api.Image{Name: "os", Version: v}}, api.ErrRange})
	}
	for i := range l {
		l[i].signed.Seal = api.Seal{Point: 64, Answer: i}
	}
	return l
}

func made(t *testing.T, first api.Signed) *Slots {
	t.Helper()
	s, err := New(first)
	if s == nil || err != nil {
		t.Fatalf("New(%v): got %v, %v", first, s, err)
	}
	return s
}

// expectAll holds both slots, and which would be started, against what is wanted.
func expectAll(t *testing.T, s *Slots, pick int, want ...api.Slot) {
	t.Helper()
	if got := s.Pick(); got != pick {
		t.Errorf("Pick: got %d; want %d", got, pick)
	}
	for i, w := range want {
		if got, err := s.At(i); got != w || err != nil {
			t.Errorf("At(%d): got %v, %v; want %v", i, got, err, w)
		}
	}
	if got := s.Pick(); got != pick {
		t.Errorf("Pick, asked again: got %d; want %d", got, pick)
	}
}

func expectPut(t *testing.T, s *Slots, next api.Signed, want api.Errno) {
	t.Helper()
	expectErr(t, "Put", s.Put(next), want)
}

func expectGood(t *testing.T, s *Slots, want api.Errno) {
	t.Helper()
	expectErr(t, "Good", s.Good(), want)
}

func expectGoodOne(t *testing.T, s *Slots, version int) {
	t.Helper()
	if got := s.GoodOne(); got != signed(version) {
		t.Errorf("GoodOne: got %v; want %v", got, signed(version))
	}
}

func expectErr(t *testing.T, call string, err error, want api.Errno) {
	t.Helper()
	if plain.Told(err) != want || err != nil && want == api.OK {
		t.Errorf("%s: got %v; want %v", call, err, want)
	}
}

func expectStart(t *testing.T, s *Slots, version int) {
	t.Helper()
	if got := s.Start(); got != signed(version) {
		t.Errorf("Start: got %v; want %v", got, signed(version))
	}
}

// TestNew: the first image is good in slot 0, and is started as often as one likes; slot 1 is empty.
func TestNew(t *testing.T) {
	s := made(t, signed(5))
	expectAll(t, s, 0, good(5), empty())
	for range 10 {
		expectStart(t, s, 5)
		expectAll(t, s, 0, good(5), empty())
	}
}

// TestNewEdges: whatever Check lets through may be the first, whatever its seal is.
func TestNewEdges(t *testing.T) {
	for _, first := range []api.Signed{
		{Image: api.Image{Name: "a", Version: 1}},
		{Image: api.Image{Name: "z", Version: 1000, Code: "a"}, Seal: api.Seal{Point: -1, Answer: -1}},
		{Image: api.Image{Name: "abcdefgh", Version: 1000, Code: "zyxwvuts"}, Seal: api.Seal{Point: math.MaxInt, Answer: math.MinInt}},
	} {
		s := made(t, first)
		expectAll(t, s, 0, api.Slot{Signed: first, Full: true, Good: true}, empty())
		if got := s.Start(); got != first {
			t.Errorf("Start: got %v; want %v", got, first)
		}
		expectPut(t, s, first, api.OK)
		expectAll(t, s, 1, api.Slot{Signed: first, Full: true, Good: true}, api.Slot{Signed: first, Full: true, Tries: 3})
		if got := s.Start(); got != first {
			t.Errorf("Start: got %v; want %v", got, first)
		}
	}
}

func TestNewWrong(t *testing.T) {
	for _, w := range wrong() {
		s, err := New(w.signed)
		if s != nil || plain.Told(err) != w.err {
			t.Errorf("New(%v): got %v, %v; want nil, %v", w.signed, s, err, w.err)
		}
	}
}

// TestPut: it goes beside the one that runs, with three tries, and does not run yet; an older version, or another name, may be put, too.
func TestPut(t *testing.T) {
	s := made(t, signed(5))
	for _, version := range []int{6, 4, 5, 1000, 1} {
		expectPut(t, s, signed(version), api.OK)
		expectAll(t, s, 1, good(5), trial(version, 3))
		expectGood(t, s, api.ErrClash)
		expectAll(t, s, 1, good(5), trial(version, 3))
	}
	stranger := api.Signed{Image: api.Image{Name: "os", Version: 7, Code: "x"}, Seal: api.Seal{Point: 3, Answer: 4}}
	expectPut(t, s, stranger, api.OK)
	expectAll(t, s, 1, good(5), api.Slot{Signed: stranger, Full: true, Tries: 3})
}

// TestPutWrong: nothing changes, be the other slot empty, on trial, running, or out of tries; and what is wrong with the image is told ahead of the state.
func TestPutWrong(t *testing.T) {
	for _, w := range wrong() {
		s := made(t, signed(5))
		expectPut(t, s, w.signed, w.err)
		expectAll(t, s, 0, good(5), empty())
		expectPut(t, s, signed(6), api.OK)
		expectPut(t, s, w.signed, w.err)
		expectAll(t, s, 1, good(5), trial(6, 3))
		for tries := 2; tries >= 0; tries-- {
			expectStart(t, s, 6)
			pick := s.Pick()
			expectPut(t, s, w.signed, w.err)
			expectAll(t, s, pick, good(5), trial(6, tries))
		}
		expectStart(t, s, 5)
		expectPut(t, s, w.signed, w.err)
		expectAll(t, s, 0, good(5), trial(6, 0))
		expectGood(t, s, api.ErrClash)
	}
}

// TestPutWhileOnTrial: nothing comes beside one that runs and is not good: the good one stays.
func TestPutWhileOnTrial(t *testing.T) {
	s := made(t, signed(5))
	expectPut(t, s, signed(6), api.OK)
	for tries := 2; tries >= 0; tries-- {
		expectStart(t, s, 6)
		pick := min(tries, 1) // without a try left the good one is next
		expectPut(t, s, signed(7), api.ErrState)
		expectAll(t, s, pick, good(5), trial(6, tries))
	}
	expectStart(t, s, 5)
	expectPut(t, s, signed(7), api.OK)
	expectAll(t, s, 1, good(5), trial(7, 3))
}

// TestTries: three starts, and then the good one for ever; the one without tries is there still.
func TestTries(t *testing.T) {
	s := made(t, signed(5))
	expectPut(t, s, signed(6), api.OK)
	expectStart(t, s, 6)
	expectAll(t, s, 1, good(5), trial(6, 2))
	expectStart(t, s, 6)
	expectAll(t, s, 1, good(5), trial(6, 1))
	expectStart(t, s, 6)
	expectAll(t, s, 0, good(5), trial(6, 0))
	for range 5 {
		expectStart(t, s, 5)
		expectAll(t, s, 0, good(5), trial(6, 0))
		expectGood(t, s, api.ErrClash)
	}
}

// TestGood: after each number of starts the one that runs may be good, the last try too; then the other slot is empty, and the next one goes there.
func TestGood(t *testing.T) {
	for starts := 1; starts <= 3; starts++ {
		s := made(t, signed(5))
		expectPut(t, s, signed(6), api.OK)
		for range starts {
			expectStart(t, s, 6)
		}
		expectGood(t, s, api.OK)
		expectAll(t, s, 1, empty(), good(6))
		expectGood(t, s, api.ErrClash)
		expectAll(t, s, 1, empty(), good(6))
		for range 5 {
			expectStart(t, s, 6)
			expectAll(t, s, 1, empty(), good(6))
		}
		expectPut(t, s, signed(7), api.OK)
		expectAll(t, s, 0, trial(7, 3), good(6))
	}
}

// TestGoodNotStarted: what was put does not run, so it is not that one which is asked for.
func TestGoodNotStarted(t *testing.T) {
	s := made(t, signed(5))
	expectGood(t, s, api.ErrClash)
	expectAll(t, s, 0, good(5), empty())
	expectPut(t, s, signed(6), api.OK)
	expectGood(t, s, api.ErrClash)
	expectAll(t, s, 1, good(5), trial(6, 3))
	expectStart(t, s, 6)
	expectGood(t, s, api.OK)
}

// TestToAndFro: with each good one the slots change their parts.
func TestToAndFro(t *testing.T) {
	s := made(t, signed(1))
	for version := 2; version < 40; version++ {
		at := (version + 1) % 2 // version 2 goes into slot 1, 3 into 0
		expectPut(t, s, signed(version), api.OK)
		for tries := 2; tries >= version%3; tries-- {
			expectStart(t, s, version)
			want := [2]api.Slot{}
			want[at], want[1-at] = trial(version, tries), good(version-1)
			pick := at
			if tries == 0 {
				pick = 1 - at
			}
			expectAll(t, s, pick, want[:]...)
		}
		expectGood(t, s, api.OK)
		want := [2]api.Slot{}
		want[at] = good(version)
		expectAll(t, s, at, want[:]...)
	}
}

// TestGoodOne: it is the one that is good, not the one that runs or would be started; and asking changes nothing.
func TestGoodOne(t *testing.T) {
	s := made(t, signed(5))
	expectGoodOne(t, s, 5)
	expectPut(t, s, signed(6), api.OK)
	expectGoodOne(t, s, 5)
	for tries := 2; tries >= 0; tries-- {
		expectStart(t, s, 6)
		expectGoodOne(t, s, 5)
		expectAll(t, s, min(tries, 1), good(5), trial(6, tries))
	}
	expectGood(t, s, api.OK)
	expectGoodOne(t, s, 6)
	expectAll(t, s, 1, empty(), good(6))
}

// TestFromSlotOne: what falls back may fall back to slot 1 as well.
func TestFromSlotOne(t *testing.T) {
	s := made(t, signed(5))
	expectPut(t, s, signed(6), api.OK)
	expectStart(t, s, 6)
	expectGood(t, s, api.OK)
	expectPut(t, s, signed(7), api.OK)
	for tries := 2; tries >= 0; tries-- {
		expectStart(t, s, 7)
		expectPut(t, s, signed(8), api.ErrState)
		expectAll(t, s, 1-min(tries, 1), trial(7, tries), good(6))
	}
	expectStart(t, s, 6)
	expectAll(t, s, 1, trial(7, 0), good(6))
	expectPut(t, s, signed(8), api.OK)
	expectAll(t, s, 0, trial(8, 3), good(6))
}

func TestAtWrong(t *testing.T) {
	s := made(t, signed(5))
	expectPut(t, s, signed(6), api.OK)
	for _, i := range []int{-1, -2, 2, 3, 100, 1 << 32, 1<<32 + 1, -1 << 32, math.MinInt, math.MaxInt} {
		if got, err := s.At(i); got != empty() || plain.Told(err) != api.ErrRange {
			t.Errorf("At(%d): got %v, %v; want none, %v", i, got, err, api.ErrRange)
		}
	}
	expectAll(t, s, 1, good(5), trial(6, 3))
}

// TestPickOfTwoGood: calls come to no such state; the chapter says what is picked then all the same.
func TestPickOfTwoGood(t *testing.T) {
	for runs := range 2 {
		s := &Slots{two: [2]api.Slot{good(5), good(6)}, runs: runs}
		if got := s.Pick(); got != runs {
			t.Errorf("Pick: got %d; want %d", got, runs)
		}
		expectGoodOne(t, s, 5+runs)
		expectStart(t, s, 5+runs)
		expectAll(t, s, runs, good(5), good(6))
	}
}

// TestApart: two Slots know nothing of each other, and what came out of them is the caller's.
func TestApart(t *testing.T) {
	a, b := made(t, signed(5)), made(t, signed(5))
	expectPut(t, a, signed(6), api.OK)
	expectStart(t, a, 6)
	expectAll(t, b, 0, good(5), empty())
	out, _ := a.At(1)
	out.Tries, out.Good, out.Signed.Image.Version = 9, true, 9
	expectAll(t, a, 1, good(5), trial(6, 2))
}

// held gives a signed image whose texts lie in memory that can be written.
func held(version int) (api.Signed, []byte, []byte) {
	s := signed(version)
	name, code := []byte(s.Image.Name), []byte(s.Image.Code)
	s.Image.Name = unsafe.String(&name[0], len(name))
	s.Image.Code = unsafe.String(&code[0], len(code))
	return s, name, code
}

// TestTextsAreNotKept: what is written later into the memory of an image's texts changes nothing.
func TestTextsAreNotKept(t *testing.T) {
	first, firstName, firstCode := held(5)
	next, nextName, nextCode := held(6)
	s := made(t, first)
	expectPut(t, s, next, api.OK)
	for _, memory := range [][]byte{firstName, firstCode, nextName, nextCode} {
		for i := range memory {
			memory[i] = 'x'
		}
	}
	expectAll(t, s, 1, good(5), trial(6, 3))
	expectStart(t, s, 6)
}

// TestTextsAreFresh: what comes out shares no memory with what is kept, nor with what came out ahead of it.
func TestTextsAreFresh(t *testing.T) {
	s := made(t, signed(5))
	expectPut(t, s, signed(6), api.OK)
	seen := map[*byte]int{}
	add := func(m api.Image) {
		seen[unsafe.StringData(m.Name)]++
		seen[unsafe.StringData(m.Code)]++
	}
	add(s.two[0].Signed.Image)
	add(s.two[1].Signed.Image)
	var out []api.Image // held, so that no memory comes twice
	for range 3 {
		zero, _ := s.At(0)
		one, _ := s.At(1)
		out = append(out, zero.Signed.Image, one.Signed.Image, s.GoodOne().Image, s.Start().Image)
	}
	for _, m := range out {
		add(m)
	}
	if want := 4 + 2*len(out); len(seen) != want {
		t.Errorf("%d texts of %d have memory of their own", len(seen), want)
	}
}

// story tells of slots in another way than the program does: by what is good, and what was put beside it.
type story struct {
	good, beside int // versions; beside 0: none
	left         int // tries
	trying       bool
	flipped      bool // what is good stands in slot 1
}

func (m story) pick() int {
	if m.flipped == (m.left > 0) {
		return 0
	}
	return 1
}

func (m story) slots() []api.Slot {
	beside := empty()
	if m.beside != 0 {
		beside = trial(m.beside, m.left)
	}
	if m.flipped {
		return []api.Slot{beside, good(m.good)}
	}
	return []api.Slot{good(m.good), beside}
}

// play does one thing, of the slots and of the story, and tells how the story goes on.
func (m story) play(t *testing.T, s *Slots, deed, version int) story {
	t.Helper()
	switch {
	case deed == 0 && m.trying:
		expectPut(t, s, signed(version), api.ErrState)
	case deed == 0:
		expectPut(t, s, signed(version), api.OK)
		m.beside, m.left = version, 3
	case deed == 1 && !m.trying:
		expectGood(t, s, api.ErrClash)
	case deed == 1:
		expectGood(t, s, api.OK)
		m = story{good: m.beside, flipped: !m.flipped}
	case deed == 2 && m.left > 0:
		expectStart(t, s, m.beside)
		m.left--
		m.trying = true
	case deed == 2:
		expectStart(t, s, m.good)
		m.trying = false
	default:
		expectPut(t, s, api.Signed{}, api.ErrShape)
	}
	return m
}

// TestEachRow plays each row of eight deeds (put, good, start, put what is none), and holds all that can be asked against the story after each.
func TestEachRow(t *testing.T) {
	for row := range 1 << 16 {
		s, m := made(t, signed(1)), story{good: 1}
		for i := range 8 {
			m = m.play(t, s, row>>(2*i)&3, i+2)
			expectAll(t, s, m.pick(), m.slots()...)
			expectGoodOne(t, s, m.good)
		}
		if t.Failed() {
			t.Fatalf("row %016b", row)
		}
	}
}

// TestLongRows: the same, of long rows, which come to each slot many times.
func TestLongRows(t *testing.T) {
	for start := range 50 {
		s, m, state := made(t, signed(1)), story{good: 1}, uint32(start)
		for i := range 500 {
			state = state*1664525 + 1013904223
			m = m.play(t, s, int(state>>16)&3, i+2)
			expectAll(t, s, m.pick(), m.slots()...)
			expectGoodOne(t, s, m.good)
		}
	}
}
