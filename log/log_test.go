package log

import (
	"fmt"
	"math"
	"strings"
	"testing"
	"unsafe"

	"bootstair/api"
	"bootstair/plain"
)

// raised is one that changed something.
type raised struct {
	name string
	v    int
}

// noNames are texts that are no names; some hold what a record is made of.
func noNames() []string {
	return []string{"", "ninelongs", "A", "a1", "a b", "a ", " a", " ", "\n", "a\n", "\na", "a 1\n", "a 1\nb", "a\x00", "\xff", "é", strings.Repeat("a", 5000)}
}

func noVersions() []int {
	return []int{-1, -1000, 1001, 10000, 1<<32 + 5, math.MinInt, math.MaxInt}
}

// twelve are as many names as may be above 0.
func twelve() []string {
	return []string{"a", "aa", "b", "boot", "os", "kernel", "z", "zz", "ab", "ba", "abcdefgh", "zzzzzzzz"}
}

// story is a row of raises that each change something, in records of several lengths.
func story() []raised {
	return []raised{{"a", 1}, {"os", 9}, {"abcdefgh", 1000}, {"a", 10}, {"boot", 77}, {"os", 10}, {"a", 1000}}
}

func expectRaise(t *testing.T, l *Log, name string, v int, want bool) {
	t.Helper()
	if got, err := l.Raise(name, v); got != want || err != nil {
		t.Errorf("Raise(%q, %d): got %v, %v; want %v", name, v, got, err, want)
	}
}

func expectNoRaise(t *testing.T, l *Log, name string, v int, want api.Errno) {
	t.Helper()
	if got, err := l.Raise(name, v); got || plain.Told(err) != want {
		t.Errorf("Raise(%q, %d): got %v, %v; want false, %v", name, v, got, err, want)
	}
}

func expectSync(t *testing.T, l *Log) {
	t.Helper()
	if err := l.Sync(); err != nil {
		t.Errorf("Sync: got %v", err)
	}
	expectBytes(t, l, l.Bytes(), l.Bytes())
}

func expectNoSync(t *testing.T, l *Log) {
	t.Helper()
	there, safe := l.Bytes(), l.Safe()
	if err := l.Sync(); plain.Told(err) != api.ErrState {
		t.Errorf("Sync: got %v; want %v", err, api.ErrState)
	}
	expectBytes(t, l, there, safe)
}

func expectLeast(t *testing.T, l *Log, name string, want int) {
	t.Helper()
	if got, err := l.Least(name); got != want || err != nil {
		t.Errorf("Least(%q): got %d, %v; want %d", name, got, err, want)
	}
}

// expectCounts holds every name against what a row of raises made of it.
func expectCounts(t *testing.T, l *Log, rows []raised) {
	t.Helper()
	for _, name := range append(twelve(), "stranger") {
		expectLeast(t, l, name, leastOf(rows, name))
	}
}

func expectBytes(t *testing.T, l *Log, bytes, safe int) {
	t.Helper()
	if l.Bytes() != bytes || l.Safe() != safe {
		t.Errorf("Bytes, Safe: got %d, %d; want %d, %d", l.Bytes(), l.Safe(), bytes, safe)
	}
}

func leastOf(rows []raised, name string) int {
	least := 0
	for _, r := range rows {
		if r.name == name {
			least = max(least, r.v)
		}
	}
	return least
}

// played gives a log of those raises, and where each record ends.
func played(t *testing.T, rows []raised) (*Log, []int) {
	t.Helper()
	l := New()
	ends := []int{}
	for _, r := range rows {
		expectRaise(t, l, r.name, r.v, true)
		ends = append(ends, l.Bytes())
	}
	return l, ends
}

// size of a record, as a log tells it that has no other one.
func size(r raised) int {
	l := New()
	l.Raise(r.name, r.v)
	return l.Bytes()
}

func sizes(rows []raised) int {
	n := 0
	for _, r := range rows {
		n += size(r)
	}
	return n
}

// thirty raises that each change something: as many records as may be.
func thirty() []raised {
	rows := []raised{}
	for i := range api.MaxDone {
		rows = append(rows, raised{twelve()[i%12], 1 + i})
	}
	return rows
}

// TestNew: nothing is there, and nothing fails of itself.
func TestNew(t *testing.T) {
	l := New()
	expectBytes(t, l, 0, 0)
	expectCounts(t, l, nil)
	for range 1000 {
		expectSync(t, l)
	}
	expectBytes(t, l, 0, 0)
	expectRaise(t, l, "boot", 5, true)
	expectLeast(t, l, "boot", 5)
}

// TestRaise: it goes up to what is more, and never back; a record comes of what changed something alone, and is not safe by itself.
func TestRaise(t *testing.T) {
	l := New()
	least := 0
	for _, v := range []int{0, 1, 0, 1, 2, 10, 9, 10, 1, 0, 11, 999, 1000, 1000, 999, 0} {
		ahead := l.Bytes()
		expectRaise(t, l, "boot", v, v > least)
		switch grown := l.Bytes() - ahead; {
		case v > least && grown < 2:
			t.Errorf("Raise to %d: a record of %d bytes", v, grown)
		case v <= least && grown != 0:
			t.Errorf("Raise to %d: %d bytes of what changed nothing", v, grown)
		}
		least = max(least, v)
		expectLeast(t, l, "boot", least)
		expectBytes(t, l, l.Bytes(), 0)
	}
}

// TestEachRecord: each version, and a name of each length, is kept as it was, whole, and beside others.
func TestEachRecord(t *testing.T) {
	for v := 1; v <= 1000; v++ {
		for n := 1; n <= 8; n++ {
			r := raised{"abcdefgh"[:n], v}
			rows := []raised{{"z", 3}, r, {"zz", 1000}}
			l, ends := played(t, rows)
			if ends[1]-ends[0] < 2 || ends[1]-ends[0] != size(r) {
				t.Fatalf("record of %v: %d bytes, %d alone", r, ends[1]-ends[0], size(r))
			}
			l.Crash(ends[2])
			expectBytes(t, l, ends[2], ends[2])
			expectLeast(t, l, "z", 3)
			expectLeast(t, l, r.name, v)
			expectLeast(t, l, "zz", 1000)
		}
	}
}

// TestWrong: chapter 11's errors, the name's first; neither bytes nor steps come of them, nor any room that is taken.
func TestWrong(t *testing.T) {
	l := New()
	expectRaise(t, l, "os", 5, true)
	l.Fail(0)
	there := l.Bytes()
	for _, name := range noNames() {
		for _, v := range append(noVersions(), 0, 1, 1000) {
			expectNoRaise(t, l, name, v, api.ErrShape)
		}
		if got, err := l.Least(name); got != 0 || plain.Told(err) != api.ErrShape {
			t.Errorf("Least(%q): got %d, %v; want 0, %v", name, got, err, api.ErrShape)
		}
	}
	for _, v := range noVersions() {
		expectNoRaise(t, l, "os", v, api.ErrRange)
		expectNoRaise(t, l, "stranger", v, api.ErrRange)
	}
	expectBytes(t, l, there, 0)
	expectCounts(t, l, []raised{{"os", 5}})
	expectNoRaise(t, l, "os", 6, api.ErrState)
}

// TestTwelveNames: a thirteenth is chapter 11's ErrFull; it may stay at 0, and the twelve go further.
func TestTwelveNames(t *testing.T) {
	l, ends := played(t, thirty()[:12])
	l.Fail(0)
	for _, v := range []int{1, 500, 1000} {
		expectNoRaise(t, l, "stranger", v, api.ErrFull)
	}
	expectNoRaise(t, l, "stranger", 1001, api.ErrRange)
	expectRaise(t, l, "stranger", 0, false)
	expectBytes(t, l, ends[11], 0)
	expectCounts(t, l, thirty()[:12])
	l.Fail(-1)
	for _, name := range twelve() {
		expectRaise(t, l, name, 900, true)
	}
}

// TestThirtyRecords: no other one comes behind them, and that is no step; what changes nothing is no error, and what is wrong is told ahead.
func TestThirtyRecords(t *testing.T) {
	for n := range thirty() {
		l, ends := played(t, thirty()[:n+1])
		full := n+1 == 30
		for _, safe := range []int{0, ends[n]} {
			if safe > 0 {
				expectSync(t, l)
			}
			l.Fail(0)
			expectRaise(t, l, "a", 1, false)
			expectRaise(t, l, "stranger", 0, false)
			expectNoRaise(t, l, "A", 1, api.ErrShape)
			expectNoRaise(t, l, "a", 1001, api.ErrRange)
			if full {
				expectNoRaise(t, l, "a", 1000, api.ErrFull)
				expectNoRaise(t, l, "b", 28, api.ErrFull)
				expectNoRaise(t, l, "stranger", 1, api.ErrFull)
			}
			expectBytes(t, l, ends[n], safe)
			expectCounts(t, l, thirty()[:n+1])
			l.Fail(-1)
		}
		if !full {
			expectRaise(t, l, "a", 1000, true)
		}
	}
}

// TestThirtyAfterCrash: what is lost makes room, what is kept does not, and records that were cut take none.
func TestThirtyAfterCrash(t *testing.T) {
	for n := 0; n <= 30; n++ {
		l, ends := played(t, thirty())
		l.Crash(append([]int{0}, ends...)[n] + 1)
		for v := 100; v < 100+30-n; v++ {
			expectRaise(t, l, "a", v, true)
		}
		there := l.Bytes()
		expectNoRaise(t, l, "a", 200, api.ErrFull)
		expectBytes(t, l, there, append([]int{0}, ends...)[n])
		expectSync(t, l)
		l.Crash(0)
		expectNoRaise(t, l, "a", 200, api.ErrFull)
	}
}

// TestSync: all that is there is safe, be it done after each record or at last.
func TestSync(t *testing.T) {
	for n := 0; n <= len(story()); n++ {
		l := New()
		for i, r := range story() {
			if i == n {
				expectSync(t, l)
			}
			expectRaise(t, l, r.name, r.v, true)
			safe := 0
			if i >= n {
				safe = sizes(story()[:n])
			}
			expectBytes(t, l, sizes(story()[:i+1]), safe)
		}
		expectSync(t, l)
		expectSync(t, l)
		expectCounts(t, l, story())
	}
}

// TestFailAtRecord: of a record half the bytes are there, rounded down; the Counts know nothing of it.
func TestFailAtRecord(t *testing.T) {
	odd, even := 0, 0
	for n, r := range story() {
		l, _ := played(t, story()[:n])
		l.Fail(0)
		expectNoRaise(t, l, r.name, r.v, api.ErrState)
		expectBytes(t, l, sizes(story()[:n])+size(r)/2, 0)
		expectCounts(t, l, story()[:n])
		if size(r)%2 == 1 {
			odd++
		} else {
			even++
		}
	}
	if odd == 0 || even == 0 {
		t.Errorf("%d odd records, %d even ones", odd, even)
	}
}

// TestFailAtSync: it makes nothing safe, and the log has stopped.
func TestFailAtSync(t *testing.T) {
	for n := 0; n <= len(story()); n++ {
		for safe := 0; safe <= n; safe++ {
			l, _ := played(t, story()[:safe])
			expectSync(t, l)
			for _, r := range story()[safe:n] {
				expectRaise(t, l, r.name, r.v, true)
			}
			l.Fail(0)
			expectNoSync(t, l)
			expectBytes(t, l, sizes(story()[:n]), sizes(story()[:safe]))
			expectCounts(t, l, story()[:n])
			expectNoRaise(t, l, "kernel", 1, api.ErrState)
			expectBytes(t, l, sizes(story()[:n]), sizes(story()[:safe]))
		}
	}
}

// TestSteps: just so many are taken, records and syncs, in each order; what is neither is no step.
func TestSteps(t *testing.T) {
	const rows = 6
	for n := 0; n <= rows; n++ {
		for order := range 1 << rows {
			l := New()
			l.Fail(n)
			v := 0
			for i := range rows {
				noSteps(t, l, v)
				switch record := order>>i&1 == 1; {
				case record && i < n:
					v++
					expectRaise(t, l, "os", v, true)
				case record && i == n:
					expectNoRaise(t, l, "os", v+1, api.ErrState)
				case !record && i < n:
					expectSync(t, l)
				case !record && i == n:
					expectNoSync(t, l)
				}
				if i == n {
					break
				}
			}
			expectLeast(t, l, "os", v)
		}
	}
}

// noSteps does what takes none.
func noSteps(t *testing.T, l *Log, v int) {
	t.Helper()
	expectRaise(t, l, "os", v, false)
	expectRaise(t, l, "stranger", 0, false)
	expectNoRaise(t, l, "OS", v+1, api.ErrShape)
	expectNoRaise(t, l, "os", 1001, api.ErrRange)
	expectLeast(t, l, "os", v)
	l.Bytes()
	l.Safe()
}

// TestFailMany: a number of steps that is great is taken as it is; below 0 nothing ever fails.
func TestFailMany(t *testing.T) {
	for _, n := range []int{-1, -2, math.MinInt, math.MinInt + 1, math.MaxInt, 1 << 32, 3000} {
		l := New()
		l.Fail(n)
		for v := 1; v <= 30; v++ {
			expectRaise(t, l, "os", v, true)
			for range 50 {
				expectSync(t, l)
			}
		}
	}
	l := New()
	l.Fail(300)
	for range 300 {
		expectSync(t, l)
	}
	expectNoSync(t, l)
}

// TestFailAgain: a new one takes the place of the one ahead, and is counted from then on, whichever comes first.
func TestFailAgain(t *testing.T) {
	for first := -2; first <= 4; first++ {
		for taken := 0; taken <= 3; taken++ {
			if first >= 0 && taken > first {
				continue
			}
			for second := -2; second <= 4; second++ {
				l := New()
				l.Fail(first)
				for range taken {
					expectSync(t, l)
				}
				l.Fail(second)
				steps := second
				if second < 0 {
					steps = 20
				}
				for v := 1; v <= steps; v++ {
					expectRaise(t, l, "os", v, true)
				}
				if second < 0 {
					expectSync(t, l)
				} else {
					expectNoSync(t, l)
				}
			}
		}
	}
}

// TestStopped: all says ErrState, ahead of any other error and also where nothing would change; only Least, Bytes and Safe tell as ever, and no Fail lets it go on.
func TestStopped(t *testing.T) {
	for _, stop := range []func(*Log){
		func(l *Log) { l.Raise("kernel", 7) },
		func(l *Log) { l.Sync() },
	} {
		l, _ := played(t, story())
		expectSync(t, l)
		expectRaise(t, l, "zz", 8, true)
		l.Fail(0)
		stop(l)
		there, safe := l.Bytes(), l.Safe()
		for _, n := range []int{0, -1, 1, 5, math.MaxInt, math.MinInt} {
			expectNoRaise(t, l, "kernel", 7, api.ErrState)
			expectNoRaise(t, l, "a", 1, api.ErrState)
			expectNoRaise(t, l, "a", 0, api.ErrState)
			expectNoRaise(t, l, "", 0, api.ErrState)
			expectNoRaise(t, l, "a", 1001, api.ErrState)
			expectNoSync(t, l)
			expectBytes(t, l, there, safe)
			expectCounts(t, l, append(story(), raised{"zz", 8}))
			if got, err := l.Least("A"); got != 0 || plain.Told(err) != api.ErrShape {
				t.Errorf("Least: got %d, %v", got, err)
			}
			l.Fail(n)
		}
	}
}

// TestStoppedFull: with thirty records, too.
func TestStoppedFull(t *testing.T) {
	l, _ := played(t, thirty())
	l.Fail(0)
	expectNoSync(t, l)
	expectNoRaise(t, l, "a", 1000, api.ErrState)
	expectNoRaise(t, l, "stranger", 1, api.ErrState)
}

// TestCrash: with each number of records, of which each number is safe, cut at each byte: whole records are left, and these are safe.
func TestCrash(t *testing.T) {
	for n := 0; n <= len(story()); n++ {
		for safe := 0; safe <= n; safe++ {
			loose := sizes(story()[safe:n])
			for _, keep := range keeps(loose) {
				l, _ := played(t, story()[:safe])
				expectSync(t, l)
				for _, r := range story()[safe:n] {
					expectRaise(t, l, r.name, r.v, true)
				}
				l.Crash(keep)
				expectLeft(t, l, story()[:n], safe, keep)
			}
		}
	}
}

// keeps are all numbers from none to more than there are, and the ends of int.
func keeps(loose int) []int {
	l := []int{math.MinInt, math.MinInt + 1, math.MaxInt, math.MaxInt - 1, 1 << 32}
	for keep := -2; keep <= loose+2; keep++ {
		l = append(l, keep)
	}
	return l
}

// expectLeft holds what a crash left against the whole records among so many bytes; then it goes on.
func expectLeft(t *testing.T, l *Log, rows []raised, safe, keep int) {
	t.Helper()
	left := safe
	for left < len(rows) && sizes(rows[safe:left+1]) <= keep {
		left++
	}
	rows = rows[:left]
	expectBytes(t, l, sizes(rows), sizes(rows))
	expectCounts(t, l, rows)
	expectRaise(t, l, "zz", 4, true)
	expectRaise(t, l, "zz", 3, false)
	expectBytes(t, l, sizes(rows)+size(raised{"zz", 4}), sizes(rows))
	expectCounts(t, l, append(append([]raised{}, rows...), raised{"zz", 4}))
	expectSync(t, l)
	l.Crash(0)
	expectCounts(t, l, append(append([]raised{}, rows...), raised{"zz", 4}))
}

// TestCrashAfterHalf: of a record that failed nothing comes back, however many bytes are kept; it can be raised again.
func TestCrashAfterHalf(t *testing.T) {
	for n, r := range story() {
		for safe := 0; safe <= n; safe++ {
			loose := sizes(story()[safe:n]) + size(r)/2
			for _, keep := range keeps(loose) {
				l, _ := played(t, story()[:safe])
				expectSync(t, l)
				for _, r := range story()[safe:n] {
					expectRaise(t, l, r.name, r.v, true)
				}
				l.Fail(0)
				expectNoRaise(t, l, r.name, r.v, api.ErrState)
				expectBytes(t, l, sizes(story()[:safe])+loose, sizes(story()[:safe]))
				l.Crash(keep)
				expectLeft(t, l, story()[:n], safe, keep)
			}
		}
	}
}

// TestCrashAfterSyncFailed: what that sync should have made safe is lost, but for what is kept.
func TestCrashAfterSyncFailed(t *testing.T) {
	for _, keep := range keeps(sizes(story()[3:])) {
		l, _ := played(t, story()[:3])
		expectSync(t, l)
		for _, r := range story()[3:] {
			expectRaise(t, l, r.name, r.v, true)
		}
		l.Fail(0)
		expectNoSync(t, l)
		l.Crash(keep)
		expectLeft(t, l, story(), 3, keep)
	}
}

// TestCrashForgets: no Fail that was said ahead of it, before or after the stop, is known any more.
func TestCrashForgets(t *testing.T) {
	for n := range 6 {
		for _, stops := range []bool{false, true} {
			l, _ := played(t, story())
			if stops {
				l.Fail(0)
				expectNoSync(t, l)
			}
			l.Fail(n)
			l.Crash(0)
			for v := 1; v <= 20; v++ {
				expectRaise(t, l, "os", v, true)
				expectSync(t, l)
			}
			l.Fail(1)
			expectSync(t, l)
			expectNoSync(t, l)
		}
	}
}

// TestCrashAgain: what a crash left no further one takes, whatever it keeps.
func TestCrashAgain(t *testing.T) {
	l, ends := played(t, story())
	l.Crash(ends[4] + 1)
	for _, keep := range keeps(3) {
		l.Crash(keep)
		expectBytes(t, l, ends[4], ends[4])
		expectCounts(t, l, story()[:5])
	}
	empty := New()
	for _, keep := range keeps(3) {
		empty.Crash(keep)
		expectBytes(t, empty, 0, 0)
		expectCounts(t, empty, nil)
	}
}

// TestCrashGoesBack: a version that is lost is raised again, also to another one, and its name leaves room for others.
func TestCrashGoesBack(t *testing.T) {
	l := New()
	expectRaise(t, l, "os", 5, true)
	expectSync(t, l)
	expectRaise(t, l, "os", 9, true)
	for _, name := range twelve() {
		if name != "os" {
			expectRaise(t, l, name, 3, true)
		}
	}
	expectNoRaise(t, l, "stranger", 1, api.ErrFull)
	l.Crash(0)
	expectLeast(t, l, "os", 5)
	expectRaise(t, l, "os", 5, false)
	expectRaise(t, l, "os", 7, true)
	for i := range 11 {
		expectRaise(t, l, "y"+string(rune('a'+i)), 1, true)
	}
	expectNoRaise(t, l, "stranger", 1, api.ErrFull)
	l.Crash(math.MaxInt)
	expectNoRaise(t, l, "stranger", 1, api.ErrFull)
	expectLeast(t, l, "os", 7)
	expectLeast(t, l, "yk", 1)
}

// TestNameIsNotKept: what is written later into a name's memory changes nothing, before a crash or after it.
func TestNameIsNotKept(t *testing.T) {
	l := New()
	for v := 1; v <= 3; v++ {
		memory := []byte("boot")
		expectRaise(t, l, unsafe.String(&memory[0], len(memory)), v, true)
		copy(memory, "root")
		expectLeast(t, l, "boot", v)
		expectLeast(t, l, "root", 0)
	}
	l.Crash(math.MaxInt)
	expectRaise(t, l, "other", 9, true) // over the bytes that a crash read
	l.Crash(0)
	expectRaise(t, l, "yetmore", 900, true)
	expectLeast(t, l, "boot", 3)
	expectLeast(t, l, "root", 0)
	expectLeast(t, l, "other", 0)
}

// TestApart: two logs know nothing of each other.
func TestApart(t *testing.T) {
	a, ends := played(t, story())
	b := New()
	b.Fail(0)
	expectSync(t, a)
	expectNoSync(t, b)
	b.Crash(math.MaxInt)
	expectCounts(t, b, nil)
	expectRaise(t, b, "kernel", 4, true)
	b.Crash(0)
	expectBytes(t, b, 0, 0)
	expectBytes(t, a, ends[6], ends[6])
	expectCounts(t, a, story())
}

// sketch is the chapter's words again, without bytes: rows that were raised, of which some are safe.
type sketch struct {
	rows    []raised
	half    int // bytes of a record that failed
	safe    int // rows
	ahead   int
	stopped bool
}

func (s *sketch) step() bool {
	s.stopped = s.ahead == 0
	s.ahead = max(s.ahead-1, -1)
	return s.stopped
}

func (s *sketch) raise(name string, v int) (bool, api.Errno) {
	names := map[string]int{}
	for _, r := range s.rows {
		names[r.name]++
	}
	r := raised{name, v}
	switch {
	case s.stopped:
		return false, api.ErrState
	case name < "a" || name > "zzzzzzzz":
		return false, api.ErrShape
	case v < 0 || v > 1000:
		return false, api.ErrRange
	case v <= leastOf(s.rows, name):
		return false, api.OK
	case names[name] == 0 && len(names) == 12 || len(s.rows) == 30:
		return false, api.ErrFull
	case s.step():
		s.half = size(r) / 2
		return false, api.ErrState
	}
	s.rows = append(s.rows[:len(s.rows):len(s.rows)], r)
	return true, api.OK
}

func (s *sketch) sync() api.Errno {
	if s.stopped || s.step() {
		return api.ErrState
	}
	s.safe = len(s.rows)
	return api.OK
}

func (s *sketch) crash(keep int) {
	left := s.safe
	for left < len(s.rows) && sizes(s.rows[s.safe:left+1]) <= keep {
		left++
	}
	*s = sketch{rows: s.rows[:left], safe: left, ahead: -1}
}

// deed does one thing to a log and to its sketch, and tells where they part.
type deed struct {
	word string
	do   func(*Log, *sketch) bool
}

func raise(name string, v int) deed {
	return deed{fmt.Sprint("raise ", name, " ", v), func(l *Log, s *sketch) bool {
		is, err := l.Raise(name, v)
		want, errno := s.raise(name, v)
		return is == want && plain.Told(err) == errno
	}}
}

func fail(n int) deed {
	return deed{fmt.Sprint("fail ", n), func(l *Log, s *sketch) bool {
		l.Fail(n)
		s.ahead = max(n, -1)
		return true
	}}
}

func crash(keep int) deed {
	return deed{fmt.Sprint("crash ", keep), func(l *Log, s *sketch) bool {
		l.Crash(keep)
		s.crash(keep)
		return true
	}}
}

func sync() deed {
	return deed{"sync", func(l *Log, s *sketch) bool { return plain.Told(l.Sync()) == s.sync() }}
}

// alike tells whether a log is as its sketch says.
func alike(l *Log, s *sketch, names []string) bool {
	for _, name := range names {
		if least, err := l.Least(name); least != leastOf(s.rows, name) || err != nil {
			return false
		}
	}
	return l.Bytes() == sizes(s.rows)+s.half && l.Safe() == sizes(s.rows[:s.safe])
}

// TestEachRow: every row of five deeds.
func TestEachRow(t *testing.T) {
	const long = 5
	deeds := []deed{
		raise("a", 1), raise("a", 20), raise("b", 300), raise("", 1), sync(),
		fail(0), fail(1), fail(-1),
		crash(0), crash(size(raised{"a", 1})), crash(size(raised{"a", 20}) + 1), crash(math.MaxInt),
	}
	rows := 1
	for range long {
		rows *= len(deeds)
	}
	for row := range rows {
		l, s := New(), &sketch{ahead: -1}
		words := ""
		for at, rest := 0, row; at < long; at, rest = at+1, rest/len(deeds) {
			d := deeds[rest%len(deeds)]
			words += d.word + "; "
			if !d.do(l, s) || !alike(l, s, []string{"a", "b"}) {
				t.Fatalf("%sthe log parts from its sketch", words)
			}
		}
	}
}

// TestLongRows: long rows of deeds, in which names and records run out.
func TestLongRows(t *testing.T) {
	names := append(twelve(), "c", "d", "e", "")
	for start := range 300 {
		l, s := New(), &sketch{ahead: -1}
		state := uint32(start)
		next := func(n int) int {
			state = state*1664525 + 1013904223
			return int(state>>8) % n
		}
		for range 200 {
			var d deed
			switch next(40 + start) {
			case 0, 1:
				d = fail(next(12) - 2)
			case 2:
				d = crash(next(100) - 2)
			case 3:
				d = crash(math.MaxInt)
			case 4, 5, 6, 7:
				d = sync()
			default:
				d = raise(names[next(len(names))], next(1003)-1)
			}
			if !d.do(l, s) || !alike(l, s, names[:15]) {
				t.Fatalf("row %d: after %s the log parts from its sketch", start, d.word)
			}
		}
	}
}
