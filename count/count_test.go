package count

import (
	"math"
	"strings"
	"testing"
	"unsafe"

	"bootstair/api"
	"bootstair/plain"
)

const (
	eight = "abcdefgh"
	nine  = "abcdefghi"
)

// noNames are texts that are no names: too short, too long, or with a byte that is no letter.
func noNames() []string {
	l := []string{"", nine, "abcdefg\xc3\xa9", "aaaaaaaa\x00", strings.Repeat("a", 5000), strings.Repeat("A", 5000)}
	for _, s := range []string{"A", "Z", "`", "{", "0", "9", " ", "-", "\x00", "\x80", "\xff", "\n", "é", "\xc1\xa1", "ａ"} {
		l = append(l, s, s+"b", "b"+s, "b"+s+"c")
	}
	return l
}

func noVersions() []int {
	return []int{-1, -2, -1000, 1001, 1002, 10000, 1 << 32, 1<<32 + 5, math.MinInt, math.MaxInt}
}

// twelve are as many names as may be above 0.
func twelve() []string {
	return []string{"a", "aa", "b", "boot", "os", "kernel", "z", "zz", "ab", "ba", eight, "zzzzzzzz"}
}

func expectLeast(t *testing.T, c *Counts, name string, want int) {
	t.Helper()
	if got, err := c.Least(name); got != want || err != nil {
		t.Errorf("Least(%q): got %d, %v; want %d", name, got, err, want)
	}
}

// expectRaise holds whether it is another one, and what it is then, against what is wanted.
func expectRaise(t *testing.T, c *Counts, name string, v int, want bool, least int) {
	t.Helper()
	if got, err := c.Raise(name, v); got != want || err != nil {
		t.Errorf("Raise(%q, %d): got %v, %v; want %v", name, v, got, err, want)
	}
	expectLeast(t, c, name, least)
}

func expectNoRaise(t *testing.T, c *Counts, name string, v int, want api.Errno) {
	t.Helper()
	if got, err := c.Raise(name, v); got || plain.Told(err) != want {
		t.Errorf("Raise(%q, %d): got %v, %v; want false, %v", name, v, got, err, want)
	}
}

func expectMay(t *testing.T, c *Counts, name string, v int, want api.Errno) {
	t.Helper()
	err := c.May(name, v)
	if plain.Told(err) != want || err != nil && want == api.OK {
		t.Errorf("May(%q, %d): got %v; want %v", name, v, err, want)
	}
}

// full has each of the twelve names at a version of its own.
func full(t *testing.T) *Counts {
	t.Helper()
	c := New()
	for i, name := range twelve() {
		expectRaise(t, c, name, 5+i, true, 5+i)
	}
	if len(twelve()) != api.MaxList {
		t.Fatalf("%d names", len(twelve()))
	}
	return c
}

func expectFullAsMade(t *testing.T, c *Counts) {
	t.Helper()
	for i, name := range twelve() {
		expectLeast(t, c, name, 5+i)
	}
}

// TestNew: each name is at 0, and may be of each version.
func TestNew(t *testing.T) {
	c := New()
	for _, name := range twelve() {
		expectLeast(t, c, name, 0)
		for v := 1; v <= 1000; v++ {
			expectMay(t, c, name, v, api.OK)
		}
		expectLeast(t, c, name, 0)
	}
}

// TestRaise: it goes up to what is more, and never back.
func TestRaise(t *testing.T) {
	c := New()
	for _, r := range []struct {
		v     int
		want  bool
		least int
	}{
		{0, false, 0},
		{1, true, 1},
		{0, false, 1},
		{1, false, 1},
		{2, true, 2},
		{10, true, 10},
		{9, false, 10},
		{10, false, 10},
		{1, false, 10},
		{0, false, 10},
		{11, true, 11},
		{999, true, 999},
		{1000, true, 1000},
		{1000, false, 1000},
		{999, false, 1000},
		{0, false, 1000},
	} {
		expectRaise(t, c, "boot", r.v, r.want, r.least)
	}
}

// TestEachVersion: from each least version to each other one that lies about it, and what may be then.
func TestEachVersion(t *testing.T) {
	for least := 0; least <= 1000; least++ {
		for _, v := range []int{0, 1, least - 1, least, least + 1, 1000} {
			if v < 0 || v > 1000 {
				continue
			}
			c := New()
			expectRaise(t, c, "os", least, least > 0, least)
			expectRaise(t, c, "os", v, v > least, max(v, least))
		}
	}
}

// TestMay: of the least version on each may be; to ask changes nothing.
func TestMay(t *testing.T) {
	for _, least := range []int{0, 1, 2, 10, 500, 999, 1000} {
		c := New()
		expectRaise(t, c, "os", least, least > 0, least)
		for v := -3; v <= 1003; v++ {
			want := api.OK
			switch {
			case v < 1 || v > 1000:
				want = api.ErrRange
			case v < least:
				want = api.ErrOld
			}
			expectMay(t, c, "os", v, want)
		}
		for _, v := range noVersions() {
			expectMay(t, c, "os", v, api.ErrRange)
		}
		expectLeast(t, c, "os", least)
		expectMay(t, c, "boot", 1, api.OK)
	}
}

// TestNameWrong: that is told ahead of all else, whatever the version is, and however many names there are.
func TestNameWrong(t *testing.T) {
	for _, c := range []*Counts{New(), full(t)} {
		for _, name := range noNames() {
			if got, err := c.Least(name); got != 0 || plain.Told(err) != api.ErrShape {
				t.Errorf("Least(%q): got %d, %v; want 0, %v", name, got, err, api.ErrShape)
			}
			for _, v := range append(noVersions(), 0, 1, 5, 1000) {
				expectNoRaise(t, c, name, v, api.ErrShape)
				expectMay(t, c, name, v, api.ErrShape)
			}
		}
	}
}

// TestNameWrongTakesNoRoom: after all the refusals there is room for as many names as ever.
func TestNameWrongTakesNoRoom(t *testing.T) {
	c := New()
	for _, name := range noNames() {
		expectNoRaise(t, c, name, 5, api.ErrShape)
	}
	for _, name := range twelve() {
		expectRaise(t, c, name, 1, true, 1)
	}
}

// TestByte: of all bytes just a to z may be in a name, wherever it stands.
func TestByte(t *testing.T) {
	for b := range 256 {
		for at := range len(eight) {
			bytes := []byte(eight)
			bytes[at] = byte(b)
			c, name := New(), string(bytes)
			if b >= 'a' && b <= 'z' {
				expectRaise(t, c, name, 7, true, 7)
				expectMay(t, c, name, 6, api.ErrOld)
				continue
			}
			expectNoRaise(t, c, name, 7, api.ErrShape)
			expectMay(t, c, name, 7, api.ErrShape)
		}
	}
}

// TestLength: one to eight letters are a name, and names that begin alike are not one.
func TestLength(t *testing.T) {
	c := New()
	for n := 1; n <= 8; n++ {
		expectLeast(t, c, eight[:n], 0)
		expectRaise(t, c, eight[:n], n, true, n)
	}
	for n := 1; n <= 8; n++ {
		expectLeast(t, c, eight[:n], n)
	}
	for n := 9; n < 300; n++ {
		expectNoRaise(t, c, strings.Repeat("a", n), 1, api.ErrShape)
	}
}

// TestVersionWrong: that is told whether the name is there or not, ahead of there being too many; nothing changes.
func TestVersionWrong(t *testing.T) {
	c := full(t)
	for _, v := range noVersions() {
		expectNoRaise(t, New(), "os", v, api.ErrRange)
		expectNoRaise(t, c, "os", v, api.ErrRange)
		expectNoRaise(t, c, "stranger", v, api.ErrRange)
	}
	expectLeast(t, c, "stranger", 0)
	expectFullAsMade(t, c)
}

// TestVersionWrongTakesNoRoom: a name whose version was refused is at 0 still.
func TestVersionWrongTakesNoRoom(t *testing.T) {
	c := New()
	for _, v := range noVersions() {
		expectNoRaise(t, c, "stranger", v, api.ErrRange)
	}
	for _, name := range twelve() {
		expectRaise(t, c, name, 1, true, 1)
	}
}

// TestFull: no thirteenth name comes above 0; what is there is as it was.
func TestFull(t *testing.T) {
	c := full(t)
	for _, v := range []int{1, 2, 5, 999, 1000} {
		for _, name := range []string{"c", "stranger", "bo", "boots"} {
			expectNoRaise(t, c, name, v, api.ErrFull)
			expectLeast(t, c, name, 0)
			expectMay(t, c, name, 1, api.OK)
		}
	}
	expectFullAsMade(t, c)
}

// TestFullGoesOn: a thirteenth name may stay at 0, and the twelve go further.
func TestFullGoesOn(t *testing.T) {
	c := full(t)
	expectRaise(t, c, "stranger", 0, false, 0)
	for i, name := range twelve() {
		expectRaise(t, c, name, 0, false, 5+i)
		expectRaise(t, c, name, 5+i, false, 5+i)
		expectRaise(t, c, name, 100+i, true, 100+i)
		expectMay(t, c, name, 99+i, api.ErrOld)
		expectMay(t, c, name, 100+i, api.OK)
		expectRaise(t, c, name, 1000, true, 1000)
		expectNoRaise(t, c, "stranger", 1, api.ErrFull)
	}
}

// TestAtZeroTakesNoRoom: however many names were asked for, or raised to 0, twelve others come above it.
func TestAtZeroTakesNoRoom(t *testing.T) {
	c := New()
	for first := 'a'; first <= 'z'; first++ {
		name := "x" + string(first)
		expectLeast(t, c, name, 0)
		expectMay(t, c, name, 3, api.OK)
		expectRaise(t, c, name, 0, false, 0)
	}
	for _, name := range twelve() {
		expectRaise(t, c, name, 1, true, 1)
		expectRaise(t, c, name, 2, true, 2) // the same name takes room once
	}
	expectNoRaise(t, c, "xa", 1, api.ErrFull)
}

// TestNamesApart: one name's version is not another one's.
func TestNamesApart(t *testing.T) {
	for i, raised := range twelve() {
		c := full(t)
		expectRaise(t, c, raised, 900, true, 900)
		for j, name := range twelve() {
			if j != i {
				expectLeast(t, c, name, 5+j)
				expectMay(t, c, name, 4+j, api.ErrOld)
				expectMay(t, c, name, 5+j, api.OK)
			}
		}
	}
}

// TestApart: two Counts know nothing of each other.
func TestApart(t *testing.T) {
	a, b := full(t), New()
	expectLeast(t, b, "os", 0)
	expectRaise(t, b, "stranger", 3, true, 3)
	expectRaise(t, b, "os", 2, true, 2)
	expectNoRaise(t, a, "stranger", 3, api.ErrFull)
	expectFullAsMade(t, a)
}

// TestNameIsNotKept: what is written later into a name's memory changes nothing, be it the first time that it came or not.
func TestNameIsNotKept(t *testing.T) {
	c := New()
	for v := 1; v <= 3; v++ {
		memory := []byte("boot")
		expectRaise(t, c, unsafe.String(&memory[0], len(memory)), v, true, v)
		copy(memory, "root")
		expectLeast(t, c, "boot", v)
		expectLeast(t, c, "root", 0)
	}
	for name := range c.least {
		if name != "boot" {
			t.Errorf("%q is kept", name)
		}
	}
}

// TestWould: it tells what Raise answers then, and nothing is another one for it.
func TestWould(t *testing.T) {
	names := append(noNames(), append(twelve(), "stranger")...)
	for _, make := range []func() *Counts{New, func() *Counts { return full(t) }} {
		for _, name := range names {
			for _, v := range append(noVersions(), 0, 1, 5, 6, 16, 17, 1000) {
				c := make()
				would, wouldErr := c.Would(name, v)
				if len(c.least) != len(make().least) || c.least[name] != make().least[name] {
					t.Errorf("Would(%q, %d) changes something", name, v)
				}
				if is, err := c.Raise(name, v); would != is || plain.Told(wouldErr) != plain.Told(err) {
					t.Errorf("Would(%q, %d): got %v, %v; Raise: %v, %v", name, v, would, wouldErr, is, err)
				}
			}
		}
	}
}

// TestManyCalls holds a long row of calls against a plain list of what each name is at.
func TestManyCalls(t *testing.T) {
	names := append(twelve(), "c", "d", "e", "f")
	for start := range 50 {
		c, state := New(), uint32(start)
		least, above := make([]int, len(names)), 0
		for range 400 {
			state = state*1664525 + 1013904223
			i, v := int(state>>8)%len(names), int(state>>16)%1003-1
			switch {
			case v < 0 || v > 1000:
				expectNoRaise(t, c, names[i], v, api.ErrRange)
			case least[i] == 0 && v > 0 && above == 12:
				expectNoRaise(t, c, names[i], v, api.ErrFull)
			default:
				if least[i] == 0 && v > 0 {
					above++
				}
				expectRaise(t, c, names[i], v, v > least[i], max(v, least[i]))
				least[i] = max(v, least[i])
			}
			expectLeast(t, c, names[i], least[i])
		}
	}
}
