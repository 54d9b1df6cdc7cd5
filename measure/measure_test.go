package measure

import (
	"math"
	"slices"
	"strings"
	"testing"

	"bootstair/api"
	"bootstair/plain"
)

const last = api.Modulo - 1 // the greatest measure

// expect holds a number and an error against what is wanted; with an error the number must be 0.
func expect(t *testing.T, call string, got int, err error, want int, wantErr api.Errno) {
	t.Helper()
	if got != want || plain.Told(err) != wantErr {
		t.Errorf("%s: got %d, %v; want %d, %v", call, got, err, want, wantErr)
	}
	if wantErr == api.OK && err != nil {
		t.Errorf("%s: the error is %v, not nil", call, err)
	}
}

func repeat(n, times int) []int { return slices.Repeat([]int{n}, times) }

func upTo(n int) (l []int) {
	for i := range n {
		l = append(l, i)
	}
	return l
}

func TestOf(t *testing.T) {
	for _, c := range []struct {
		text string
		want int
		err  api.Errno
	}{
		{"", 1, api.OK},
		{"a", 355, api.OK},
		{"b", 356, api.OK},
		{"ab", 91334, api.OK},
		{"ba", 91590, api.OK},
		{"\n", 268, api.OK},
		{"hello", 178270, api.OK},
		{"kernel 12 abc", 804400, api.OK},
		{"\x00", 258, api.OK},
		{"\x00\x00", 66307, api.OK},
		{"\xff", 513, api.OK},
		{"\u00e9", 116591, api.OK}, // one rune, two bytes
		{"Z9m", last, api.OK},
		{"Z9n", 0, api.OK},
		{"abcdefghijklmnopqrstuvwx", 944729, api.OK},
		{strings.Repeat("\x00", api.MaxText), 131393, api.OK},
		{strings.Repeat("\xff", api.MaxText), 168377, api.OK},
		{strings.Repeat("z", api.MaxText+1), 0, api.ErrFull},
		{strings.Repeat("\x00", api.MaxText+1), 0, api.ErrFull},
		{strings.Repeat("\u00e9", api.MaxText/2) + "a", 0, api.ErrFull}, // 13 runes, 25 bytes
		{strings.Repeat("z", 1<<20), 0, api.ErrFull},
	} {
		got, err := Of(c.text)
		expect(t, "Of", got, err, c.want, c.err)
	}
}

// TestOfEachByte: a step is the same for each byte there is.
func TestOfEachByte(t *testing.T) {
	for b := range 256 {
		got, err := Of(string([]byte{byte(b)}))
		expect(t, "Of", got, err, 257+b+1, api.OK)
	}
}

func TestTwo(t *testing.T) {
	for _, c := range []struct {
		a, b, want int
		err        api.Errno
	}{
		{0, 0, 1, api.OK},
		{0, 1, 2, api.OK},
		{1, 0, 7920, api.OK},
		{1, 1, 7921, api.OK},
		{1, 3, 7923, api.OK},
		{3, 4, 23762, api.OK},
		{301125, 234251, 835975, api.OK},
		{0, last - 1, last, api.OK},
		{0, last, 0, api.OK},
		{last, 0, 992085, api.OK},
		{last, last, 992084, api.OK},
		{126, 2207, last, api.OK},
		{126, 2208, 0, api.OK},
		{126, 2209, 1, api.OK},
		{-1, 0, 0, api.ErrRange},
		{0, -1, 0, api.ErrRange},
		{api.Modulo, 0, 0, api.ErrRange},
		{0, api.Modulo, 0, api.ErrRange},
		{-1, api.Modulo, 0, api.ErrRange},
		{math.MaxInt, 1, 0, api.ErrRange},
		{1, math.MaxInt, 0, api.ErrRange},
		{math.MinInt, 1, 0, api.ErrRange},
		{1, math.MinInt, 0, api.ErrRange},
		{math.MinInt, math.MaxInt, 0, api.ErrRange},
	} {
		got, err := Two(c.a, c.b)
		expect(t, "Two", got, err, c.want, c.err)
	}
}

func TestAll(t *testing.T) {
	for _, c := range []struct {
		l    []int
		want int
		err  api.Errno
	}{
		{nil, 0, api.OK},
		{[]int{}, 0, api.OK},
		{[]int{0}, 1, api.OK},
		{[]int{1}, 2, api.OK},
		{[]int{0, 0}, 7920, api.OK},
		{[]int{1, 2}, 15841, api.OK},
		{[]int{2, 1}, 23759, api.OK},
		{[]int{1, 2, 3}, 444508, api.OK},
		{[]int{12594, 659239}, 398745, api.OK},
		{[]int{last}, 0, api.OK},
		{[]int{last, last}, 0, api.OK},
		{upTo(api.MaxDone), 128980, api.OK},
		{repeat(0, api.MaxDone), 758338, api.OK},
		{repeat(last, api.MaxDone), 0, api.OK},
		{repeat(0, api.MaxDone+1), 0, api.ErrFull},
		{repeat(7, 1<<20), 0, api.ErrFull},
		{[]int{-1}, 0, api.ErrRange},
		{[]int{api.Modulo}, 0, api.ErrRange},
		{[]int{api.Modulo, 1, 2}, 0, api.ErrRange},
		{[]int{1, -1, 2}, 0, api.ErrRange},
		{[]int{1, 2, math.MinInt}, 0, api.ErrRange},
		{[]int{1, 2, math.MaxInt}, 0, api.ErrRange},
		{append(repeat(0, api.MaxDone-1), api.Modulo), 0, api.ErrRange},
		{repeat(-1, api.MaxDone+1), 0, api.ErrFull}, // ErrFull is named first
	} {
		got, err := All(c.l)
		expect(t, "All", got, err, c.want, c.err)
	}
}

// TestAllIsTwoByTwo: one more is one step more.
func TestAllIsTwoByTwo(t *testing.T) {
	l := []int{5, 0, last, 7919, 500000, 1}
	m := 0
	for i, n := range l {
		m, _ = Two(m, n)
		got, err := All(l[:i+1])
		expect(t, "All", got, err, m, api.OK)
	}
}

// TestAllLeavesTheList: it is not written into, and what lies behind its length is neither read nor written.
func TestAllLeavesTheList(t *testing.T) {
	whole := []int{1, 2, 3, -4, api.Modulo}
	was := slices.Clone(whole)
	got, err := All(whole[:3])
	expect(t, "All", got, err, 444508, api.OK)
	got, err = All(whole)
	expect(t, "All", got, err, 0, api.ErrRange)
	if !slices.Equal(whole, was) {
		t.Errorf("the list was %v, and is %v", was, whole)
	}
}

func TestIs(t *testing.T) {
	for n, want := range map[int]bool{
		0: true, 1: true, last: true,
		-1: false, api.Modulo: false, math.MinInt: false, math.MaxInt: false,
	} {
		if Is(n) != want {
			t.Errorf("Is %d a measure: got %v, want %v", n, !want, want)
		}
	}
}
