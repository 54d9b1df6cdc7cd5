package boot

import (
	"math"
	"slices"
	"strconv"
	"strings"
	"testing"

	"bootstair/api"
	"bootstair/plain"
	"bootstair/sign"
)

const (
	public = 527 // of the secret 5
	nine   = "abcdefghi"
)

func signed(name string, version int, code string, point, answer int) api.Signed {
	return api.Signed{Image: api.Image{Name: name, Version: version, Code: code}, Seal: api.Seal{Point: point, Answer: answer}}
}

// stair is one more than may be, signed by the secret 5; seals and measures were worked out apart from the program.
func stair() []api.Signed {
	return []api.Signed{
		signed("rom", 1, "", 1478, 218),
		signed("boot", 2, "a", 1478, 28),
		signed("boot", 2, "a", 1478, 28), // once more: it goes into the next register
		signed("os", 1000, "abc", 1478, 249),
		signed("a", 9, "z", 1478, 107),
		signed("abcdefgh", 1000, "zyxwvuts", 1478, 17),
		signed("cwu", 856, "", 1478, 202), // its measure is the least one, 0
		signed("cw", 813, "", 1478, 197),  // and this one's the greatest: it leaves a 0 in its register
		signed("q", 1, "", 1478, 87),
	}
}

func measures() []int {
	return []int{623347, 71771, 71771, 11523, 345662, 168041, 0, 1000002}
}

// first gives the first n of them, with no room behind.
func first(n int) []api.Signed { return slices.Clip(stair()[:n]) }

// went gives what is to be told of images of these measures.
func went(l []int) (b api.Bank, events []api.Event) {
	for i, m := range l {
		b[i] = (m + 1) % api.Modulo
		events = append(events, api.Event{Register: i, Measure: m})
	}
	return b, events
}

func expect(t *testing.T, key int, l []api.Signed, in []int, started int) {
	t.Helper()
	bank, events := went(in)
	b, got, n, err := Run(key, l)
	if b != bank || !slices.Equal(got, events) || n != started || err != nil {
		t.Errorf("Run(%d, %v): got %v, %v, %d, %v; want %v, %v, %d", key, l, b, got, n, err, bank, events, started)
	}
}

func expectError(t *testing.T, key int, l []api.Signed, want api.Errno) {
	t.Helper()
	b, events, n, err := Run(key, l)
	if b != (api.Bank{}) || len(events) != 0 || n != 0 || plain.Told(err) != want {
		t.Errorf("Run(%d, %v): got %v, %v, %d, %v; want noughts and %v", key, l, b, events, n, err, want)
	}
}

// TestLiteral: banks and events written out.
func TestLiteral(t *testing.T) {
	rom, boot, os := signed("rom", 1, "", 1478, 218), signed("boot", 2, "a", 1478, 28), signed("os", 1000, "abc", 1478, 249)
	wrong := signed("boot", 2, "a", 1478, 29)
	three := []api.Event{{Register: 0, Measure: 623347}, {Register: 1, Measure: 71771}, {Register: 2, Measure: 11523}}
	for _, c := range []struct {
		key    int
		l      []api.Signed
		bank   api.Bank
		events []api.Event
		n      int
	}{
		{public, []api.Signed{rom}, api.Bank{623348}, three[:1], 1},
		{public, []api.Signed{rom, boot, os}, api.Bank{623348, 71772, 11524}, three, 3},
		{public, []api.Signed{rom, wrong, os}, api.Bank{623348, 71772}, three[:2], 1},
		{64, []api.Signed{rom, boot, os}, api.Bank{623348}, three[:1], 0}, // another one's key
		{public, []api.Signed{os, rom}, api.Bank{11524, 623348}, []api.Event{{Register: 0, Measure: 11523}, {Register: 1, Measure: 623347}}, 2},
		{public, first(8), api.Bank{623348, 71772, 71772, 11524, 345663, 168042, 1, 0}, []api.Event{
			{Register: 0, Measure: 623347}, {Register: 1, Measure: 71771}, {Register: 2, Measure: 71771}, {Register: 3, Measure: 11523},
			{Register: 4, Measure: 345662}, {Register: 5, Measure: 168041}, {Register: 6, Measure: 0}, {Register: 7, Measure: 1000002},
		}, 8},
	} {
		b, events, n, err := Run(c.key, c.l)
		if b != c.bank || !slices.Equal(events, c.events) || n != c.n || err != nil {
			t.Errorf("Run(%d, %v): got %v, %v, %d, %v; want %v, %v, %d", c.key, c.l, b, events, n, err, c.bank, c.events, c.n)
		}
	}
}

// TestNone: nil and an empty list are the same; nothing goes in.
func TestNone(t *testing.T) {
	for _, l := range [][]api.Signed{nil, {}, stair()[:0]} {
		expect(t, public, l, nil, 0)
		expectError(t, 0, l, api.ErrRange)
		expectError(t, api.Group, l, api.ErrRange)
	}
}

// TestStops: of each number of images, whichever of them are wrong, the first wrong one is measured and none behind it.
func TestStops(t *testing.T) {
	for n := range api.Registers + 1 {
		for wrong := range 1 << n {
			l, stop := first(n), n
			for i := range slices.Backward(l) {
				if wrong>>i&1 == 1 {
					l[i].Seal.Answer++
					stop = i
				}
			}
			expect(t, public, l, measures()[:min(stop+1, n)], stop)
		}
	}
}

// TestSealOutOfRange: such a seal is not right; that is no error of the run.
func TestSealOutOfRange(t *testing.T) {
	for _, seal := range []api.Seal{
		{}, {Point: 0, Answer: 28}, {Point: api.Group, Answer: 28}, {Point: api.Group + 1478, Answer: 28}, {Point: 1478 - api.Group, Answer: 28},
		{Point: -1, Answer: 28}, {Point: math.MaxInt, Answer: 28}, {Point: math.MinInt, Answer: 28},
		{Point: 1478, Answer: -1}, {Point: 1478, Answer: api.Order}, {Point: 1478, Answer: api.Order + 28}, {Point: 1478, Answer: 28 - api.Order},
		{Point: 1478, Answer: math.MaxInt}, {Point: 1478, Answer: math.MinInt}, {Point: math.MinInt, Answer: math.MaxInt},
	} {
		for i := range api.Registers {
			l := first(8)
			l[i].Seal = seal
			expect(t, public, l, measures()[:i+1], i)
			expect(t, public, l[:i+1], measures()[:i+1], i)
		}
	}
}

// TestSealInRange: at the ends of what a seal may be, one that is right starts.
func TestSealInRange(t *testing.T) {
	for _, c := range []struct{ key, point, answer, started int }{
		{1, 1, 0, 1}, {1, 217, 256, 1}, {1, 1542, 0, 0}, {1, 217, 255, 0},
		{1542, 1, 0, 1}, {1542, 1542, 0, 1}, {1542, 7, 52, 0},
		{64, 1, 109, 1}, {64, 74, 256, 1}, {64, 1, 108, 0}, {64, 1542, 109, 0},
		{1541, 1, 35, 1}, {1541, 524, 256, 1}, {1541, 1, 36, 0},
	} {
		expect(t, c.key, []api.Signed{signed("rom", 1, "", c.point, c.answer)}, []int{623347}, c.started)
	}
}

// TestOfAnother: one that another key signed stops the run, wherever it is, though its own key would start it.
func TestOfAnother(t *testing.T) {
	for i := range api.Registers {
		l := first(8)
		s, err := sign.Make(99, 7, l[i].Image)
		if err != nil {
			t.Fatal(err)
		}
		l[i] = s
		expect(t, public, l, measures()[:i+1], i)
	}
}

// TestSealOfAnother: a seal is right for its own image, not for that which stands beside it.
func TestSealOfAnother(t *testing.T) {
	l := first(8)
	l[3].Seal, l[4].Seal = l[4].Seal, l[3].Seal
	expect(t, public, l, measures()[:4], 3)
	l = first(8)
	l[3].Image, l[4].Image = l[4].Image, l[3].Image
	expect(t, public, l, []int{623347, 71771, 71771, 345662}, 3)
}

// TestEachRegister: by its place in the list, not by what it is.
func TestEachRegister(t *testing.T) {
	for i := range api.Registers {
		l, m := first(8), measures()
		l, m = append(slices.Clone(l[i:]), l[:i]...), append(slices.Clone(m[i:]), m[:i]...)
		expect(t, public, l, m, 8)
		same, of := slices.Repeat(first(4)[3:], 8), slices.Repeat([]int{11523}, 8)
		expect(t, public, same[:i+1], of[:i+1], i+1)
	}
}

// TestPublic: a key that is none is told, ahead of whatever else is wrong.
func TestPublic(t *testing.T) {
	none, many := first(3), stair()
	none[1].Image.Name = ""
	for _, key := range []int{0, -1, -public, api.Group, api.Group + 1, api.Group + public, public - api.Group, math.MaxInt, math.MinInt} {
		for _, l := range [][]api.Signed{nil, first(1), first(8), many, none} {
			expectError(t, key, l, api.ErrRange)
		}
	}
	for _, key := range []int{1, 2, 64, 526, 528, 1541, 1542} {
		expect(t, key, first(3), measures()[:1], 0)
		expectError(t, key, many, api.ErrFull)
		expectError(t, key, none, api.ErrShape)
	}
}

// TestFull: more than Registers are told ahead of what is wrong with one of them, and though the run would stop ahead.
func TestFull(t *testing.T) {
	expect(t, public, first(8), measures(), 8)
	expectError(t, public, stair(), api.ErrFull)
	for _, n := range []int{9, 10, 16, 17, 256, 264} {
		l := slices.Repeat(first(1), n)
		expectError(t, public, l, api.ErrFull)
		l[0].Seal = api.Seal{}
		expectError(t, public, l, api.ErrFull)
		l[0].Image = api.Image{}
		expectError(t, public, l, api.ErrFull)
		l[n-1].Image.Version = 0
		expectError(t, public, l, api.ErrFull)
	}
}

// faults of an image, and what each is.
func faults() map[api.Image]api.Errno {
	return map[api.Image]api.Errno{
		{}: api.ErrShape, {Version: 1}: api.ErrShape, {Version: 1, Code: "a"}: api.ErrShape,
		{Name: "Boot", Version: 1}: api.ErrShape, {Name: "bo ot", Version: 1}: api.ErrShape, {Name: "b{", Version: 1}: api.ErrShape,
		{Name: "b", Version: 1, Code: "`"}: api.ErrShape, {Name: "b", Version: 1, Code: "\xff"}: api.ErrShape, {Name: "b", Version: 0, Code: "1"}: api.ErrShape,
		{Name: nine, Version: 1}: api.ErrFull, {Name: "b", Version: 1, Code: nine}: api.ErrFull, {Name: nine, Version: 0, Code: nine}: api.ErrFull,
		{Name: "b", Version: 0}: api.ErrRange, {Name: "b", Version: 1001}: api.ErrRange, {Name: "b", Version: -1}: api.ErrRange,
		{Name: "b", Version: math.MaxInt}: api.ErrRange, {Name: "b", Version: math.MinInt}: api.ErrRange,
	}
}

// TestNoImage: one that is none is told wherever it is, even where the run would have stopped ahead of it.
func TestNoImage(t *testing.T) {
	for m, want := range faults() {
		for n := range api.Registers + 1 {
			for i := range n {
				l := first(n)
				l[i].Image = m
				expectError(t, public, l, want)
				l[0].Seal = api.Seal{}
				expectError(t, public, l, want)
			}
		}
	}
}

// TestFirstFault: of two that are none the first one's error is told, whichever error it is.
func TestFirstFault(t *testing.T) {
	for a, want := range faults() {
		for b := range faults() {
			for _, at := range [][2]int{{0, 1}, {0, 7}, {2, 5}, {6, 7}} {
				l := first(8)
				l[at[0]].Image, l[at[1]].Image = a, b
				expectError(t, public, l, want)
			}
		}
	}
}

// TestListStays: it is not written into, and what lies behind its length is neither read nor written.
func TestListStays(t *testing.T) {
	for n := range api.Registers + 1 {
		l := stair()
		l[n] = api.Signed{Image: api.Image{Name: "?"}, Seal: api.Seal{Point: -1, Answer: -1}}
		whole := slices.Clone(l)
		expect(t, public, l[:n], measures()[:n], n)
		expectError(t, 0, l[:n], api.ErrRange)
		expectError(t, public, l, api.ErrFull)
		if !slices.Equal(l, whole) {
			t.Errorf("the list of %d: got %v; want %v", n, l, whole)
		}
	}
}

// TestFresh: events are the caller's, to their capacity, and a call answers the same after whatever others.
func TestFresh(t *testing.T) {
	for n := range api.Registers + 1 {
		l := first(n)
		_, one, _, _ := Run(public, l)
		_, two, _, _ := Run(public, l)
		want := slices.Clone(two)
		for i := range one[:cap(one)] {
			one[:cap(one)][i] = api.Event{Register: -1, Measure: -1}
		}
		if !slices.Equal(two, want) {
			t.Errorf("events of another call: got %v; want %v", two, want)
		}
		expectError(t, public, stair(), api.ErrFull)
		expect(t, 64, l, measures()[:min(n, 1)], 0)
		expect(t, public, l, measures()[:n], n)
	}
}

// TestNotKept: what becomes of the list afterwards does not show.
func TestNotKept(t *testing.T) {
	l := first(4)
	b, events, n, err := Run(public, l)
	for i := range l {
		l[i] = api.Signed{}
	}
	bank, want := went(measures()[:4])
	if b != bank || !slices.Equal(events, want) || n != 4 || err != nil {
		t.Errorf("Run: got %v, %v, %d, %v; want %v, %v, 4", b, events, n, err, bank, want)
	}
	expectError(t, public, l, api.ErrShape)
}

// workedOut is a measure by the words of chapters 1 and 3, not by those packages.
func workedOut(m api.Image) int {
	n := 1
	for _, c := range []byte(m.Name + " " + strconv.Itoa(m.Version) + " " + m.Code) {
		n = (257*n + int(c) + 1) % api.Modulo
	}
	return n
}

// TestMany: rows of images of each size, by each secret, held against what the chapters say.
func TestMany(t *testing.T) {
	for x := 1; x < api.Order; x++ {
		var l []api.Signed
		var m []int
		for i := range api.Registers {
			word := strings.Repeat(string(rune('a'+(x+i)%26)), 1+(x+i)%8)
			s, err := sign.Make(x, 1+(x*7+i)%256, api.Image{Name: word, Version: 1 + x*i%1000, Code: word[:(x*i)%len(word)]})
			if err != nil {
				t.Fatal(err)
			}
			l, m = append(l, s), append(m, workedOut(s.Image))
		}
		key := power(x)
		expect(t, key, l, m, 8)
		stop := x % 8
		l[stop].Seal.Answer = (l[stop].Seal.Answer + x) % api.Order
		expect(t, key, l, m[:stop+1], stop)
	}
}

// power gives the public key of a secret.
func power(x int) int {
	p := 1
	for range x {
		p = p * api.Base % api.Group
	}
	return p
}
