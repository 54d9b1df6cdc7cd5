package nonce

import (
	"math"
	"slices"
	"testing"

	"bootstair/api"
	"bootstair/plain"
)

const last = api.Modulo - 1 // the greatest measure

type row struct {
	seed    int
	numbers []int
}

// rows are all that a seed gives, worked out apart from the program.
func rows() []row {
	return []row{
		{0, []int{
			1, 7921, 726216, 887258, 175029, 50499, 900391, 174947, 401147, 673575,
			24434, 492279, 345720, 748483, 219111, 134820, 636396, 604825, 594827, 420903,
			120879, 237952, 336259, 827059, 460599, 472566, 238955, 278997, 370645, 128980,
		}},
		{1, []int{
			7920, 718296, 168963, 13987, 762728, 24918, 325058, 126588, 447375, 752009,
			141417, 877878, 895042, 816351, 664192, 720687, 103249, 626398, 430901, 294803,
			537976, 219186, 728752, 969802, 839026, 226988, 512608, 330603, 37332, 631253,
		}},
		{500000, []int{
			488124, 442363, 62091, 697160, 793485, 588872, 263386, 747487, 331805, 555924,
			348961, 413882, 521740, 646681, 51491, 756024, 936115, 72464, 840716, 610053,
			995238, 266101, 247521, 112943, 392960, 840933, 328477, 201588, 370613, 875575,
		}},
		{last, []int{
			992085, 297549, 283466, 760526, 587333, 76080, 475721, 223306, 354919, 595141,
			907454, 106680, 796401, 680615, 774033, 548956, 169540, 583252, 758753, 547003,
			703785, 256718, 943769, 684316, 82172, 718144, 965305, 227391, 703958, 626710,
		}},
	}
}

func noMeasures() []int { return []int{-1, api.Modulo, api.Modulo + 9, math.MinInt, math.MaxInt} }

// made gives what New makes of a seed, which must be a good one.
func made(t *testing.T, seed int) *Nonces {
	t.Helper()
	n, err := New(seed)
	if n == nil || err != nil {
		t.Fatalf("New(%d): got %v, %v", seed, n, err)
	}
	expectOpen(t, n, 0)
	return n
}

func expectOpen(t *testing.T, n *Nonces, want int) {
	t.Helper()
	if got := n.Open(); got != want {
		t.Errorf("Open: got %d; want %d", got, want)
	}
}

// expectIssue holds the next number, and how many are open then, against what is wanted.
func expectIssue(t *testing.T, n *Nonces, want, open int) {
	t.Helper()
	if got, err := n.Issue(); got != want || err != nil {
		t.Errorf("Issue: got %d, %v; want %d", got, err, want)
	}
	expectOpen(t, n, open)
}

// expectFull: no number comes, and as many are open as were.
func expectFull(t *testing.T, n *Nonces) {
	t.Helper()
	open := n.Open()
	if got, err := n.Issue(); got != 0 || plain.Told(err) != api.ErrFull {
		t.Errorf("Issue: got %d, %v; want 0, %v", got, err, api.ErrFull)
	}
	expectOpen(t, n, open)
}

func expectUse(t *testing.T, n *Nonces, x, open int) {
	t.Helper()
	if err := n.Use(x); err != nil {
		t.Errorf("Use(%d): got %v", x, err)
	}
	expectOpen(t, n, open)
}

// expectNone: it is not open, and as many are open as were.
func expectNone(t *testing.T, n *Nonces, x int) {
	t.Helper()
	open := n.Open()
	if err := n.Use(x); plain.Told(err) != api.ErrNone {
		t.Errorf("Use(%d): got %v; want %v", x, err, api.ErrNone)
	}
	expectOpen(t, n, open)
}

// issue takes some numbers that must come.
func issue(t *testing.T, n *Nonces, many int) (numbers []int) {
	t.Helper()
	for range many {
		x, err := n.Issue()
		if err != nil {
			t.Fatalf("Issue: got %v", err)
		}
		numbers = append(numbers, x)
	}
	return numbers
}

// pass takes some numbers, and uses each at once.
func pass(t *testing.T, n *Nonces, many int) {
	t.Helper()
	for range many {
		for _, x := range issue(t, n, 1) {
			expectUse(t, n, x, 0)
		}
	}
}

func TestNewWrong(t *testing.T) {
	for _, seed := range noMeasures() {
		if n, err := New(seed); n != nil || plain.Told(err) != api.ErrRange {
			t.Errorf("New(%d): got %v, %v; want nil, %v", seed, n, err, api.ErrRange)
		}
	}
}

// TestAllOfSeed: MaxDone numbers come, each is used once, and then no more come, though none is open.
func TestAllOfSeed(t *testing.T) {
	for _, r := range rows() {
		n := made(t, r.seed)
		if len(r.numbers) != api.MaxDone {
			t.Fatalf("seed %d: %d numbers", r.seed, len(r.numbers))
		}
		for _, x := range r.numbers {
			expectNone(t, n, x)
			expectIssue(t, n, x, 1)
			expectUse(t, n, x, 0)
			expectNone(t, n, x)
		}
		expectFull(t, n)
		expectFull(t, n)
		for _, x := range r.numbers {
			expectNone(t, n, x)
		}
	}
}

// TestDoneWithSomeOpen: what is open when MaxDone were issued can still be used, and makes no room.
func TestDoneWithSomeOpen(t *testing.T) {
	r := rows()[0]
	n := made(t, r.seed)
	pass(t, n, api.MaxDone-2)
	expectIssue(t, n, r.numbers[api.MaxDone-2], 1)
	expectIssue(t, n, r.numbers[api.MaxDone-1], 2)
	expectFull(t, n)
	expectUse(t, n, r.numbers[api.MaxDone-2], 1)
	expectFull(t, n)
	expectUse(t, n, r.numbers[api.MaxDone-1], 0)
	expectFull(t, n)
}

// TestDoneAndOpen: both bounds are met at once.
func TestDoneAndOpen(t *testing.T) {
	n := made(t, 1)
	pass(t, n, api.MaxDone-api.MaxOpen)
	for i, x := range issue(t, n, api.MaxOpen) {
		expectFull(t, n)
		expectUse(t, n, x, api.MaxOpen-1-i)
	}
	expectFull(t, n)
}

// TestFull: MaxOpen may be open; one that is used makes room for one, and a refusal takes no number away.
func TestFull(t *testing.T) {
	for which := range api.MaxOpen {
		r := rows()[0]
		n := made(t, r.seed)
		for i := range api.MaxOpen {
			expectIssue(t, n, r.numbers[i], i+1)
		}
		for range 40 {
			expectFull(t, n)
		}
		expectUse(t, n, r.numbers[which], api.MaxOpen-1)
		expectIssue(t, n, r.numbers[api.MaxOpen], api.MaxOpen)
		expectFull(t, n)
	}
}

// TestUseInAnyOrder: whichever is used, the others stay open.
func TestUseInAnyOrder(t *testing.T) {
	for first := range api.MaxOpen {
		for step := 1; step < api.MaxOpen; step += 2 { // an odd step comes to each of them
			n := made(t, 500000)
			numbers := issue(t, n, api.MaxOpen)
			for i := range api.MaxOpen {
				x := numbers[(first+i*step)%api.MaxOpen]
				expectUse(t, n, x, api.MaxOpen-1-i)
				expectNone(t, n, x)
			}
		}
	}
}

// TestUseDoesNotMove: the next number hangs on what was issued, not on what was used.
func TestUseDoesNotMove(t *testing.T) {
	r := rows()[3]
	n := made(t, r.seed)
	for i := range 5 {
		expectNone(t, n, r.numbers[i])
		expectIssue(t, n, r.numbers[i], i+1)
	}
	expectUse(t, n, r.numbers[4], 4)
	expectUse(t, n, r.numbers[0], 3)
	expectNone(t, n, r.numbers[0])
	expectIssue(t, n, r.numbers[5], 4)
}

// TestUseWrong: what was never issued is not open, whatever number it is.
func TestUseWrong(t *testing.T) {
	n := made(t, 2)
	strangers := append(noMeasures(), 0, 1, 2, last, 15838, 15840, 15839+api.Modulo, 15839-api.Modulo)
	for _, x := range strangers {
		expectNone(t, n, x)
	}
	expectIssue(t, n, 15839, 1)
	expectIssue(t, n, 428668, 2)
	for _, x := range strangers {
		expectNone(t, n, x)
	}
	expectNone(t, n, 611713) // the next one
	expectUse(t, n, 15839, 1)
	expectUse(t, n, 428668, 0)
	for _, x := range append(strangers, 15839, 428668) {
		expectNone(t, n, x)
	}
}

// TestEdgesOfMeasures: 0 and the greatest measure are numbers as others are.
func TestEdgesOfMeasures(t *testing.T) {
	for _, r := range []row{{341332, []int{0, 2, 15841}}, {682664, []int{last, 992086, 305469}}} {
		n := made(t, r.seed)
		expectNone(t, n, r.numbers[0])
		for i, x := range r.numbers {
			expectIssue(t, n, x, i+1)
		}
		expectUse(t, n, r.numbers[0], 2)
		expectNone(t, n, r.numbers[0])
	}
}

type twice struct{ seed, number, first, second int }

// TestAlike: some seeds give one number twice. While both are open one use takes one of them.
func TestAlike(t *testing.T) {
	for _, c := range []twice{
		{242614, 752465, 2, 3},
		{4157, 232443, 2, 4},
		{151706, 356212, 0, 2},
		{287221, 496278, 0, 7},
		{138772, 324199, 17, 18},
		{153646, 134822, 22, 29},
	} {
		n := made(t, c.seed)
		pass(t, n, c.first)
		between := issue(t, n, c.second-c.first+1)
		open := len(between)
		if between[0] != c.number || between[open-1] != c.number {
			t.Fatalf("seed %d: got %v; want %d at both ends", c.seed, between, c.number)
		}
		expectUse(t, n, c.number, open-1)
		expectUse(t, n, c.number, open-2)
		expectNone(t, n, c.number)
		for i, x := range between[1 : open-1] {
			expectUse(t, n, x, open-3-i)
		}
	}
}

// TestAlikeLater: a number that was used is open again where it is issued again.
func TestAlikeLater(t *testing.T) {
	for _, c := range []twice{{242614, 752465, 2, 3}, {19621, 382515, 4, 13}, {20534, 771823, 5, 29}} {
		n := made(t, c.seed)
		pass(t, n, c.first)
		expectIssue(t, n, c.number, 1)
		expectUse(t, n, c.number, 0)
		expectNone(t, n, c.number)
		pass(t, n, c.second-c.first-1)
		expectNone(t, n, c.number)
		expectIssue(t, n, c.number, 1)
		expectUse(t, n, c.number, 0)
		expectNone(t, n, c.number)
	}
}

// TestApart: two of one seed give the same, and know nothing of each other.
func TestApart(t *testing.T) {
	a, b := made(t, 1), made(t, 1)
	of := issue(t, a, api.MaxOpen)
	expectOpen(t, b, 0)
	expectNone(t, b, of[0])
	if got := issue(t, b, api.MaxOpen); !slices.Equal(got, of) {
		t.Errorf("got %v; want %v", got, of)
	}
	expectUse(t, a, of[3], api.MaxOpen-1)
	expectOpen(t, b, api.MaxOpen)
	expectUse(t, b, of[3], api.MaxOpen-1)
	expectNone(t, a, of[3])
}
