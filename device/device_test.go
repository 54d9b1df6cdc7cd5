package device

import (
	"math"
	"slices"
	"strings"
	"testing"
	"unsafe"

	"bootstair/api"
	"bootstair/judge"
	"bootstair/keeper"
	"bootstair/plain"
	"bootstair/quote"
	"bootstair/sign"
)

const (
	root   = 527 // the public key of the secret 5
	secret = 11  // of the tests' device
	public = 839 // its key
	last   = api.Modulo - 1
	nine   = "abcdefghi"
)

func picture(name string, version int, code string) api.Image {
	return api.Image{Name: name, Version: version, Code: code}
}

func signed(name string, version int, code string, point, answer int) api.Signed {
	return api.Signed{Image: picture(name, version, code), Seal: api.Seal{Point: point, Answer: answer}}
}

func sealed(key, point, answer int) api.Cert {
	return api.Cert{Key: key, Seal: api.Seal{Point: point, Answer: answer}}
}

// certs go from the root to the key of the secret 6, and from there to that of the secret 7.
func certs() []api.Cert { return []api.Cert{sealed(1325, 469, 110), sealed(1478, 699, 123)} }

func quoteOf(nonce, mask, digest, point, answer int) api.Quote {
	return api.Quote{Nonce: nonce, Mask: mask, Digest: digest, Seal: api.Seal{Point: point, Answer: answer}}
}

// bootImage has a code that goes with its version, so that what is told of one is not told of its neighbours.
func bootImage(version int) api.Image {
	return picture("boot", version, strings.Repeat("c", version%9))
}

// by gives an image that a secret signed.
func by(t *testing.T, x int, m api.Image) api.Signed {
	t.Helper()
	s, err := sign.Make(x, 3, m)
	if err != nil {
		t.Fatalf("sign.Make(%d, %v): got %v", x, m, err)
	}
	return s
}

// newer is of whom the certs say.
func newer(t *testing.T, version int) api.Signed {
	t.Helper()
	return by(t, 7, bootImage(version))
}

// made gives what New makes, of arguments that must be good ones.
func made(t *testing.T, root, x int, first api.Signed) *Device {
	t.Helper()
	d, err := New(root, x, first)
	if d == nil || err != nil {
		t.Fatalf("New(%d, %d, %v): got %v, %v", root, x, first, d, err)
	}
	return d
}

// usual is the tests' device. Nobody signed its first image.
func usual(t *testing.T, version int) *Device {
	t.Helper()
	return made(t, root, secret, api.Signed{Image: bootImage(version)})
}

func expectError(t *testing.T, call string, err error, want api.Errno) {
	t.Helper()
	if plain.Told(err) != want {
		t.Errorf("%s: got %v; want %v", call, err, want)
	}
}

func expectUpdate(t *testing.T, d *Device, certs []api.Cert, next api.Signed, want api.Errno) {
	t.Helper()
	expectError(t, "Update", d.Update(certs, next), want)
}

func expectStart(t *testing.T, d *Device, want bool) {
	t.Helper()
	if got := d.Start(); got != want {
		t.Errorf("Start: got %v; want %v", got, want)
	}
}

func expectGood(t *testing.T, d *Device, want api.Errno) {
	t.Helper()
	expectError(t, "Good", d.Good(), want)
}

func expectTell(t *testing.T, d *Device, k int, want api.Quote, event api.Event) {
	t.Helper()
	q, l, err := d.Tell(k, want.Nonce, want.Mask)
	if q != want || !slices.Equal(l, []api.Event{event}) || err != nil {
		t.Errorf("Tell(%d, %d, %d): got %v, %v, %v; want %v, %v", k, want.Nonce, want.Mask, q, l, err, want, event)
	}
}

func expectNotTold(t *testing.T, d *Device, k, nonce, mask int, want api.Errno) {
	t.Helper()
	q, l, err := d.Tell(k, nonce, mask)
	if q != (api.Quote{}) || len(l) != 0 || plain.Told(err) != want {
		t.Errorf("Tell(%d, %d, %d): got %v, %v, %v; want %v", k, nonce, mask, q, l, err, want)
	}
}

// expectRuns: the image was started, and what is told is of its measure, in register 0, and of nothing else.
func expectRuns(t *testing.T, d *Device, want api.Image) {
	t.Helper()
	if m, err := d.Runs(); m != want || err != nil {
		t.Errorf("Runs: got %v, %v; want %v", m, err, want)
	}
	n := measureOf(want)
	q, err := quote.Make(d.x, 7, 9, 255, api.Bank{(n + 1) % api.Modulo})
	if err != nil {
		t.Fatal(err)
	}
	expectTell(t, d, 7, q, api.Event{Register: 0, Measure: n})
}

// measureOf is written once more, so that a device that measures something else is told.
func measureOf(m api.Image) int {
	digits := ""
	for v := m.Version; v > 0; v /= 10 {
		digits = string(rune('0'+v%10)) + digits
	}
	n := 1
	for _, c := range []byte(m.Name + " " + digits + " " + m.Code) {
		n = (n*257 + int(c) + 1) % api.Modulo
	}
	return n
}

// expectIdle: nothing was started.
func expectIdle(t *testing.T, d *Device) {
	t.Helper()
	if m, err := d.Runs(); m != (api.Image{}) || plain.Told(err) != api.ErrState {
		t.Errorf("Runs: got %v, %v; want %v", m, err, api.ErrState)
	}
	expectNotTold(t, d, 7, 9, 1, api.ErrState)
	expectNotTold(t, d, 0, -1, 256, api.ErrState) // ahead of what is wrong with the numbers
	expectGood(t, d, api.ErrState)
}

func expectLeast(t *testing.T, d *Device, name string, want int) {
	t.Helper()
	if got, err := d.counts.Least(name); got != want || err != nil {
		t.Errorf("Least(%q): got %d, %v; want %d", name, got, err, want)
	}
}

// TestWorkedOut: seals, measures and quotes that were worked out apart from the program, from the first image to the third.
func TestWorkedOut(t *testing.T) {
	d := made(t, root, secret, signed("boot", 1, "b", 1478, 33))
	expectIdle(t, d)
	expectStart(t, d, false)
	one := api.Event{Register: 0, Measure: 5723}
	expectTell(t, d, 7, quoteOf(9, 1, 5725, 1478, 98), one)
	expectTell(t, d, 7, quoteOf(9, 255, 78346, 1478, 120), one)
	expectTell(t, d, 8, quoteOf(0, 0, 0, 469, 22), one)
	expectTell(t, d, 256, quoteOf(last, 254, 849892, 217, 193), one)
	expectUpdate(t, d, nil, signed("boot", 2, "a", 1478, 28), api.OK)
	expectTell(t, d, 7, quoteOf(9, 1, 5725, 1478, 98), one)
	expectStart(t, d, true)
	two := api.Event{Register: 0, Measure: 71771}
	expectTell(t, d, 7, quoteOf(9, 1, 71773, 1478, 87), two)
	expectTell(t, d, 1, quoteOf(10, 3, 368684, 64, 107), two)
	expectGood(t, d, api.OK)
	expectUpdate(t, d, certs(), signed("boot", 3, "", 1377, 90), api.OK)
	expectTell(t, d, 7, quoteOf(9, 1, 71773, 1478, 87), two)
	expectStart(t, d, true)
	three := api.Event{Register: 0, Measure: 132832}
	expectTell(t, d, 7, quoteOf(9, 1, 132834, 1478, 217), three)
	expectTell(t, d, 2, quoteOf(10, 129, 909294, 1010, 220), three)
	expectGood(t, d, api.OK)
	expectUpdate(t, d, certs(), signed("boot", 1000, "zyxwvuts", 1377, 65), api.OK)
	expectStart(t, d, true)
	expectRuns(t, d, picture("boot", 1000, "zyxwvuts"))
}

// TestToldOfEdges: the least and the greatest of secrets, masks, nonces and images, worked out apart from the program.
func TestToldOfEdges(t *testing.T) {
	for _, c := range []struct {
		x, k    int
		image   api.Image
		want    api.Quote
		measure int
	}{
		{1, 1, picture("a", 1, ""), quoteOf(7, 1, 154933, 64, 201), 154931},
		{256, 256, picture("abcdefgh", 1000, "zyxwvuts"), quoteOf(7, 255, 456613, 217, 72), 168041},
		{1, 256, picture("abcdefgh", 1000, ""), quoteOf(0, 128, 1, 217, 2), 4104},
		{256, 1, picture("z", 999, "z"), quoteOf(last, 1, 335425, 64, 23), 335423},
	} {
		d := made(t, root, c.x, api.Signed{Image: c.image})
		expectStart(t, d, false)
		expectTell(t, d, c.k, c.want, api.Event{Register: 0, Measure: c.measure})
		expectRuns(t, d, c.image)
	}
}

// start is all that New is handed.
type start struct {
	root, x int
	first   api.Signed
}

func expectNoDevice(t *testing.T, s start, want api.Errno) {
	t.Helper()
	if d, err := New(s.root, s.x, s.first); d != nil || plain.Told(err) != want {
		t.Errorf("New%v: got %v, %v; want nil, %v", s, d, err, want)
	}
}

func TestNewOfWrongNumbers(t *testing.T) {
	first := signed("boot", 1, "b", 1478, 33)
	huge := []int{math.MinInt, math.MaxInt, -1, 0, 1 << 32, 1<<32 + 5, -1 << 32}
	for _, n := range append(huge, api.Group, api.Group+root, -root, last) {
		expectNoDevice(t, start{n, secret, first}, api.ErrRange)
	}
	for _, n := range append(huge, api.Order, api.Order+secret, -secret, root, last) {
		expectNoDevice(t, start{root, n, first}, api.ErrRange)
	}
}

// TestNewOfEdges: what may just be; a root needs no secret, and a first image no seal, not even one of numbers that may be.
func TestNewOfEdges(t *testing.T) {
	for _, root := range []int{1, 2, api.Order, api.Group - 1} {
		for _, x := range []int{1, 2, api.Order - 1} {
			for _, s := range []api.Seal{{}, {Point: -1, Answer: -1}, {Point: api.Group, Answer: api.Order}, {Point: math.MinInt, Answer: math.MaxInt}} {
				for _, m := range []api.Image{picture("a", 1, ""), picture("zzzzzzzz", api.MaxVersion, "aaaaaaaa")} {
					d := made(t, root, x, api.Signed{Image: m, Seal: s})
					expectIdle(t, d)
					expectStart(t, d, false)
					expectRuns(t, d, m)
				}
			}
		}
	}
}

func TestNewOfWrongImages(t *testing.T) {
	for _, c := range []struct {
		want  api.Errno
		image api.Image
	}{
		{api.ErrShape, api.Image{}},
		{api.ErrShape, picture("", 1, "a")},
		{api.ErrShape, picture("Boot", 1, "a")},
		{api.ErrShape, picture("bo t", 1, "a")},
		{api.ErrShape, picture("boot", 1, "\xff")},
		{api.ErrShape, picture(nine+"{", 0, "a")},
		{api.ErrFull, picture(nine, 1, "a")},
		{api.ErrFull, picture("boot", 0, nine)},
		{api.ErrRange, picture("boot", 0, "a")},
		{api.ErrRange, picture("boot", -1, "a")},
		{api.ErrRange, picture("boot", api.MaxVersion+1, "a")},
		{api.ErrRange, picture("boot", math.MinInt, "")},
		{api.ErrRange, picture("boot", math.MaxInt, "")},
	} {
		expectNoDevice(t, start{root, secret, api.Signed{Image: c.image, Seal: api.Seal{Point: 1478, Answer: 33}}}, c.want)
	}
}

// TestNewOrder: of each choice of faults the one that is named first is told.
func TestNewOrder(t *testing.T) {
	all := []struct {
		want api.Errno
		do   func(*start)
	}{
		{api.ErrRange, func(s *start) { s.root = api.Group }},
		{api.ErrRange, func(s *start) { s.x = api.Order }},
		{api.ErrShape, func(s *start) { s.first.Image.Name = "B" + s.first.Image.Name }},
		{api.ErrShape, func(s *start) { s.first.Image.Code += "!" }},
		{api.ErrFull, func(s *start) { s.first.Image.Name += nine }},
		{api.ErrFull, func(s *start) { s.first.Image.Code += nine }},
		{api.ErrRange, func(s *start) { s.first.Image.Version = 0 }},
	}
	for chosen := 1; chosen < 1<<len(all); chosen++ {
		s, want := start{root, secret, signed("boot", 1, "b", 1478, 33)}, api.OK
		for i, f := range slices.Backward(all) { // from behind, so that one that is named earlier is the one that is wanted
			if chosen>>i&1 == 1 {
				f.do(&s)
				want = f.want
			}
		}
		expectNoDevice(t, s, want)
	}
}

// TestNothingStarted: until the first Start nothing runs, whatever else is called; updates are taken all the same.
func TestNothingStarted(t *testing.T) {
	d := usual(t, 1)
	for range 3 {
		expectIdle(t, d)
		expectUpdate(t, d, certs(), newer(t, 2), api.OK)
		expectIdle(t, d)
		expectUpdate(t, d, certs(), newer(t, 1), api.ErrOld)
		expectIdle(t, d)
	}
	expectLeast(t, d, "boot", 0)
	expectStart(t, d, true)
	expectRuns(t, d, bootImage(2))
}

// TestFirst: the first image is good already, so it is not on trial, cannot become good, and raises nothing.
func TestFirst(t *testing.T) {
	d := usual(t, 5)
	for range 10 {
		expectStart(t, d, false)
		expectRuns(t, d, bootImage(5))
		expectGood(t, d, api.ErrClash)
		expectRuns(t, d, bootImage(5))
		expectLeast(t, d, "boot", 0)
	}
}

// TestThreeTries: what does not become good is started three times; then the good one is again, for good.
func TestThreeTries(t *testing.T) {
	d := usual(t, 1)
	expectStart(t, d, false)
	expectUpdate(t, d, certs(), newer(t, 2), api.OK)
	expectRuns(t, d, bootImage(1)) // it runs on until the next start
	for range api.MaxTries {
		expectStart(t, d, true)
		expectRuns(t, d, bootImage(2))
	}
	for range 5 {
		expectStart(t, d, false)
		expectRuns(t, d, bootImage(1))
		expectGood(t, d, api.ErrClash)
	}
	expectLeast(t, d, "boot", 0)
	expectUpdate(t, d, certs(), newer(t, 2), api.OK) // once more, with all tries
	for range api.MaxTries {
		expectStart(t, d, true)
		expectRuns(t, d, bootImage(2))
	}
	expectStart(t, d, false)
	expectRuns(t, d, bootImage(1))
}

// TestGoodAtEachTry: at each of its tries, the last one too, it may become good, and stays so.
func TestGoodAtEachTry(t *testing.T) {
	for tries := 1; tries <= api.MaxTries; tries++ {
		d := usual(t, 1)
		expectUpdate(t, d, certs(), newer(t, 7), api.OK)
		for range tries {
			expectLeast(t, d, "boot", 0)
			expectStart(t, d, true)
		}
		expectGood(t, d, api.OK)
		expectLeast(t, d, "boot", 7)
		expectRuns(t, d, bootImage(7))
		expectGood(t, d, api.ErrClash)
		for range 5 {
			expectStart(t, d, false)
			expectRuns(t, d, bootImage(7))
		}
		expectLeast(t, d, "boot", 7)
		for v := range 7 {
			expectUpdate(t, d, certs(), newer(t, v+1), api.ErrOld)
		}
		expectUpdate(t, d, certs(), newer(t, 8), api.OK)
	}
}

// TestManyGood: from one to the next, as far as versions go; the Counts go with them.
func TestManyGood(t *testing.T) {
	d := usual(t, 1)
	for _, v := range []int{2, 3, 9, 10, 11, 500, 998, 999, 1000} {
		expectUpdate(t, d, certs(), newer(t, v), api.OK)
		expectStart(t, d, true)
		expectGood(t, d, api.OK)
		expectRuns(t, d, bootImage(v))
		expectLeast(t, d, "boot", v)
	}
	expectUpdate(t, d, certs(), newer(t, 1000), api.ErrOld)
	expectStart(t, d, false)
	expectRuns(t, d, bootImage(1000))
}

// TestAnotherBeside: while the good one runs what lies beside it may be replaced, by any that is newer than the good one.
func TestAnotherBeside(t *testing.T) {
	d := usual(t, 2)
	for _, v := range []int{5, 9, 3} {
		expectUpdate(t, d, certs(), newer(t, v), api.OK)
	}
	expectStart(t, d, true)
	expectRuns(t, d, bootImage(3))
	expectUpdate(t, d, certs(), newer(t, 9), api.ErrState)
	expectRuns(t, d, bootImage(3))
	expectGood(t, d, api.OK)
	expectUpdate(t, d, certs(), newer(t, 9), api.OK)
	expectStart(t, d, true)
	expectRuns(t, d, bootImage(9))
}

// TestRefusedUpdateKeepsTries: an update that is refused leaves what is on trial as it is, with the tries that it has left.
func TestRefusedUpdateKeepsTries(t *testing.T) {
	d := usual(t, 1)
	expectUpdate(t, d, certs(), newer(t, 2), api.OK)
	for range api.MaxTries {
		expectUpdate(t, d, certs(), newer(t, 1), api.ErrOld)
		expectUpdate(t, d, nil, newer(t, 3), api.ErrSeal)
		expectStart(t, d, true)
		expectUpdate(t, d, certs(), newer(t, 3), api.ErrState)
		expectRuns(t, d, bootImage(2))
	}
	expectStart(t, d, false)
	expectRuns(t, d, bootImage(1))
}

// order is all that Update is handed.
type order struct {
	certs []api.Cert
	next  api.Signed
}

// fault is one thing that is wrong with an order, and what is told of it.
type fault struct {
	want api.Errno
	do   func(*testing.T, *order)
}

// faults stand in the order in which the chapters name them.
func faults() []fault {
	return []fault{
		{api.ErrFull, func(_ *testing.T, o *order) { o.certs = append(o.certs, make([]api.Cert, 11)...) }},
		{api.ErrRange, func(_ *testing.T, o *order) { o.certs[0].Seal.Point = api.Group }},
		{api.ErrSeal, func(_ *testing.T, o *order) { o.certs[0].Seal.Answer ^= 1 }},
		{api.ErrRange, func(_ *testing.T, o *order) { o.certs[1].Key = 0 }},
		{api.ErrSeal, func(_ *testing.T, o *order) { o.certs[1].Seal.Answer ^= 1 }},
		{api.ErrShape, func(_ *testing.T, o *order) { o.next.Image.Code = "A" }},
		{api.ErrFull, func(_ *testing.T, o *order) { o.next.Image.Name = nine }},
		{api.ErrRange, func(_ *testing.T, o *order) { o.next.Image.Version = api.MaxVersion + 1 }},
		{api.ErrRange, func(_ *testing.T, o *order) { o.next.Seal.Answer = api.Order }},
		{api.ErrSeal, func(t *testing.T, o *order) { o.next = by(t, 6, o.next.Image) }},
		{api.ErrShape, func(t *testing.T, o *order) { o.next = by(t, 7, picture("boots", o.next.Image.Version, "")) }},
		{api.ErrOld, func(t *testing.T, o *order) { o.next = newer(t, 5) }},
	}
}

// TestUpdateOrder: of each choice of faults the one that is named first is told, ahead of what is on trial, and nothing is changed.
func TestUpdateOrder(t *testing.T) {
	all := faults()
	calm, busy := usual(t, 5), usual(t, 5)
	expectUpdate(t, busy, certs(), newer(t, 6), api.OK)
	expectStart(t, busy, true)
	for chosen := 1; chosen < 1<<len(all); chosen++ {
		o, want := order{certs(), newer(t, 7)}, api.OK
		for i, f := range slices.Backward(all) { // from behind, so that one that is named earlier lies on top
			if chosen>>i&1 == 1 {
				f.do(t, &o)
				want = f.want
			}
		}
		expectUpdate(t, calm, o.certs, o.next, want)
		expectUpdate(t, busy, o.certs, o.next, want)
	}
	expectUpdate(t, busy, certs(), newer(t, 7), api.ErrState)
	expectIdle(t, calm)
	expectStart(t, calm, false)
	expectRuns(t, calm, bootImage(5))
	expectRuns(t, busy, bootImage(6))
	expectStart(t, busy, true)
	expectStart(t, busy, true)
	expectStart(t, busy, false)
}

// TestOfWhom: who has the secret of the last key may sign; without certs that is the root's. Keys are small, so seals of a few other
// secrets are right for this image by chance: which, was worked out apart from the program.
func TestOfWhom(t *testing.T) {
	for n, right := range [][]int{{5, 151, 250}, {6, 58}, {7}} {
		for x := 1; x < api.Order; x++ {
			want := api.ErrSeal
			if slices.Contains(right, x) {
				want = api.OK
			}
			expectUpdate(t, usual(t, 1), certs()[:n], by(t, x, picture("boot", 2, "x")), want)
		}
	}
}

// TestOtherRoots: certs and images of one root are nothing to another one.
func TestOtherRoots(t *testing.T) {
	for _, other := range []int{1, 64, 526, 528, public, 1325, api.Group - 1} {
		d := made(t, other, secret, newer(t, 1))
		expectUpdate(t, d, certs(), newer(t, 2), api.ErrSeal)
		expectStart(t, d, false)
		expectRuns(t, d, bootImage(1))
	}
	d := made(t, 1325, secret, newer(t, 1))
	expectUpdate(t, d, certs()[1:], newer(t, 2), api.OK)
	expectUpdate(t, d, nil, by(t, 6, bootImage(2)), api.OK)
}

// TestOldAgainstGood: it is held against the one that is good, not against the one on trial nor the first.
func TestOldAgainstGood(t *testing.T) {
	d := usual(t, 3)
	expectUpdate(t, d, certs(), newer(t, 3), api.ErrOld)
	expectUpdate(t, d, certs(), newer(t, 8), api.OK)
	expectStart(t, d, true)
	expectUpdate(t, d, certs(), newer(t, 5), api.ErrState) // newer than the good one
	expectUpdate(t, d, certs(), newer(t, 3), api.ErrOld)
	expectGood(t, d, api.OK)
	expectUpdate(t, d, certs(), newer(t, 5), api.ErrOld)
	expectUpdate(t, d, certs(), newer(t, 8), api.ErrOld)
	expectUpdate(t, d, certs(), newer(t, 9), api.OK)
}

// TestCountsAreAsked: what stands in the device's own Counts keeps an update out, even one that is newer than the good one.
func TestCountsAreAsked(t *testing.T) {
	d := usual(t, 1)
	if _, err := d.counts.Raise("boot", 6); err != nil {
		t.Fatal(err)
	}
	expectUpdate(t, d, certs(), newer(t, 5), api.ErrOld)
	expectStart(t, d, false)
	expectUpdate(t, d, certs(), newer(t, 6), api.OK)
	expectStart(t, d, true)
	expectGood(t, d, api.OK)
	expectLeast(t, d, "boot", 6)
}

// TestTellOfWrongNumbers: it is told, and what runs is told as before.
func TestTellOfWrongNumbers(t *testing.T) {
	d := usual(t, 1)
	expectStart(t, d, false)
	huge := []int{math.MinInt, math.MaxInt, -1, 1 << 32, -1 << 32}
	for _, n := range append(huge, 0, api.Order, api.Order+7) {
		expectNotTold(t, d, n, 9, 1, api.ErrRange)
	}
	for _, n := range append(huge, api.Modulo, api.Modulo+9) {
		expectNotTold(t, d, 7, n, 1, api.ErrRange)
	}
	for _, n := range append(huge, 256, 257, 1<<31) {
		expectNotTold(t, d, 7, 9, n, api.ErrRange)
	}
	expectNotTold(t, d, 0, -1, 256, api.ErrRange)
	expectRuns(t, d, bootImage(1))
}

// TestTellOfAll: each mask and each secret of a seal are taken, and each quote is right for who asked.
func TestTellOfAll(t *testing.T) {
	d := usual(t, 4)
	expectStart(t, d, false)
	register := measureOf(bootImage(4)) + 1
	for mask := range 256 {
		for _, k := range []int{1, 2, mask%256 + 1, 255 - mask + 1, api.Order - 1} {
			q, err := quote.Make(secret, k, mask*3900, mask, api.Bank{register})
			if err != nil {
				t.Fatal(err)
			}
			expectTell(t, d, k, q, api.Event{Register: 0, Measure: register - 1})
			expectError(t, "quote.Check", quote.Check(public, q, mask*3900), api.OK)
		}
	}
}

// TestTellsOfTheLastStart: a bank begins at noughts with each start, so it hangs on the last one alone.
func TestTellsOfTheLastStart(t *testing.T) {
	d := usual(t, 1)
	for range 3 {
		expectStart(t, d, false)
		expectRuns(t, d, bootImage(1))
	}
	expectUpdate(t, d, certs(), newer(t, 2), api.OK)
	expectStart(t, d, true)
	expectGood(t, d, api.OK)
	for range 3 {
		expectStart(t, d, false)
		expectRuns(t, d, bootImage(2))
	}
}

// TestJudged: who asks can be sure of what a device tells, and a keeper gives to it only while what should run does.
func TestJudged(t *testing.T) {
	d := usual(t, 1)
	rules := []api.Rule{{Register: 0, Good: []int{measureOf(bootImage(2)) + 1}}, {Register: 1, Good: []int{0}}}
	k, err := keeper.New(public, 4711, 1, rules)
	if err != nil {
		t.Fatal(err)
	}
	asks := func(secret int, want api.Errno) {
		t.Helper()
		n, err := k.Ask()
		if err != nil {
			t.Fatal(err)
		}
		q, l, err := d.Tell(3, n, 255)
		expectError(t, "Tell", err, api.OK)
		expectError(t, "Sure", judge.Sure(public, q, n, l, rules), want)
		expectError(t, "Sure", judge.Sure(public, q, n, l, rules[1:]), api.OK)
		if got, err := k.Give(q, l); got != secret || plain.Told(err) != want {
			t.Errorf("Give: got %d, %v; want %d, %v", got, err, secret, want)
		}
	}
	expectStart(t, d, false)
	asks(0, api.ErrState)
	expectUpdate(t, d, certs(), newer(t, 2), api.OK)
	asks(0, api.ErrState) // it is there, but not started
	for range api.MaxTries {
		expectStart(t, d, true)
		asks(4711, api.OK)
	}
	expectStart(t, d, false)
	asks(0, api.ErrState)
}

// TestListsStay: certs are not written into, and what lies behind their length is neither read nor written.
func TestListsStay(t *testing.T) {
	l := append(certs(), slices.Repeat([]api.Cert{sealed(-1, -1, -1)}, 20)...)
	was := slices.Clone(l)
	d := usual(t, 1)
	expectUpdate(t, d, l[:2], newer(t, 2), api.OK)
	expectUpdate(t, d, l[:3], newer(t, 2), api.ErrRange)
	expectUpdate(t, d, l[:1], newer(t, 2), api.ErrSeal)
	expectUpdate(t, d, l[:0], newer(t, 2), api.ErrSeal)
	expectUpdate(t, d, l[:0], by(t, 5, bootImage(2)), api.OK)
	expectUpdate(t, d, l[:12], newer(t, 2), api.ErrRange)
	expectUpdate(t, d, l[:13], newer(t, 2), api.ErrFull)
	if !slices.Equal(l, was) {
		t.Errorf("the certs are %v", l)
	}
}

// TestCertsAreNotKept: what is written into them later has no bearing, and each update needs its own.
func TestCertsAreNotKept(t *testing.T) {
	d := usual(t, 1)
	l := certs()
	expectUpdate(t, d, l, newer(t, 2), api.OK)
	clear(l)
	expectStart(t, d, true)
	expectGood(t, d, api.OK)
	expectUpdate(t, d, nil, newer(t, 3), api.ErrSeal)
	expectUpdate(t, d, l, newer(t, 3), api.ErrRange)
	expectUpdate(t, d, certs(), newer(t, 3), api.OK)
}

// TestEventsAreTheCallers: what is written into them, or behind them, is in no later answer.
func TestEventsAreTheCallers(t *testing.T) {
	d := usual(t, 1)
	expectStart(t, d, false)
	q, l, err := d.Tell(7, 9, 1)
	expectError(t, "Tell", err, api.OK)
	_, again, err := d.Tell(7, 9, 1)
	expectError(t, "Tell", err, api.OK)
	want := api.Event{Register: 0, Measure: measureOf(bootImage(1))}
	clear(l[:cap(l)])
	if !slices.Equal(again, []api.Event{want}) {
		t.Errorf("two answers share memory: %v", again)
	}
	expectTell(t, d, 7, q, want)
	expectRuns(t, d, bootImage(1))
}

// held gives a signed image whose texts lie in memory that can be written into.
func held(t *testing.T, version int) (api.Signed, []byte, []byte) {
	t.Helper()
	s := newer(t, version)
	name, code := []byte(s.Image.Name), []byte(s.Image.Code)
	s.Image.Name, s.Image.Code = unsafe.String(&name[0], len(name)), unsafe.String(&code[0], len(code))
	return s, name, code
}

// TestTextsAreNotKept: nor are those of an image that came in, and those that go out are not those that stay.
func TestTextsAreNotKept(t *testing.T) {
	first, firstName, firstCode := held(t, 1)
	next, nextName, nextCode := held(t, 2)
	d := made(t, root, secret, first)
	expectUpdate(t, d, certs(), next, api.OK)
	for _, memory := range [][]byte{firstName, firstCode, nextName, nextCode} {
		memory[0] = 'x'
	}
	for range api.MaxTries {
		expectStart(t, d, true)
		expectRuns(t, d, bootImage(2))
	}
	expectStart(t, d, false)
	expectRuns(t, d, bootImage(1))
	a, _ := d.Runs()
	b, _ := d.Runs()
	if unsafe.StringData(a.Name) == unsafe.StringData(b.Name) || unsafe.StringData(a.Code) == unsafe.StringData(b.Code) {
		t.Error("two answers of Runs share memory")
	}
}

// TestApart: two devices that are alike know nothing of each other.
func TestApart(t *testing.T) {
	a, b := usual(t, 1), usual(t, 1)
	expectStart(t, a, false)
	expectIdle(t, b)
	expectUpdate(t, a, certs(), newer(t, 2), api.OK)
	expectStart(t, b, false)
	expectStart(t, a, true)
	expectGood(t, a, api.OK)
	expectGood(t, b, api.ErrClash)
	expectRuns(t, a, bootImage(2))
	expectRuns(t, b, bootImage(1))
	expectLeast(t, b, "boot", 0)
	expectUpdate(t, b, certs(), newer(t, 2), api.OK)
	expectUpdate(t, a, certs(), newer(t, 2), api.ErrOld)
}

// sketch is what a device should come to, written down from the chapters' words.
type sketch struct {
	good         int // the version that is
	trial, tries int // the version beside it, or 0, and what it has left
	runs         int // the version that was started, or 0
	onTrial      bool
	least        int
}

func (s *sketch) update(version int) api.Errno {
	switch {
	case version <= s.good:
		return api.ErrOld
	case s.onTrial:
		return api.ErrState
	}
	s.trial, s.tries = version, 3
	return api.OK
}

func (s *sketch) start() bool {
	s.runs, s.onTrial = s.good, s.tries > 0
	if s.onTrial {
		s.runs = s.trial
		s.tries--
	}
	return s.onTrial
}

func (s *sketch) makeGood() api.Errno {
	switch {
	case s.runs == 0:
		return api.ErrState
	case !s.onTrial:
		return api.ErrClash
	}
	*s = sketch{good: s.runs, runs: s.runs, least: s.runs}
	return api.OK
}

// both does one thing to a device and to its sketch, and holds them against each other.
func both(t *testing.T, d *Device, s *sketch, deed, version int) {
	t.Helper()
	was := *s
	switch deed {
	case 0:
		expectUpdate(t, d, certs(), newer(t, version), s.update(version))
	case 1:
		expectStart(t, d, s.start())
	case 2:
		expectGood(t, d, s.makeGood())
	}
	if s.runs == 0 {
		expectIdle(t, d)
	} else {
		expectRuns(t, d, bootImage(s.runs))
	}
	expectLeast(t, d, "boot", s.least)
	if now := d.slots.GoodOne().Image; now != bootImage(s.good) || now.Version < was.good {
		t.Errorf("good is %v; want version %d, and it was %d", now, s.good, was.good)
	}
}

// TestAllShortRows: every row of seven deeds, of which the updates are of a newer version or of the one that is good at first.
func TestAllShortRows(t *testing.T) {
	const deeds, long = 4, 7
	for row := range 1 << (2 * long) {
		d, s := usual(t, 2), &sketch{good: 2}
		for i := range long {
			deed, version := row>>(2*i)%deeds, 3+i
			if deed == 3 {
				deed, version = 0, 2
			}
			both(t, d, s, deed, version)
		}
		if t.Failed() {
			t.Fatalf("row %d", row)
		}
	}
}

// TestMany: long rows of calls of all kinds.
func TestMany(t *testing.T) {
	state := 1
	next := func(below int) int {
		state = (state*48271 + 11) % 2147483647
		return state / 7 % below
	}
	all := faults()
	for range 100 {
		first := 1 + next(20)
		d, s := usual(t, first), &sketch{good: first}
		for range 150 {
			if next(4) == 0 {
				o := order{certs(), newer(t, s.good+1)}
				f := all[next(len(all)-1)] // the last one is of a version that may be newer here
				f.do(t, &o)
				expectUpdate(t, d, o.certs, o.next, f.want)
			}
			both(t, d, s, next(3), max(1, s.good-1+next(5)))
		}
		if t.Failed() {
			return
		}
	}
}
