package sign

import (
	"math"
	"strings"
	"testing"
	"unsafe"

	"bootstair/api"
	"bootstair/image"
	"bootstair/key"
	"bootstair/plain"
)

const public = 527 // of the secret 5

// expect holds an answer and an error against what is wanted.
func expect[T comparable](t *testing.T, call string, got T, err error, want T, wantErr api.Errno) {
	t.Helper()
	if got != want || plain.Told(err) != wantErr || err != nil && wantErr == api.OK {
		t.Errorf("%s: got %v, %v; want %v, %v", call, got, err, want, wantErr)
	}
}

func signed(name string, version int, code string, point, answer int) api.Signed {
	m := api.Image{Name: name, Version: version, Code: code}
	return api.Signed{Image: m, Seal: api.Seal{Point: point, Answer: answer}}
}

func boot() api.Signed { return signed("boot", 2, "a", 1478, 28) }

type made struct {
	x, k, public int
	want         api.Signed
}

// right are signed images with the secrets, and the public key, that they are of.
func right() []made {
	return []made{
		{5, 7, 527, boot()},
		{5, 7, 527, signed("boot", 2, "b", 1478, 33)},
		{5, 7, 527, signed("boox", 2, "a", 1478, 52)},
		{5, 8, 527, signed("boot", 2, "a", 469, 250)},
		{6, 7, 1325, signed("boot", 2, "a", 1478, 168)},
		{1, 1, 64, signed("os", 1, "", 64, 139)},
		{60, 47, 197, signed("os", 3, "", 366, 201)},
		{1, 256, 64, signed("a", 1000, "", 217, 15)},
		{256, 1, 217, signed("abcdefgh", 999, "abcdefgh", 64, 192)},
		{256, 256, 217, signed("zzzzzzzz", 1000, "zzzzzzzz", 217, 142)},
	}
}

type faulty struct {
	image api.Image
	err   api.Errno
}

// wrong are images with what chapter 3's Check says of them.
func wrong() []faulty {
	return []faulty{
		{api.Image{}, api.ErrShape},
		{api.Image{Name: "", Version: 2, Code: "a"}, api.ErrShape},
		{api.Image{Name: "a b", Version: 2, Code: "a"}, api.ErrShape},
		{api.Image{Name: "boot", Version: 2, Code: "A"}, api.ErrShape},
		{api.Image{Name: "abcdefghi", Version: 2, Code: "a"}, api.ErrFull},
		{api.Image{Name: "boot", Version: 2, Code: strings.Repeat("a", 5000)}, api.ErrFull},
		{api.Image{Name: "boot", Version: 0, Code: "a"}, api.ErrRange},
		{api.Image{Name: "boot", Version: api.MaxVersion + 1, Code: "a"}, api.ErrRange},
		{api.Image{Name: "boot", Version: math.MinInt, Code: "a"}, api.ErrRange},
	}
}

func TestMake(t *testing.T) {
	for _, c := range right() {
		got, err := Make(c.x, c.k, c.want.Image)
		expect(t, "Make", got, err, c.want, api.OK)
	}
}

// TestMakeOfWrongImage: what is wrong with the image is told ahead of a wrong secret.
func TestMakeOfWrongImage(t *testing.T) {
	for _, c := range wrong() {
		for _, x := range []int{5, 0, api.Order} {
			got, err := Make(x, 7, c.image)
			expect(t, "Make", got, err, api.Signed{}, c.err)
			got, err = Make(5, x, c.image)
			expect(t, "Make", got, err, api.Signed{}, c.err)
		}
	}
}

func TestMakeOfNoSecret(t *testing.T) {
	for _, n := range []int{0, -1, api.Order, api.Order + 5, math.MinInt, math.MaxInt} {
		got, err := Make(n, 7, boot().Image)
		expect(t, "Make", got, err, api.Signed{}, api.ErrRange)
		got, err = Make(5, n, boot().Image)
		expect(t, "Make", got, err, api.Signed{}, api.ErrRange)
	}
}

// TestMakeSharesNoText: the texts of an answer lie elsewhere than those that came in.
func TestMakeSharesNoText(t *testing.T) {
	m := boot().Image
	got, err := Make(5, 7, m)
	expect(t, "Make", got, err, boot(), api.OK)
	if unsafe.StringData(got.Image.Name) == unsafe.StringData(m.Name) || unsafe.StringData(got.Image.Code) == unsafe.StringData(m.Code) {
		t.Error("Make hands out a text that it was handed")
	}
}

func TestCheck(t *testing.T) {
	for _, c := range right() {
		expect(t, "Check", c.want, Check(c.public, c.want), c.want, api.OK)
	}
	// No secret has the key 1542, yet a seal is right by its numbers.
	expect(t, "Check", 0, Check(1542, signed("boot", 2, "a", 1, 0)), 0, api.OK)
	// A challenge is less than Order, so that one seal is right for other images too.
	expect(t, "Check", 0, Check(public, signed("boot", 3, "a", 1478, 28)), 0, api.OK)
}

// TestCheckOfWhatWasMade: what a secret signs is right by its public key, with no other answer.
func TestCheckOfWhatWasMade(t *testing.T) {
	for x := 1; x < api.Order; x++ {
		of, _ := key.Public(x)
		m := api.Image{Name: "os", Version: 3 * x, Code: "abc"}
		s, err := Make(x, api.Order-x, m)
		expect(t, "Make", s.Image, err, m, api.OK)
		expect(t, "Check", s, Check(of, s), s, api.OK)
		s.Seal.Answer = (s.Seal.Answer + x) % api.Order
		expect(t, "Check", s, Check(of, s), s, api.ErrSeal)
	}
}

// TestCheckOfWrongSeal: another key, another seal, or another image in any of its parts.
func TestCheckOfWrongSeal(t *testing.T) {
	for _, c := range []struct {
		public int
		s      api.Signed
	}{
		{1325, boot()},
		{1, boot()},
		{api.Group - 1, boot()},
		{public, signed("boot", 2, "a", 1478, 29)},
		{public, signed("boot", 2, "a", 1478, 0)},
		{public, signed("boot", 2, "a", 1478, api.Order-1)},
		{public, signed("boot", 2, "a", 469, 28)},
		{public, signed("boot", 2, "a", 1, 28)},
		{public, signed("boot", 2, "a", api.Group-1, 28)},
		{public, signed("boox", 2, "a", 1478, 28)},
		{public, signed("boot", 20, "a", 1478, 28)},
		{public, signed("boot", api.MaxVersion, "a", 1478, 28)},
		{public, signed("boot", 2, "b", 1478, 28)},
		{public, signed("boot", 2, "", 1478, 28)},
	} {
		expect(t, "Check", c.s, Check(c.public, c.s), c.s, api.ErrSeal)
	}
}

// TestCheckOfWrongImage: what is wrong with the image is told ahead of a wrong number, and of a wrong seal.
func TestCheckOfWrongImage(t *testing.T) {
	for _, c := range wrong() {
		for _, of := range []int{public, 0, api.Group} {
			for _, seal := range []api.Seal{boot().Seal, {}, {Point: api.Group, Answer: api.Order}} {
				expect(t, "Check", c.image, Check(of, api.Signed{Image: c.image, Seal: seal}), c.image, c.err)
			}
		}
	}
}

func TestCheckOfWrongNumbers(t *testing.T) {
	refused := func(of, point, answer int) {
		t.Helper()
		expect(t, "Check", of, Check(of, signed("boot", 2, "a", point, answer)), of, api.ErrRange)
	}
	for _, n := range []int{0, -1, api.Group, api.Group + public, math.MinInt, math.MaxInt} {
		refused(n, 1478, 28)
		refused(public, n, 28)
		refused(public, n, 29)
	}
	for _, n := range []int{-1, api.Order, api.Order + 28, math.MinInt, math.MaxInt} {
		refused(public, 1478, n)
		refused(1325, 1478, n)
	}
}

// TestMeasureIsWhatIsSealed: each seal is the one that chapter 4 makes of chapter 3's measure.
func TestMeasureIsWhatIsSealed(t *testing.T) {
	for _, c := range right() {
		n, _ := image.Measure(c.want.Image)
		seal, err := key.Sign(c.x, c.k, n)
		expect(t, "key.Sign", seal, err, c.want.Seal, api.OK)
	}
}
