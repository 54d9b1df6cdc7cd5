package image

import (
	"math"
	"strings"
	"testing"
	"unsafe"

	"bootstair/api"
	"bootstair/plain"
)

const (
	eight = "abcdefgh"
	nine  = "abcdefghi"
)

func boot() api.Image { return api.Image{Name: "boot", Version: 2, Code: "a"} }

// expect holds an answer and an error against what is wanted.
func expect[T comparable](t *testing.T, call string, got T, err error, want T, wantErr api.Errno) {
	t.Helper()
	if got != want || plain.Told(err) != wantErr || err != nil && wantErr == api.OK {
		t.Errorf("%q: got %v, %v; want %v, %v", call, got, err, want, wantErr)
	}
}

type printed struct {
	image   api.Image
	text    string
	measure int
}

// right are images with what is printed of them, and the measure of it.
func right() []printed {
	return []printed{
		{boot(), "boot 2 a", 71771},
		{api.Image{Name: "os", Version: 1}, "os 1 ", 988106},
		{api.Image{Name: "a", Version: 1}, "a 1 ", 154931},
		{api.Image{Name: "a", Version: 1, Code: "a"}, "a 1 a", 817248},
		{api.Image{Name: "a", Version: 2, Code: "a"}, "a 2 a", 883297},
		{api.Image{Name: "a", Version: 1, Code: "b"}, "a 1 b", 817249},
		{api.Image{Name: "b", Version: 1, Code: "a"}, "b 1 a", 274560},
		{api.Image{Name: "a", Version: 1000}, "a 1000 ", 620127},
		{api.Image{Name: "os", Version: 10, Code: "a"}, "os 10 a", 282765},
		{api.Image{Name: "kernel", Version: 42, Code: eight}, "kernel 42 abcdefgh", 267524},
		{api.Image{Name: eight, Version: 999, Code: "az"}, "abcdefgh 999 az", 138293},
		{api.Image{Name: "zzzzzzzz", Version: 1000, Code: "zzzzzzzz"}, "zzzzzzzz 1000 zzzzzzzz", 219983},
	}
}

type faulty struct {
	image api.Image
	err   api.Errno
}

// wrong are images with what Check says of them.
func wrong() []faulty {
	l := []faulty{
		{api.Image{}, api.ErrShape},
		{api.Image{Name: "", Version: 2, Code: "a"}, api.ErrShape},
		{api.Image{Name: nine, Version: 2, Code: "a"}, api.ErrFull},
		{api.Image{Name: "boot", Version: 2, Code: nine}, api.ErrFull},
		{api.Image{Name: nine, Version: 2, Code: nine}, api.ErrFull},
		{api.Image{Name: strings.Repeat("a", 5000), Version: 2}, api.ErrFull},
		{api.Image{Name: "a", Version: 2, Code: strings.Repeat("a", 5000)}, api.ErrFull},
		// The shape of either is told ahead of the length of either, and that ahead of the version.
		{api.Image{Name: "", Version: 2, Code: nine}, api.ErrShape},
		{api.Image{Name: nine, Version: 2, Code: "A"}, api.ErrShape},
		{api.Image{Name: "A", Version: 0, Code: nine}, api.ErrShape},
		{api.Image{Name: strings.Repeat("a", 5000) + "A", Version: 0}, api.ErrShape},
		{api.Image{Name: "boot", Version: 0, Code: "?"}, api.ErrShape},
		{api.Image{Name: "", Version: 1001}, api.ErrShape},
		{api.Image{Name: nine, Version: 0, Code: "a"}, api.ErrFull},
		{api.Image{Name: "boot", Version: 1001, Code: nine}, api.ErrFull},
	}
	for _, n := range []int{0, -1, -2, 1001, 1002, 10000, math.MinInt, math.MaxInt} {
		l = append(l, faulty{api.Image{Name: "boot", Version: n, Code: "a"}, api.ErrRange})
	}
	for _, s := range []string{"A", "Z", "`", "{", "0", "9", " ", "\x00", "\x80", "\xff", "\n", "é", "\xc1\xa1", "ａ"} {
		for _, word := range []string{s, s + "b", "b" + s, "b" + s + "c"} {
			l = append(l, faulty{api.Image{Name: word, Version: 2, Code: "a"}, api.ErrShape})
			l = append(l, faulty{api.Image{Name: "boot", Version: 2, Code: word}, api.ErrShape})
		}
	}
	return l
}

func TestRight(t *testing.T) {
	for _, c := range right() {
		expect(t, "Check", c.image, Check(c.image), c.image, api.OK)
		text, err := Print(c.image)
		expect(t, "Print", text, err, c.text, api.OK)
		n, err := Measure(c.image)
		expect(t, "Measure of "+c.text, n, err, c.measure, api.OK)
		m, err := Parse(c.text)
		expect(t, "Parse of "+c.text, m, err, c.image, api.OK)
	}
}

func TestWrong(t *testing.T) {
	for _, c := range wrong() {
		expect(t, "Check", c.image, Check(c.image), c.image, c.err)
		text, err := Print(c.image)
		expect(t, "Print", text, err, "", c.err)
		n, err := Measure(c.image)
		expect(t, "Measure", n, err, 0, c.err)
		for _, b := range []api.Image{boot(), {Name: "os", Version: 1}} { // a fault is told ahead of another name
			is, err := Newer(c.image, b)
			expect(t, "Newer of a wrong one", is, err, false, c.err)
			is, err = Newer(b, c.image)
			expect(t, "Newer than a wrong one", is, err, false, c.err)
		}
	}
}

// TestByte: of all bytes just a to z may be in a Name, and in a Code.
func TestByte(t *testing.T) {
	for c := range 256 {
		want := api.ErrShape
		if c >= 'a' && c <= 'z' {
			want = api.OK
		}
		word := string([]byte{byte(c)})
		for _, m := range []api.Image{{Name: word, Version: 1}, {Name: "a", Version: 1, Code: word}} {
			expect(t, "Check", m, Check(m), m, want)
		}
	}
}

// TestVersion: each version is printed and read back; just those from 1 to 1000 may be.
func TestVersion(t *testing.T) {
	for n := -3; n < 1100; n++ {
		m, want := api.Image{Name: "os", Version: n, Code: "b"}, api.OK
		if n < 1 || n > 1000 {
			want = api.ErrRange
		}
		text, err := Print(m)
		expect(t, "Print", len(text) > 0, err, want == api.OK, want)
		if want != api.OK {
			continue
		}
		got, err := Parse(text)
		expect(t, "Parse of "+text, got, err, m, api.OK)
	}
}

func TestParseWrong(t *testing.T) {
	for _, c := range []struct {
		text string
		err  api.Errno
	}{
		{"", api.ErrSyntax},
		{" ", api.ErrSyntax},
		{"  ", api.ErrSyntax},
		{"   ", api.ErrSyntax},
		{"boot", api.ErrSyntax},
		{"boot 2", api.ErrSyntax},
		{"boot2 a", api.ErrSyntax},
		{"boot  a", api.ErrSyntax},
		{"boot a 2", api.ErrSyntax},
		{"boot 2 a ", api.ErrSyntax},
		{"boot 2  a", api.ErrSyntax},
		{"boot 2 a b", api.ErrSyntax},
		{"boot  2 a", api.ErrSyntax},
		{" boot 2 a", api.ErrSyntax},
		{"b oot 5 b", api.ErrSyntax},
		{"boot\t2\ta", api.ErrSyntax},
		{"boot 02 a", api.ErrSyntax},
		{"boot 00 a", api.ErrSyntax},
		{"boot 0001 a", api.ErrSyntax},
		{"boot +2 a", api.ErrSyntax},
		{"boot -2 a", api.ErrSyntax},
		{"boot -0 a", api.ErrSyntax},
		{"boot 2. a", api.ErrSyntax},
		{"boot 1_0 a", api.ErrSyntax},
		{"boot 0x1 a", api.ErrSyntax},
		{"boot 2a a", api.ErrSyntax},
		{"boot ２ a", api.ErrSyntax},
		{"boot \xff a", api.ErrSyntax},
		{"boot 10000 a", api.ErrSyntax},
		{"boot 01000 a", api.ErrSyntax},
		{"boot 99999999999999999999 a", api.ErrSyntax},
		{"boot " + strings.Repeat("1", 5000) + " a", api.ErrSyntax},
		{strings.Repeat(" ", 5000), api.ErrSyntax},
		{"boot 0 a", api.ErrRange},
		{"boot 1001 a", api.ErrRange},
		{"boot 9999 a", api.ErrRange},
		{" 2 a", api.ErrShape},
		{" 2 ", api.ErrShape},
		{"Boot 2 a", api.ErrShape},
		{"boot 2 A", api.ErrShape},
		{"boot 2 a\n", api.ErrShape},
		{"\xff 2 a", api.ErrShape},
		{"boot 2 2", api.ErrShape},
		{nine + " 2 a", api.ErrFull},
		{"boot 2 " + nine, api.ErrFull},
		{"boot 2 " + strings.Repeat("a", 5000), api.ErrFull},
		// The syntax is told ahead of what Check says, and that in Check's order.
		{" 02 A", api.ErrSyntax},
		{nine + " 10000 A", api.ErrSyntax},
		{nine + " 0 A", api.ErrShape},
		{nine + " 0 a", api.ErrFull},
		{"A 1001 " + nine, api.ErrShape},
	} {
		got, err := Parse(c.text)
		expect(t, "Parse of "+c.text, got, err, api.Image{}, c.err)
	}
}

// TestParseIsOfItsOwn: what is read shares no memory with the text.
func TestParseIsOfItsOwn(t *testing.T) {
	text := "boot 2 code"
	m, err := Parse(text)
	expect(t, "Parse", m, err, api.Image{Name: "boot", Version: 2, Code: "code"}, api.OK)
	if unsafe.StringData(m.Name) == unsafe.StringData(text) {
		t.Errorf("the Name stands in the text's memory")
	}
	if unsafe.StringData(m.Code) == unsafe.StringData(text[7:]) {
		t.Errorf("the Code stands in the text's memory")
	}
}

func TestNewer(t *testing.T) {
	for _, c := range []struct {
		a, b api.Image
		want bool
		err  api.Errno
	}{
		{api.Image{Name: "os", Version: 2}, api.Image{Name: "os", Version: 1}, true, api.OK},
		{api.Image{Name: "os", Version: 1}, api.Image{Name: "os", Version: 2}, false, api.OK},
		{api.Image{Name: "os", Version: 2}, api.Image{Name: "os", Version: 2}, false, api.OK},
		{api.Image{Name: "os", Version: 2, Code: "b"}, api.Image{Name: "os", Version: 2, Code: "a"}, false, api.OK},
		{api.Image{Name: "os", Version: 2, Code: "a"}, api.Image{Name: "os", Version: 1, Code: "b"}, true, api.OK},
		{api.Image{Name: "os", Version: 10}, api.Image{Name: "os", Version: 9}, true, api.OK},
		{api.Image{Name: "os", Version: 1000}, api.Image{Name: "os", Version: 999}, true, api.OK},
		{api.Image{Name: "os", Version: 1}, api.Image{Name: "os", Version: 1000}, false, api.OK},
		{api.Image{Name: eight, Version: 2}, api.Image{Name: eight, Version: 1}, true, api.OK},
		{api.Image{Name: "os", Version: 2}, api.Image{Name: "oss", Version: 1}, false, api.ErrShape},
		{api.Image{Name: "os", Version: 1}, api.Image{Name: "ot", Version: 2}, false, api.ErrShape},
		{api.Image{Name: "os", Version: 1}, api.Image{Name: "boot", Version: 1}, false, api.ErrShape},
		// What is wrong with a is told ahead of what is wrong with b, and both ahead of their names.
		{api.Image{Name: "os"}, api.Image{Name: "A", Version: 1}, false, api.ErrRange},
		{api.Image{Name: nine, Version: 1}, api.Image{Name: "os"}, false, api.ErrFull},
		{api.Image{Name: "os"}, api.Image{Name: nine, Version: 1}, false, api.ErrRange},
		{api.Image{Name: "A", Version: 1}, api.Image{Name: nine, Version: 1}, false, api.ErrShape},
		{api.Image{Name: "os", Version: 1}, api.Image{Name: "boot", Version: 1001}, false, api.ErrRange},
	} {
		got, err := Newer(c.a, c.b)
		expect(t, "Newer", got, err, c.want, c.err)
	}
}

func TestIsNameAndIsVersion(t *testing.T) {
	for _, c := range right() {
		if !IsName(c.image.Name) {
			t.Errorf("%q is no name", c.image.Name)
		}
	}
	for _, s := range []string{"", nine, strings.Repeat("a", 5000), "A", "`", "{", "b0", "é", "\xff", "abcdefgH"} {
		if IsName(s) {
			t.Errorf("%q is a name", s)
		}
	}
	for n := -3; n < 1100; n++ {
		if IsVersion(n) != (n >= 1 && n <= 1000) {
			t.Errorf("%d: IsVersion %v", n, IsVersion(n))
		}
	}
	if IsVersion(math.MinInt) || IsVersion(math.MaxInt) {
		t.Errorf("a number at an end of int is a version")
	}
}

// TestNumber: up to a bound of digits, and only as it would be printed.
func TestNumber(t *testing.T) {
	for _, c := range []struct {
		digits string
		most   int
		want   int
		err    api.Errno
	}{
		{"0", 1, 0, api.OK},
		{"9", 1, 9, api.OK},
		{"10", 1, 0, api.ErrSyntax},
		{"1000", 4, 1000, api.OK},
		{"10000", 4, 0, api.ErrSyntax},
		{"9999999", 7, 9999999, api.OK},
		{"10000000", 7, 0, api.ErrSyntax},
		{"1", 7, 1, api.OK},
		{"", 7, 0, api.ErrSyntax},
		{"", 0, 0, api.ErrSyntax},
		{"1", 0, 0, api.ErrSyntax},
		{"1", -1, 0, api.ErrSyntax},
		{"00", 7, 0, api.ErrSyntax},
		{"01", 7, 0, api.ErrSyntax},
		{"-1", 7, 0, api.ErrSyntax},
		{"+1", 7, 0, api.ErrSyntax},
		{"-0", 7, 0, api.ErrSyntax},
		{"1_0", 7, 0, api.ErrSyntax},
		{"1x", 7, 0, api.ErrSyntax},
		{" 1", 7, 0, api.ErrSyntax},
		{"9223372036854775807", 30, math.MaxInt, api.OK},
		{"9223372036854775808", 30, 0, api.ErrSyntax},
		{strings.Repeat("9", 5000), math.MaxInt, 0, api.ErrSyntax},
	} {
		got, err := Number(c.digits, c.most)
		expect(t, "Number of "+c.digits, got, err, c.want, c.err)
	}
}
