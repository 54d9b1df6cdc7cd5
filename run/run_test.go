package run

import (
	"errors"
	"fmt"
	"math/big"
	"regexp"
	"strconv"
	"strings"
	"testing"

	"bootstair/api"
)

const long25 = "abcdefghijklmnopqrstuvwxy" // one byte more than is measured

// expect holds the answers to a text against what is wanted.
func expect(t *testing.T, text, want string) {
	t.Helper()
	if got := Run(text); got != want {
		t.Errorf("Run(%q): got %q; want %q", text, got, want)
	}
}

// expectOne is of a text of one line, with a byte 10 behind it and without.
func expectOne(t *testing.T, line, want string) {
	t.Helper()
	expect(t, line, want+"\n")
	expect(t, line+"\n", want+"\n")
}

// expectRows holds lines, all of one text, against the answer to each.
func expectRows(t *testing.T, rows [][2]string) {
	t.Helper()
	var text, want strings.Builder
	for _, r := range rows {
		text.WriteString(r[0] + "\n")
		want.WriteString(r[1] + "\n")
	}
	expect(t, text.String(), want.String())
}

// whole are lines that are taken, one of each first word, and what they are answered.
func whole() [][2]string {
	return [][2]string{
		{"extend 6 386736", "386737"},
		{"digest 201", "161042"},
		{"measure hello", "178270"},
		{"raise os 7", "yes"},
		{"may os 7", "ok"},
		{"public 25", "504"},
		{"sign 25 13 108951", "283 94"},
		{"check 504 108951 283 94", "yes"},
	}
}

// firstNumber is the place of the first word of a line that is to be a number.
func firstNumber(words []string) int {
	switch words[0] {
	case "measure", "raise", "may":
		return 2
	}
	return 1
}

// TestWhole: each kind of line, alone.
func TestWhole(t *testing.T) {
	for _, r := range whole() {
		expectOne(t, r[0], r[1])
	}
}

// TestPieces: a text is cut at byte 10, and a last piece that is empty is none.
func TestPieces(t *testing.T) {
	for _, c := range [][2]string{
		{"", ""},
		{"\n", "bad\n"},
		{"\n\n", "bad\nbad\n"},
		{"\n\n\n", "bad\nbad\nbad\n"},
		{" ", "bad\n"},
		{" \n", "bad\n"},
		{"\n ", "bad\nbad\n"},
		{"measure a", "355\n"},
		{"measure a\n", "355\n"},
		{"measure a\n\n", "355\nbad\n"},
		{"\nmeasure a", "bad\n355\n"},
		{"measure a\nmeasure a", "355\n355\n"},
		{"measure a\nmeasure a\n", "355\n355\n"},
		{"measure a\n\nmeasure a", "355\nbad\n355\n"},
		{"measure a\nmeasure", "355\nbad\n"},
		{"measure\na", "bad\nbad\n"},
		{"measure \na", "bad\nbad\n"},
		{"public 1\r\npublic 1\n", "bad\n64\n"}, // byte 13 is one as any other
		{"public 1\x00public 1\n", "bad\n"},
		{"public 1\vpublic 1\u2028public 1", "bad\n"},
	} {
		expect(t, c[0], c[1])
	}
}

// TestTooLong: by bytes, whatever they are; 3000 may be.
func TestTooLong(t *testing.T) {
	for _, piece := range []string{"\n", " ", "a", "0", "\x00", "\xff", "é", "public 1\n", "measure a\n", "raise os 7\n"} {
		most := strings.Repeat(piece, 5000)
		for _, n := range []int{3001, 3002, 4096, 5000} {
			expect(t, most[:n], "too long\n")
		}
		for _, n := range []int{2998, 2999, 3000} {
			if got := Run(most[:n]); strings.Contains(got, "too long") || got != sketch(most[:n]) {
				t.Errorf("%q, %d bytes: got %q", piece, n, got)
			}
		}
	}
	expect(t, strings.Repeat("\n", 3000), strings.Repeat("bad\n", 3000))
	expect(t, strings.Repeat("public 1\n", 333)+"\n\n\n", strings.Repeat("64\n", 333)+"bad\nbad\nbad\n")
	expect(t, strings.Repeat("public 1\n", 333)+"\n\n\n\n", "too long\n")
	expect(t, "measure "+strings.Repeat("a", 2992), "ErrFull\n")
	expect(t, "measure "+strings.Repeat("a", 2993), "too long\n")
	expect(t, strings.Repeat("measure a\n", 100000), "too long\n")
}

// TestNumbersRead: in each place where one may be, a number of one to seven digits is read.
func TestNumbersRead(t *testing.T) {
	for _, r := range whole() {
		words := strings.Split(r[0], " ")
		for i := firstNumber(words); i < len(words); i++ {
			for _, n := range []string{"0", "1", "9", "10", "100", "257", "1000", "12345", "100000", "1000003", "1234567", "9999999"} {
				line := with(words, i, n)
				if got := Run(line); got == "bad\n" || got != sketch(line) {
					t.Errorf("Run(%q): got %q; want %q", line, got, sketch(line))
				}
			}
		}
	}
}

// TestNumbersBad: in each place what is no number makes the line bad.
func TestNumbersBad(t *testing.T) {
	for _, r := range whole() {
		words := strings.Split(r[0], " ")
		for i := firstNumber(words); i < len(words); i++ {
			for _, n := range []string{
				"", "x", "1x", "x1", "-", "+", "-1", "+1", "-0", "+0", "00", "01", "007", "0000000", "0000001", "01234567", "00000001",
				"10000000", "12345678", "99999999", "99999999999999999999", strings.Repeat("1", 2000),
				"1_0", "0x1", "0b1", "0o7", "1e1", "1.", ".1", "1.0", "1,0", "1\t", "\t1", "1\r", "1\x00", "\x001", "１", "٣", "\xff", "1\xff", "ok", "a",
			} {
				expectOne(t, with(words, i, n), "bad")
			}
		}
	}
}

// with gives a line with another word in one place.
func with(words []string, i int, word string) string {
	l := append([]string{}, words...)
	l[i] = word
	return strings.Join(l, " ")
}

// TestWordsTooFewOrMany: each first word with any other number of words than its own is bad.
func TestWordsTooFewOrMany(t *testing.T) {
	for _, r := range whole() {
		words := strings.Split(r[0], " ")
		for n := 1; n < len(words); n++ {
			expectOne(t, strings.Join(words[:n], " "), "bad")
		}
		for _, more := range []string{" 1", " a", " 1 1", " 1 1 1 1 1 1", " ", "  ", " \t"} {
			expectOne(t, r[0]+more, "bad")
		}
	}
}

// TestBlanks: just one stands between two words, and none elsewhere.
func TestBlanks(t *testing.T) {
	for _, r := range whole() {
		expectOne(t, " "+r[0], "bad")
		expectOne(t, r[0]+" ", "bad")
		for i := range len(r[0]) {
			if r[0][i] != ' ' {
				continue
			}
			for _, between := range []string{"", "  ", "   ", "\t", " \t ", "\r", "\x00", "\u00a0", ",", "\n"} {
				line := r[0][:i] + between + r[0][i+1:]
				want := strings.Repeat("bad\n", 1+strings.Count(between, "\n"))
				expect(t, line, want)
			}
		}
	}
}

// TestFirstWord: any other one is bad, with whatever words behind it.
func TestFirstWord(t *testing.T) {
	behind := []string{"", " ", " 1", " a", " a 1", " 1 1", " 1 1 1", " 1 1 1 1", " 1 1 1 1 1"}
	for _, r := range whole() {
		first, _, _ := strings.Cut(r[0], " ")
		for _, other := range []string{
			strings.ToUpper(first), strings.ToUpper(first[:1]) + first[1:], first[1:], first[:len(first)-1],
			first + "s", first + "\t", first + "\x00", "\t" + first, first + first, "\ufeff" + first,
		} {
			for _, b := range behind {
				expectOne(t, other+b, "bad")
			}
		}
	}
	for _, other := range []string{"fly", "ok", "bad", "yes", "no", "least", "check_", "start", "quote", "0", "\xff", "extend,", "#"} {
		for _, b := range behind {
			expectOne(t, other+b, "bad")
		}
	}
}

// TestNames: one byte or more, of any but byte 32 and byte 10; the layer says the rest.
func TestNames(t *testing.T) {
	for c := range 256 {
		if c == ' ' || c == '\n' {
			continue
		}
		letter := string([]byte{byte(c)})
		shape := c < 'a' || c > 'z'
		for _, name := range []string{letter, letter + "b", "b" + letter, "b" + letter + "c"} {
			expectOne(t, "measure "+name, strconv.Itoa(measureOf(name)))
			if shape {
				expectOne(t, "raise "+name+" 5", "ErrShape")
				expectOne(t, "may "+name+" 5", "ErrShape")
			} else {
				expectOne(t, "raise "+name+" 5", "yes")
				expectOne(t, "may "+name+" 5", "ok")
			}
		}
	}
	for n := 1; n < 60; n++ {
		name := strings.Repeat("k", n)
		want := "ErrFull"
		if n <= 24 {
			want = strconv.Itoa(measureOf(name))
		}
		expectOne(t, "measure "+name, want)
	}
	for _, name := range []string{"os\t", "\tos", "os\r", "o\x00s"} { // only byte 32 is of no name
		expectOne(t, "raise "+name+" 7", "ErrShape")
		expectOne(t, "may "+name+" 7", "ErrShape")
	}
	expectOne(t, "measure 5", strconv.Itoa(measureOf("5")))
	expectOne(t, "measure measure", strconv.Itoa(measureOf("measure")))
	expectOne(t, "raise raise 5", "yes")
	expectOne(t, "may may 5", "ok")
}

// TestNoName: what is empty is none, and a blank is of no name.
func TestNoName(t *testing.T) {
	for _, line := range []string{
		"measure", "measure ", "measure  ", "measure  a", "measure a ", "measure a b", "measure a  b",
		"raise", "raise ", "raise  ", "raise 5", "raise  5", "raise os", "raise os ", "raise a b 5", "raise os  5", "raise  os 5", "raise 5 os",
		"may", "may ", "may  ", "may 5", "may  5", "may os", "may os ", "may a b 5", "may os  5", "may  os 5", "may 5 os",
	} {
		expectOne(t, line, "bad")
	}
}

// TestErrors: each is answered by its name, and the one that the chapter names first is told.
func TestErrors(t *testing.T) {
	for _, c := range [][2]string{
		{"extend 8 5", "ErrRange"},
		{"extend 9999999 5", "ErrRange"},
		{"extend 7 1000003", "ErrRange"},
		{"extend 8 1000003", "ErrRange"},
		{"extend 7 1000002", "0"},
		{"extend 0 0", "1"},
		{"digest 256", "ErrRange"},
		{"digest 9999999", "ErrRange"},
		{"digest 255", strconv.Itoa(digest(api.Bank{}, 255))},
		{"digest 0", "0"},
		{"measure " + long25, "ErrFull"},
		{"measure " + long25[:24], strconv.Itoa(measureOf(long25[:24]))},
		{"raise ninelongs 5", "ErrShape"},
		{"raise eightlon 5", "yes"},
		{"raise os 1001", "ErrRange"},
		{"raise os 1000", "yes"},
		{"raise os 0", "no"},
		{"raise Os 1001", "ErrShape"},
		{"may ninelongs 5", "ErrShape"},
		{"may eightlon 5", "ok"},
		{"may os 0", "ErrRange"},
		{"may os 1", "ok"},
		{"may os 1000", "ok"},
		{"may os 1001", "ErrRange"},
		{"may Os 0", "ErrShape"},
		{"public 0", "ErrRange"},
		{"public 1", "64"},
		{"public 256", strconv.Itoa(power(64, 256))},
		{"public 257", "ErrRange"},
		{"sign 0 1 1", "ErrRange"},
		{"sign 257 1 1", "ErrRange"},
		{"sign 1 0 1", "ErrRange"},
		{"sign 1 257 1", "ErrRange"},
		{"sign 1 1 1000003", "ErrRange"},
		{"sign 256 256 1000002", seals(256, 256, 1000002)},
		{"check 0 1 1 1", "ErrRange"},
		{"check 1543 1 1 1", "ErrRange"},
		{"check 1 1000003 1 1", "ErrRange"},
		{"check 1 1 0 1", "ErrRange"},
		{"check 1 1 1543 1", "ErrRange"},
		{"check 1 1 1 257", "ErrRange"},
		{"check 1 1 1 0", "yes"},
		{"check 1 0 1 0", "yes"},
		{"check 1 1 1 1", "no"},
		{"check 1542 1000002 1542 256", isSealed(1542, 1000002, 1542, 256)},
	} {
		expectOne(t, c[0], c[1])
	}
}

// TestBadAheadOfErrors: a line of which a word cannot be read comes to no layer.
func TestBadAheadOfErrors(t *testing.T) {
	for _, line := range []string{
		"extend 8 x", "extend x 1000003", "extend 8 5 5", "extend 8", "digest 256 1", "measure " + long25 + " a",
		"raise ninelongs x", "raise Os 01", "raise os 01001", "raise ninelongs", "may ninelongs x", "may os 00", "may Os",
		"public 0 0", "public 00", "sign 0 0", "sign 0 0 x", "sign 0 x 0", "sign x 0 0", "check 0 0 0", "check 0 0 0 x", "check x 0 0 0", "check 0 0 0 0 0",
	} {
		expectOne(t, line, "bad")
	}
}

// TestBankIsKept: registers go further line by line, each of its own; what is refused changes none.
func TestBankIsKept(t *testing.T) {
	var b api.Bank
	rows := [][2]string{}
	ask := func() {
		for _, mask := range []int{0, 1, 2, 128, 129, 255} {
			rows = append(rows, [2]string{fmt.Sprint("digest ", mask), strconv.Itoa(digest(b, mask))})
		}
	}
	for i := range 8 {
		m := 1000 + 77777*i
		b[i] = two(b[i], m)
		rows = append(rows, [2]string{fmt.Sprint("extend ", i, " ", m), strconv.Itoa(b[i])})
	}
	ask()
	for _, line := range []string{"extend 8 5", "extend 0 1000003", "digest 256"} {
		rows = append(rows, [2]string{line, "ErrRange"})
	}
	rows = append(rows, [2]string{"extend 0", "bad"}, [2]string{"extend 0 x", "bad"}, [2]string{"extend 0 5 5", "bad"})
	ask()
	for i := range 8 {
		b[i] = two(b[i], i)
		rows = append(rows, [2]string{fmt.Sprint("extend ", i, " ", i), strconv.Itoa(b[i])})
	}
	ask()
	expectRows(t, rows)
}

// TestRegistersAndMasks: each register, and each mask, is the one that is named.
func TestRegistersAndMasks(t *testing.T) {
	var b api.Bank
	ahead := ""
	for i := range 8 {
		b[i] = two(0, 100+i)
		ahead += fmt.Sprint("extend ", i, " ", 100+i, "\n")
	}
	for mask := range 256 {
		got := Run(ahead + fmt.Sprint("digest ", mask))
		if want := fmt.Sprint("\n", digest(b, mask), "\n"); !strings.HasSuffix(got, want) {
			t.Errorf("digest %d: got %q; want %q behind the others", mask, got, want)
		}
	}
}

// TestCountsAreKept: they never go back; what is refused, or only asked, raises none.
func TestCountsAreKept(t *testing.T) {
	expectRows(t, [][2]string{
		{"may os 1", "ok"},
		{"raise os 0", "no"},
		{"raise os 5", "yes"},
		{"raise os 5", "no"},
		{"raise os 4", "no"},
		{"raise os 0", "no"},
		{"may os 4", "ErrOld"},
		{"may os 5", "ok"},
		{"may os 1000", "ok"},
		{"raise os 6", "yes"},
		{"may os 5", "ErrOld"},
		{"may boot 1", "ok"},
		{"raise boot 1", "yes"},
		{"raise os 1001", "ErrRange"},
		{"raise os 10x", "bad"},
		{"raise os", "bad"},
		{"raise os 1000 ", "bad"},
		{"raise ninelongs 9", "ErrShape"},
		{"may os 6", "ok"},
		{"may os 0", "ErrRange"},
		{"raise os 1000", "yes"},
		{"raise os 1000", "no"},
		{"may os 999", "ErrOld"},
		{"may os 1000", "ok"},
	})
}

// TestTwelveNames: a thirteenth is not above 0.
func TestTwelveNames(t *testing.T) {
	rows := [][2]string{}
	for i := range 12 {
		rows = append(rows, [2]string{"raise " + long25[i:i+1] + " 3", "yes"})
	}
	expectRows(t, append(rows, [][2]string{
		{"raise z 1", "ErrFull"},
		{"raise z 0", "no"},
		{"raise z 1001", "ErrRange"},
		{"raise Z 1", "ErrShape"},
		{"may z 1", "ok"},
		{"raise a 4", "yes"},
		{"may a 3", "ErrOld"},
		{"raise l 3", "no"},
		{"raise l 1000", "yes"},
		{"raise zz 1", "ErrFull"},
	}...))
}

// TestSeals: what is signed is checked, by its public key, and only as it was.
func TestSeals(t *testing.T) {
	for x := 1; x <= 256; x++ {
		k, m := 1+x*31%256, x*3907%1000003
		public, s := power(64, x), seals(x, k, m)
		expectRows(t, [][2]string{
			{fmt.Sprint("public ", x), strconv.Itoa(public)},
			{fmt.Sprint("sign ", x, " ", k, " ", m), s},
			{fmt.Sprint("check ", public, " ", m, " ", s), "yes"},
			{fmt.Sprint("check ", public, " ", m+1, " ", s), isSealedBy(public, m+1, s)},
			{fmt.Sprint("check ", 1+public%1542, " ", m, " ", s), isSealedBy(1+public%1542, m, s)},
		})
	}
	// Other places of the same numbers are other seals.
	expectOne(t, "sign 5 7 355", "1478 178")
	expectOne(t, "sign 7 5 355", seals(7, 5, 355))
	expectOne(t, "check 527 355 1478 178", "yes")
	expectOne(t, "check 527 355 1478 179", "no")
	expectOne(t, "check 527 356 1478 178", "no")
	expectOne(t, "check 1478 355 527 178", "no")
	expectOne(t, "check 355 527 1478 178", "no")
}

// TestTextsAreApart: each text has a bank and Counts of its own.
func TestTextsAreApart(t *testing.T) {
	for range 3 {
		expect(t, "extend 0 5\nextend 0 5\ndigest 1\nraise os 5\nmay os 4\n", "6\n47520\n47521\nyes\nErrOld\n")
		expect(t, "digest 1\nmay os 4\n", "1\nok\n")
		expect(t, strings.Repeat("raise os 9\n", 300), "too long\n")
		expect(t, "may os 4", "ok\n")
	}
}

// wrapping is an error of which only errors.As tells the number.
type wrapping struct{ inner error }

func (w wrapping) Error() string { return "wrapped" }
func (w wrapping) Unwrap() error { return w.inner }

// TestLineError: the name of each error is told, wrapped or not; what has none is told as it is.
func TestLineError(t *testing.T) {
	names := []string{"ErrRange", "ErrSyntax", "ErrShape", "ErrFull", "ErrNone", "ErrState", "ErrClash", "ErrSeal", "ErrOld"}
	for i, name := range names {
		e := api.Errno(i + 1)
		for _, err := range []error{e, wrapping{e}, wrapping{wrapping{e}}, lineError{e}} {
			if got := (lineError{err}).answer(); got != name {
				t.Errorf("%#v: got %q; want %q", err, got, name)
			}
		}
		if !errors.Is(lineError{e}, e) {
			t.Errorf("%v is not what its line's error wraps", e)
		}
	}
	if got := (lineError{errBad}).answer(); got != "bad" {
		t.Errorf("of a bad line: got %q", got)
	}
}

// TestLinesStop: who goes over the lines may leave.
func TestLinesStop(t *testing.T) {
	for n := range 3 {
		got := []string{}
		for line := range lines("a\nb\nc\n") {
			if got = append(got, line); len(got) > n {
				break
			}
		}
		if strings.Join(got, "") != "abc"[:n+1] {
			t.Errorf("left behind %d: got %q", n, got)
		}
	}
}

// TestBeginning is Z2: the answers to the first lines are the beginning of the answers to all.
func TestBeginning(t *testing.T) {
	g := &dice{7}
	for range 150 {
		text := g.text(1 + g.below(120))
		all := Run(text)
		for i := range len(text) + 1 {
			if i > 0 && text[i-1] != '\n' {
				continue
			}
			first := Run(text[:i])
			if !strings.HasPrefix(all, first) || strings.Count(first, "\n") != strings.Count(text[:i], "\n") {
				t.Fatalf("the first %d bytes of %q: got %q; of all %q", i, text, first, all)
			}
		}
	}
}

// TestOneByOne is Z2 the other way: one line more is one answer more, and no other one ahead of it.
func TestOneByOne(t *testing.T) {
	g := &dice{11}
	for range 100 {
		text, answers := "", ""
		for {
			line := g.line() + "\n"
			if len(text)+len(line) > 3000 {
				expect(t, text+strings.Repeat("\n", 3001-len(text)), "too long\n")
				break
			}
			text += line
			got := Run(text)
			one, ahead := strings.CutPrefix(got, answers)
			if !ahead || strings.Count(one, "\n") != 1 || !strings.HasSuffix(one, "\n") {
				t.Fatalf("%q: got %q; want one line behind %q", text, got, answers)
			}
			answers = got
		}
	}
}

// TestSketch holds long rows of lines against the chapter's words.
func TestSketch(t *testing.T) {
	g := &dice{1}
	for range 3000 {
		text := g.text(1 + g.below(100))
		if g.below(2) == 0 {
			text = strings.TrimSuffix(text, "\n")
		}
		if got, want := Run(text), sketch(text); got != want {
			t.Fatalf("Run(%q): got %q; want %q", text, got, want)
		}
	}
}

// TestSpoilt: whatever bytes a text has, it is answered, and as the chapter says.
func TestSpoilt(t *testing.T) {
	g := &dice{3}
	for range 3000 {
		text := []byte(g.text(1 + g.below(12)))
		for range 1 + g.below(6) {
			text[g.below(len(text))] = []byte{' ', '\n', '0', '1', 'x', 0, 255, byte(g.below(256))}[g.below(8)]
		}
		if got, want := Run(string(text)), sketch(string(text)); got != want {
			t.Fatalf("Run(%q): got %q; want %q", text, got, want)
		}
	}
}

// dice makes lines, the same ones each time.
type dice struct{ state uint64 }

func (g *dice) below(n int) int {
	g.state = g.state*6364136223846793005 + 1442695040888963407
	return int(g.state>>33) % n
}

func (g *dice) of(l ...string) string { return l[g.below(len(l))] }

func (g *dice) number(most int) string {
	switch g.below(40) {
	case 0:
		return g.of("0", "7", "8", "255", "256", "257", "1000", "1001", "1542", "1543", "1000002", "1000003", "9999999")
	case 1:
		return g.of("", "x", "00", "01", "-1", "+1", "10000000", "1.")
	}
	return strconv.Itoa(g.below(most))
}

func (g *dice) name() string {
	return g.of("os", "a", "boot", "b", "c", "d", "e", "f", "g", "h", "i", "j", "k", "l", "eightlon", "ninelongs", "Os", "", "é", "\xff", long25, long25[:24])
}

func (g *dice) line() string {
	switch g.below(9) {
	case 0, 1:
		return "extend " + g.number(8) + " " + g.number(1000003)
	case 2:
		return "digest " + g.number(256)
	case 3:
		return "measure " + g.name()
	case 4:
		return "raise " + g.name() + " " + g.number(20)
	case 5:
		return "may " + g.name() + " " + g.number(20)
	case 6:
		return g.of("public "+g.number(257), "sign "+g.number(257)+" "+g.number(257)+" "+g.number(1000003))
	case 7:
		x, k, m := 1+g.below(256), 1+g.below(256), g.below(1000003)
		return g.of(fmt.Sprint("check ", power(64, x), " ", m, " ", seals(x, k, m)),
			"check "+g.number(1543)+" "+g.number(1000003)+" "+g.number(1543)+" "+g.number(257))
	}
	return g.of("", " ", "fly", "extend", "extend 1", "digest", "digest 1 1", "measure a b", "raise os", "may os 1 1", "sign 1 2", "check 1 2 3", "check 1 2 3 4 5", "public", "Public 1", " public 1", "public  1")
}

func (g *dice) text(n int) string {
	text := ""
	for range n {
		line := g.line() + "\n"
		if len(text)+len(line) > 3000 {
			return text
		}
		text += line
	}
	return text
}

// table is the chapter's: what a line must be, as a whole. Bytes are written as runes of the same number, so that each is one.
var table = func() map[string]*regexp.Regexp {
	forms := map[string]*regexp.Regexp{}
	for _, form := range []string{"extend N N", "digest N", "measure NAME", "raise NAME N", "may NAME N", "public N", "sign N N N", "check N N N N"} {
		first, behind, _ := strings.Cut(form, " ")
		behind = strings.ReplaceAll(behind, "NAME", "([^ ]+)")
		behind = strings.ReplaceAll(behind, "N", "(0|[1-9][0-9]{0,6})")
		forms[first] = regexp.MustCompile(`(?s)\A` + first + " " + behind + `\z`)
	}
	return forms
}()

// sketch is what the chapter says, put otherwise.
func sketch(text string) string {
	if len(text) > 3000 {
		return "too long\n"
	}
	s := sketched{least: map[string]int{}}
	pieces := strings.Split(text, "\n")
	if pieces[len(pieces)-1] == "" {
		pieces = pieces[:len(pieces)-1]
	}
	answers := ""
	for _, p := range pieces {
		answers += s.line(p) + "\n"
	}
	return answers
}

type sketched struct {
	bank  api.Bank
	least map[string]int
}

func (s *sketched) line(line string) string {
	wide := []rune{}
	for i := range len(line) {
		wide = append(wide, rune(line[i]))
	}
	for first, form := range table {
		parts := form.FindStringSubmatch(string(wide))
		if parts == nil {
			continue
		}
		n := []int{}
		for _, p := range parts[1:] {
			v, _ := strconv.Atoi(p)
			n = append(n, v)
		}
		name, _, _ := strings.Cut(strings.TrimPrefix(line, first+" "), " ")
		return s.do(first, name, n)
	}
	return "bad"
}

func (s *sketched) do(first, name string, n []int) string {
	switch first {
	case "extend":
		if n[0] > 7 || n[1] > 1000002 {
			return "ErrRange"
		}
		s.bank[n[0]] = two(s.bank[n[0]], n[1])
		return strconv.Itoa(s.bank[n[0]])
	case "digest":
		if n[0] > 255 {
			return "ErrRange"
		}
		return strconv.Itoa(digest(s.bank, n[0]))
	case "measure":
		if len(name) > 24 {
			return "ErrFull"
		}
		return strconv.Itoa(measureOf(name))
	case "raise":
		return s.raise(name, n[1])
	case "may":
		return s.may(name, n[1])
	case "public":
		if n[0] < 1 || n[0] > 256 {
			return "ErrRange"
		}
		return strconv.Itoa(power(64, n[0]))
	case "sign":
		if n[0] < 1 || n[0] > 256 || n[1] < 1 || n[1] > 256 || n[2] > 1000002 {
			return "ErrRange"
		}
		return seals(n[0], n[1], n[2])
	}
	if n[0] < 1 || n[0] > 1542 || n[1] > 1000002 || n[2] < 1 || n[2] > 1542 || n[3] > 256 {
		return "ErrRange"
	}
	return isSealed(n[0], n[1], n[2], n[3])
}

var countName = regexp.MustCompile(`\A[a-z]{1,8}\z`)

func (s *sketched) raise(name string, v int) string {
	above := 0
	for _, least := range s.least {
		if least > 0 {
			above++
		}
	}
	switch {
	case !countName.MatchString(name):
		return "ErrShape"
	case v > 1000:
		return "ErrRange"
	case v <= s.least[name]:
		return "no"
	case s.least[name] == 0 && above == 12:
		return "ErrFull"
	}
	s.least[name] = v
	return "yes"
}

func (s *sketched) may(name string, v int) string {
	switch {
	case !countName.MatchString(name):
		return "ErrShape"
	case v < 1 || v > 1000:
		return "ErrRange"
	case v < s.least[name]:
		return "ErrOld"
	}
	return "ok"
}

func measureOf(text string) int {
	m := 1
	for _, c := range []byte(text) {
		m = (257*m + int(c) + 1) % 1000003
	}
	return m
}

func two(a, b int) int { return (7919*a + b + 1) % 1000003 }

func digest(b api.Bank, mask int) int {
	m := 0
	for i, bit := 0, 1; i < 8; i, bit = i+1, bit*2 {
		if mask&bit != 0 {
			m = two(m, b[i])
		}
	}
	return m
}

func power(base, exponent int) int {
	return int(new(big.Int).Exp(big.NewInt(int64(base)), big.NewInt(int64(exponent)), big.NewInt(1543)).Int64())
}

func challenge(point, public, m int) int { return two(two(two(0, point), public), m) % 257 }

// seals tells a seal as a line does.
func seals(x, k, m int) string {
	point := power(64, k)
	return fmt.Sprint(point, " ", (k+challenge(point, power(64, x), m)*x)%257)
}

func isSealed(public, m, point, answer int) string {
	if power(64, answer) == point*power(public, challenge(point, public, m))%1543 {
		return "yes"
	}
	return "no"
}

func isSealedBy(public, m int, seal string) string {
	var point, answer int
	fmt.Sscan(seal, &point, &answer)
	return isSealed(public, m, point, answer)
}
