package lines_test

import (
	"regexp"
	"slices"
	"strings"
	"testing"

	"graftage/api"
	"graftage/lines"
)

// noise returns size bytes out of letters, which depend on seed alone.
func noise(size int, letters string, seed uint64) string {
	out := make([]byte, 0, size)
	for range size {
		seed = seed*6364136223846793005 + 1442695040888963407
		out = append(out, letters[(seed>>40)%uint64(len(letters))])
	}
	return string(out)
}

// everyByte returns the bytes 0 to 255.
func everyByte() string {
	var out []byte
	for b := range 256 {
		out = append(out, byte(b))
	}
	return string(out)
}

// words returns all strings of at most most bytes out of letters.
func words(letters string, most int) []string {
	all := []string{""}
	for start, size := 0, 0; size < most; size++ {
		end := len(all)
		for _, word := range all[start:end] {
			for i := range len(letters) {
				all = append(all, word+letters[i:i+1])
			}
		}
		start = end
	}
	return all
}

// texts returns strings with every arrangement of a few bytes, of every byte, and of many sizes.
func texts() []string {
	all := append(words("a\r\n", 8), words("a# \n", 6)...)
	all = append(all, everyByte(), strings.Repeat(everyByte(), 3), "\x00", "\xff\n\xfe", "ä\r\nö\n", "a\n\r\n", "\v\f\n\u0085\u2028")
	for seed := range uint64(300) {
		all = append(all, noise(int(seed), "ab# \t\r\n\n", seed), noise(3*int(seed), everyByte(), seed))
	}
	return append(all, noise(api.MaxBytes, "ab\r\n", 1))
}

// P5.1: the example, and the edges.
func TestSplit(t *testing.T) {
	for s, want := range map[string][]string{
		"":            nil,
		"a":           {"a"},
		"\n":          {"\n"},
		"\n\n":        {"\n", "\n"},
		"a\n\nb":      {"a\n", "\n", "b"},
		"a\n\nb\n":    {"a\n", "\n", "b\n"},
		"\na":         {"\n", "a"},
		"a\r\nb\rc\n": {"a\r\n", "b\rc\n"},
		"\r":          {"\r"},
		"\x00\n\xff":  {"\x00\n", "\xff"},
		"\v\n\f\x85":  {"\v\n", "\f\x85"},
		"\u2028\nä\n": {"\u2028\n", "ä\n"},
	} {
		if got := lines.Split(s); !slices.Equal(got, want) {
			t.Errorf("Split(%q) = %q, want %q", s, got, want)
		}
	}
}

// P5.1: the lines are what a plain cut behind each line feed leaves, without an empty end.
func TestSplitPlain(t *testing.T) {
	for _, s := range texts() {
		want := strings.SplitAfter(s, "\n")
		if want[len(want)-1] == "" {
			want = want[:len(want)-1]
		}
		if got := lines.Split(s); !slices.Equal(got, want) {
			t.Errorf("Split(%.40q) = %.40q", s, got)
		}
	}
}

// P5.2: Join adds nothing and takes nothing off, whatever it is given, and leaves its argument alone.
func TestJoin(t *testing.T) {
	for _, c := range []struct {
		l    []string
		want string
	}{
		{nil, ""},
		{[]string{}, ""},
		{[]string{""}, ""},
		{[]string{"", "", ""}, ""},
		{[]string{"a", "b"}, "ab"},
		{[]string{"a\n", "", "\n", "b\n\n", "\r", "\nc"}, "a\n\nb\n\n\r\nc"},
		{[]string{"\x00", everyByte(), "\xff"}, "\x00" + everyByte() + "\xff"},
		{[]string{strings.Repeat("x", 5000), "y"}, strings.Repeat("x", 5000) + "y"},
	} {
		before := slices.Clone(c.l)
		if got := lines.Join(c.l); got != c.want {
			t.Errorf("Join(%.40q) = %.40q, want %.40q", c.l, got, c.want)
		}
		if !slices.Equal(c.l, before) {
			t.Errorf("Join changes %.40q to %.40q", before, c.l)
		}
	}
	many := slices.Repeat([]string{"a\n", "b"}, 1<<16)
	if got := lines.Join(many); got != strings.Repeat("a\nb", 1<<16) {
		t.Errorf("Join of many lines = %d bytes", len(got))
	}
}

// P5.3: the last carriage return before a line feed goes, and nothing else.
func TestToLF(t *testing.T) {
	for s, want := range map[string]string{
		"":              "",
		"a\r\r\n":       "a\r\n",
		"\r\n":          "\n",
		"\r":            "\r",
		"\n":            "\n",
		"a\r":           "a\r",
		"\ra\n":         "\ra\n",
		"\n\r":          "\n\r",
		"a\r\nb\r\n":    "a\nb\n",
		"\r\n\r\n\r":    "\n\n\r",
		"\r\r\r\n":      "\r\r\n",
		"\r\x00\n":      "\r\x00\n",
		"\xff\r\n\xfe":  "\xff\n\xfe",
		"a\nb\r\nc\rd":  "a\nb\nc\rd",
		"\r\n\n\r\r\na": "\n\n\r\na",
	} {
		if got := lines.ToLF(s); got != want {
			t.Errorf("ToLF(%q) = %q, want %q", s, got, want)
		}
	}
	for _, s := range texts() {
		if got := lines.ToLF(s); got != strings.ReplaceAll(s, "\r\n", "\n") {
			t.Errorf("ToLF(%.40q) = %.40q", s, got)
		}
	}
}

// P5.4: each line feed without a carriage return gets one.
func TestToCRLF(t *testing.T) {
	for s, want := range map[string]string{
		"":             "",
		"a\r\nb\n":     "a\r\nb\r\n",
		"\n":           "\r\n",
		"\r\n":         "\r\n",
		"\r":           "\r",
		"\n\n":         "\r\n\r\n",
		"\n\r":         "\r\n\r",
		"\r\r\n":       "\r\r\n",
		"\ra\n":        "\ra\r\n",
		"a":            "a",
		"\r\n\n":       "\r\n\r\n",
		"\xff\n\x00\n": "\xff\r\n\x00\r\n",
	} {
		if got := lines.ToCRLF(s); got != want {
			t.Errorf("ToCRLF(%q) = %q, want %q", s, got, want)
		}
	}
	for _, s := range texts() {
		want := strings.ReplaceAll(strings.ReplaceAll(s, "\r\n", "\n"), "\n", "\r\n")
		if got := lines.ToCRLF(s); got != want {
			t.Errorf("ToCRLF(%.40q) = %.40q", s, got)
		}
	}
}

// P5.5: a zero byte makes a string binary if it is one of the first 8000; no other byte does.
func TestBinary(t *testing.T) {
	noZero := strings.ReplaceAll(everyByte(), "\x00", "")
	for s, want := range map[string]bool{
		"":           false,
		"\x00":       true,
		"a\x00":      true,
		"0":          false,
		noZero:       false,
		noZero + "0": false,
	} {
		if got := lines.Binary(s); got != want {
			t.Errorf("Binary(%q) = %t", s, got)
		}
	}
	for _, at := range []int{0, 1, 4000, 7998, 7999, 8000, 8001, 9000} {
		for _, behind := range []int{0, 1, 10000} {
			s := strings.Repeat("a", at) + "\x00" + strings.Repeat("b", behind)
			if got := lines.Binary(s); got != (at < 8000) {
				t.Errorf("Binary of a zero at offset %d with %d bytes behind it = %t", at, behind, got)
			}
		}
	}
	if lines.Binary(strings.Repeat("a", 8000)) || lines.Binary(strings.Repeat("a", 8000)+strings.Repeat("\x00", 8000)) {
		t.Error("what stands behind the first 8000 bytes makes a string binary")
	}
}

// P5.6, P5.9: RoundTrips says what the conversions do, and that is whether no carriage return stands before a line feed.
func TestRoundTrips(t *testing.T) {
	for s, want := range map[string]bool{
		"":         true,
		"\r":       true,
		"\n":       true,
		"\n\r":     true,
		"\r\n":     false,
		"a\r\r\n":  false,
		"a\nb\r\n": false,
		"\r\nb":    false,
		"a\rb\n":   true,
		"a\n\n\r":  true,
	} {
		if got := lines.RoundTrips(s); got != want {
			t.Errorf("RoundTrips(%q) = %t", s, got)
		}
	}
	for _, s := range texts() {
		got := lines.RoundTrips(s)
		if got != (lines.ToLF(lines.ToCRLF(s)) == s) || got == strings.Contains(s, "\r\n") {
			t.Errorf("RoundTrips(%.40q) = %t", s, got)
		}
	}
}

// P5.7: the example, and each of the steps.
func TestClean(t *testing.T) {
	for s, want := range map[string]string{
		"":                       "",
		"\n# x\na \n\n\n b":      "a\n\n b\n",
		"a":                      "a\n",
		"a\n":                    "a\n",
		"#":                      "",
		"#\n":                    "",
		"#a\n#b":                 "",
		"a\n#":                   "a\n",
		"a\n#b\nc":               "a\nc\n",
		" #a":                    " #a\n",
		"\t#a\n":                 "\t#a\n",
		"a#b\n":                  "a#b\n",
		"\r#a\n":                 "\r#a\n",
		"\n":                     "",
		" \t\r":                  "",
		" \t\r\n\r\n \n\t":       "",
		"a \t\r\n":               "a\n",
		"a \t\r":                 "a\n",
		"a\r\nb\r\n":             "a\nb\n",
		"a \r\t b \r\t \n":       "a \r\t b\n",
		"  a\n":                  "  a\n",
		"\n\n\na\n\n\n":          "a\n",
		"a\n\n\n\nb":             "a\n\nb\n",
		"a\n \n\t\n\r\nb\n  ":    "a\n\nb\n",
		"a\n\n# x\n\nb":          "a\n\nb\n",
		"a\n# x\nb":              "a\nb\n",
		"# x\n\na\n\n# y\n":      "a\n",
		"a\n\nb\n\nc\n\n":        "a\n\nb\n\nc\n",
		"a\n\n\nb\nc\n\n\nd":     "a\n\nb\nc\n\nd\n",
		"a\v\nb\f\nc\x00\nd\xa0": "a\v\nb\f\nc\x00\nd\xa0\n",
		"a\u00a0\n\u2003\n":      "a\u00a0\n\u2003\n",
	} {
		if got := lines.Clean(s); got != want {
			t.Errorf("Clean(%q) = %q, want %q", s, got, want)
		}
	}
}

// plainClean follows P5.7 step by step.
func plainClean(s string) string {
	s = regexp.MustCompile(`(?m)^#[^\n]*(\n|\z)`).ReplaceAllString(s, "")
	s = regexp.MustCompile(`(?m)[ \t\r]+$`).ReplaceAllString(s, "")
	s = strings.Trim(s, "\n")
	if s == "" {
		return ""
	}
	return regexp.MustCompile(`\n{3,}`).ReplaceAllString(s, "\n\n") + "\n"
}

// cleanTexts returns messages with every arrangement of what Clean looks at.
func cleanTexts() []string {
	all := append(words("a# \n", 7), words("#\r\t\n", 6)...)
	for seed := range uint64(500) {
		all = append(all, noise(int(seed), "aab# \t\r\n\n\n", seed), noise(int(seed), "a#\n", seed))
	}
	return append(all, noise(api.MaxBytes, "a# \n\n", 2))
}

// P5.7: any message, against the steps.
func TestCleanPlain(t *testing.T) {
	for _, s := range cleanTexts() {
		if got, want := lines.Clean(s), plainClean(s); got != want {
			t.Errorf("Clean(%.60q) = %.60q, want %.60q", s, got, want)
		}
	}
}

// P5.8: the first line that isn't blank; white space doesn't make a line blank, a line feed alone does.
func TestFirst(t *testing.T) {
	for s, want := range map[string]string{
		"":               "",
		"\n":             "",
		"\n\n\n":         "",
		"a":              "a",
		"a\n":            "a",
		"a\nb":           "a",
		"\n\na\nb\n":     "a",
		"\n\nb":          "b",
		" \na":           " ",
		"\t":             "\t",
		"\r\na\n":        "\r",
		"\n\r":           "\r",
		"# x\na":         "# x",
		"\n\x00\n":       "\x00",
		"\n a \r\n":      " a \r",
		"\n\n\xff\xfe\n": "\xff\xfe",
	} {
		if got := lines.First(s); got != want {
			t.Errorf("First(%q) = %q, want %q", s, got, want)
		}
	}
	for _, s := range texts() {
		want, _, _ := strings.Cut(strings.TrimLeft(s, "\n"), "\n")
		if got := lines.First(s); got != want {
			t.Errorf("First(%.40q) = %.40q, want %.40q", s, got, want)
		}
	}
}

// P5.9: what Split takes apart Join puts together, and the other way round for a valid list of lines.
func TestRoundTrip(t *testing.T) {
	for _, s := range texts() {
		l := lines.Split(s)
		if lines.Join(l) != s {
			t.Errorf("Join(Split(%.40q)) = %.40q", s, lines.Join(l))
		}
		for i, line := range l {
			if feed := strings.IndexByte(line, '\n'); line == "" || feed != len(line)-1 && (feed >= 0 || i < len(l)-1) {
				t.Errorf("line %d of %.40q is %.40q", i, s, line)
			}
		}
	}
	for _, l := range [][]string{nil, {"a"}, {"\n"}, {"a\n"}, {"\n", "\n", "\r"}, {"a\r\n", "\n", "\x00\n", "b"}, {"a\n", "b\n"}} {
		if got := lines.Split(lines.Join(l)); !slices.Equal(got, l) {
			t.Errorf("Split(Join(%q)) = %q", l, got)
		}
	}
}

// P5.9: no list of lines that isn't valid comes back.
func TestRoundTripInvalid(t *testing.T) {
	for _, l := range [][]string{{""}, {"a", "b\n"}, {"a\nb"}, {"a\n", ""}, {"", "a"}, {"\n\n"}, {"a", "b"}} {
		if got := lines.Split(lines.Join(l)); slices.Equal(got, l) {
			t.Errorf("Split(Join(%q)) is the same", l)
		}
	}
}

// P5.10: what is done twice is no more than what is done once.
func TestIdempotence(t *testing.T) {
	for _, s := range append(texts(), cleanTexts()...) {
		if bare := strings.ReplaceAll(s, "\r", ""); lines.ToLF(bare) != bare {
			t.Errorf("ToLF changes %.40q", bare)
		}
		long := lines.ToCRLF(s)
		if lines.ToCRLF(long) != long {
			t.Errorf("ToCRLF changes %.40q", long)
		}
		if lines.ToLF(long) != lines.ToLF(s) {
			t.Errorf("ToLF(%.40q) = %.40q", long, lines.ToLF(long))
		}
		if clean := lines.Clean(s); lines.Clean(clean) != clean {
			t.Errorf("Clean changes %.40q", clean)
		}
	}
}

// P5.11: the normal form of a message.
func TestNormalForm(t *testing.T) {
	for _, s := range append(texts(), cleanTexts()...) {
		clean := lines.Clean(s)
		l := lines.Split(clean)
		if len(l) == 0 {
			if clean != "" || lines.First(clean) != "" {
				t.Errorf("Clean(%.40q) = %q, whose first line is %q", s, clean, lines.First(clean))
			}
			continue
		}
		if l[0] == "\n" || l[len(l)-1] == "\n" || strings.Contains(clean, "\n\n\n") || !strings.HasSuffix(clean, "\n") {
			t.Errorf("Clean(%.40q) = %.40q has superfluous blank lines or no end", s, clean)
		}
		for _, line := range l {
			if line[0] == '#' || strings.TrimRight(line, " \t\r\n")+"\n" != line {
				t.Errorf("Clean(%.40q) has the line %.40q", s, line)
			}
		}
		if lines.First(clean)+"\n" != l[0] {
			t.Errorf("First of %.40q = %.40q", clean, lines.First(clean))
		}
	}
}

// R3: the lists of two calls share nothing.
func TestSplitNewMemory(t *testing.T) {
	one, two := lines.Split("a\nb\n"), lines.Split("a\nb\n")
	one[0] = "x"
	if two[0] != "a\n" {
		t.Error("two answers share memory")
	}
}
