package glob_test

import (
	"slices"
	"strings"
	"testing"

	"graftage/api"
	"graftage/glob"
	"graftage/path"
)

// words returns all strings of at most most bytes out of letters.
func words(letters string, most int) []string {
	all := []string{""}
	for start, size := 0, 0; size < most; size++ {
		end := len(all)
		for _, word := range all[start:end] {
			for i := range len(letters) {
				all = append(all, word+letters[i:i+1])
			}
		}
		start = end
	}
	return all
}

// chains returns all paths of 1 to most of the parts.
func chains(parts []string, most int) []string {
	all := slices.Clone(parts)
	for start, size := 0, 1; size < most; size++ {
		end := len(all)
		for _, chain := range all[start:end] {
			for _, part := range parts {
				all = append(all, chain+"/"+part)
			}
		}
		start = end
	}
	return all
}

// byteText returns the string of one byte.
func byteText(b int) string {
	return string([]byte{byte(b)})
}

// place is what stands at one place of a part pattern: a star, or the bytes that match there.
type place struct {
	star bool
	has  [256]bool
}

// plainChar is a byte of a class, and whether a backslash stood before it.
type plainChar struct {
	b       byte
	escaped bool
}

// plainChars returns the bytes that s stands for, or false if a backslash ends it.
func plainChars(s string) ([]plainChar, bool) {
	var l []plainChar
	for s != "" {
		if s == `\` {
			return nil, false
		}
		escaped := s[0] == '\\'
		if escaped {
			s = s[1:]
		}
		l = append(l, plainChar{s[0], escaped})
		s = s[1:]
	}
	return l, true
}

// plainClass cuts the class at the start of s off, and returns its place and what is left.
func plainClass(s string) (place, string, bool) {
	rest := s[1:]
	negated := strings.HasPrefix(rest, "!") || strings.HasPrefix(rest, "^")
	if negated {
		rest = rest[1:]
	}
	end := 0
	for first := true; end < len(rest) && (first || rest[end] != ']'); first = false {
		if rest[end] == '\\' {
			end++
		}
		end++
	}
	if end >= len(rest) {
		return place{}, "", false
	}
	chars, _ := plainChars(rest[:end])
	var one place
	for k := 0; k < len(chars); k++ {
		low, high := int(chars[k].b), int(chars[k].b)
		if k+2 < len(chars) && chars[k+1] == (plainChar{'-', false}) {
			high = int(chars[k+2].b)
			k += 2
		}
		for b := low; b <= high; b++ {
			one.has[b] = true
		}
	}
	for b := range one.has {
		one.has[b] = one.has[b] != negated
	}
	return one, rest[end+1:], true
}

// plainPlaces returns the places of a part pattern, or false if s is none.
func plainPlaces(s string) ([]place, bool) {
	if s == "" {
		return nil, false
	}
	var l []place
	for s != "" {
		var one place
		switch s[0] {
		case '*':
			one.star = true
		case '?':
			for b := range one.has {
				one.has[b] = true
			}
		case '[':
			class, rest, ok := plainClass(s)
			if !ok {
				return nil, false
			}
			l, s = append(l, class), rest
			continue
		case '\\':
			if s = s[1:]; s == "" {
				return nil, false
			}
			one.has[s[0]] = true
		default:
			one.has[s[0]] = true
		}
		l, s = append(l, one), s[1:]
	}
	return l, true
}

// plainFits tries all ways in which a text may match.
func plainFits(l []place, s string) bool {
	if len(l) == 0 {
		return s == ""
	}
	if !l[0].star {
		return s != "" && l[0].has[s[0]] && plainFits(l[1:], s[1:])
	}
	for k := range len(s) + 1 {
		if plainFits(l[1:], s[k:]) {
			return true
		}
	}
	return false
}

// plainIs follows P7.1.
func plainIs(p string) bool {
	for _, part := range strings.Split(p, "/") {
		if _, ok := plainPlaces(part); !ok {
			return false
		}
	}
	return len(p) <= api.MaxPath
}

// plainMatch tries all ways in which the parts of a path may match those of a valid pattern.
func plainMatch(patterns, parts []string) bool {
	if len(patterns) == 0 {
		return len(parts) == 0
	}
	if patterns[0] != "**" {
		l, _ := plainPlaces(patterns[0])
		return len(parts) > 0 && plainFits(l, parts[0]) && plainMatch(patterns[1:], parts[1:])
	}
	for k := range len(parts) + 1 {
		if plainMatch(patterns[1:], parts[k:]) {
			return true
		}
	}
	return false
}

// P7.1: what is a path pattern, at the limits and around classes and backslashes.
func TestIs(t *testing.T) {
	for _, p := range []string{
		"a", "a/b.c", "?", "*", "**", "***", "a/**/b", "**/**", "]", "a]", "!", "^", "-", "a-b", "}", "{a,b}",
		`\a`, `\*`, `\\`, `a\\`, `\[`, `\]`, `\[a`, `a/\b/\\`, `\\\\`,
		"[a]", "[!a]", "[^a]", "[]]", "[!]]", "[^]]", "[[]", "[!!]", "[^^]", "[a-c]", "[-]", "[--]", "[---]", "[a-]", "[!-]", "[c-a]",
		`[\]]`, `[!\]]`, `[\\]`, `[a-\]]`, `[]-a]`, `[]-]`, `[]-]]`, `[[:alpha:]]`, "[?*]", "a[b]c/[d]", "[a]]", "[\x00-\xff]",
		".", "..", ".graft", "\x00", "\n", "\x7f", "\xff", "ä/ö", "a/../b",
		strings.Repeat("a", 65), strings.Repeat("a/", 16) + "a", strings.Repeat("a/", 127) + "a",
		strings.Repeat("a", 254), strings.Repeat("a", 255), strings.Repeat("?", 255), "[" + strings.Repeat("a", 253) + "]", strings.Repeat("ä", 127),
	} {
		if !glob.Is(p) {
			t.Errorf("Is(%q) = false", p)
		}
	}
	for _, p := range []string{
		"", "/", "//", "/a", "a/", "a//b", "**/", "/**", "a/b/",
		`\`, `a\`, `\\\`, `a\/b`, `\/`, `a/\`, `a\\\/b`,
		"[", "a[", "[a", "[]", "[!", "[^", "[!]", "[^]", "[]a", "[a-", "[!a", "[[", "[a/b]", "[a]/[", "[/]", "[!/]", "x/[a/y]",
		`[\`, `[\]`, `[!\]`, `[a\]`, `[a-\]`, `[a-\`, `[]\]`, `[a\/]`,
		strings.Repeat("a", 256), strings.Repeat("a/", 128) + "a", strings.Repeat("ä", 128), strings.Repeat("*", 1<<20), "[" + strings.Repeat("a", 254) + "]",
	} {
		if glob.Is(p) {
			t.Errorf("Is(%.300q) = true", p)
		}
	}
}

// P7.1: every arrangement of the bytes that matter.
func TestIsPlain(t *testing.T) {
	for _, p := range append(words(`/\[]!a-`, 6), words(`/[]\^*?`, 5)...) {
		if got := glob.Is(p); got != plainIs(p) {
			t.Errorf("Is(%q) = %t", p, got)
		}
	}
}

// expectPart fails unless Part answers just this.
func expectPart(t *testing.T, p, s string, want bool) {
	t.Helper()
	if got := glob.Part(p, s); got != want {
		t.Errorf("Part(%.300q, %.60q) = %t", p, s, got)
	}
}

// P7.2: bytes that stand for themselves, and what ? and * match.
func TestPart(t *testing.T) {
	for p, want := range map[string][]string{
		"a":      {"a"},
		"ab":     {"ab"},
		"]":      {"]"},
		"-":      {"-"},
		"!":      {"!"},
		"?":      {"a", "b", "]", "-", "!", "*", `\`},
		"*":      {"", "a", "b", "ab", "aab", "ba", "a*", `a\`, "]", "-", "!", "*", `\`, "**"},
		"**":     {"", "a", "b", "ab", "aab", "ba", "a*", `a\`, "]", "-", "!", "*", `\`, "**"},
		"a*":     {"a", "ab", "aab", "a*", `a\`},
		"*b":     {"b", "ab", "aab"},
		"a*b":    {"ab", "aab"},
		"?*":     {"a", "b", "ab", "aab", "ba", "a*", `a\`, "]", "-", "!", "*", `\`, "**"},
		"??":     {"ab", "ba", "a*", `a\`, "**"},
		"*a*b*":  {"ab", "aab"},
		`\a`:     {"a"},
		`a\*`:    {"a*"},
		`\*`:     {"*"},
		`\*\*`:   {"**"},
		`\?`:     {},
		`\\`:     {`\`},
		`a\\`:    {`a\`},
		`*\\`:    {`a\`, `\`},
		"[ab]":   {"a", "b"},
		"[ab]b":  {"ab"},
		"[!a]":   {"b", "]", "-", "!", "*", `\`},
		"[^a]":   {"b", "]", "-", "!", "*", `\`},
		"[!a]*":  {"b", "ba", "]", "-", "!", "*", `\`, "**"},
		"*[!b]":  {"a", "ba", "a*", `a\`, "]", "-", "!", "*", `\`, "**"},
		"*[ab]b": {"ab", "aab"},
	} {
		for _, s := range []string{"", "a", "b", "ab", "aab", "ba", "a*", `a\`, "]", "-", "!", "*", `\`, "**"} {
			expectPart(t, p, s, slices.Contains(want, s))
		}
	}
}

// P7.2: which bytes a class matches, for each form that an item may have.
func TestPartClasses(t *testing.T) {
	for p, want := range map[string]string{
		"[a]":      "a",
		"[abd]":    "abd",
		"[a-c]":    "abc",
		"[a-a]":    "a",
		"[c-a]":    "",
		"[c-ab]":   "b",
		"[a-ce-f]": "abcef",
		"[a-c-e]":  "abce-",
		"[a-]":     "a-",
		"[-a]":     "-a",
		"[-]":      "-",
		"[--]":     "-",
		"[---]":    "-",
		"[--/]":    "", // no part holds a slash
		"[--0]":    "-.0",
		"[+--]":    "+,-",
		"[a--]":    "",
		"[a-c--0]": "abc-.0",
		"[]]":      "]",
		"[]a]":     "]a",
		"[]-a]":    "]^_`a",
		"[]-]":     "]-",
		`[]-\]]`:   "]",
		`[[-\]]`:   `[\]`,
		`[\]]`:     "]",
		`[a\]b]`:   "a]b",
		`[\]-a]`:   "]^_`a",
		`[\a-\c]`:  "abc",
		`[a-\c]`:   "abc",
		`[\a-c]`:   "abc",
		`[a\-c]`:   "a-c",
		`[a-\-]`:   "",
		`[+-\-]`:   "+,-",
		`[\--0]`:   "-.0",
		`[\\]`:     `\`,
		`[\\-^]`:   `\]^`,
		`[[-\\]`:   `[\`,
		`[\!a]`:    "!a",
		`[\^a]`:    "^a",
		"[a!]":     "a!",
		"[a^]":     "a^",
		"[[]":      "[",
		"[[a]":     "[a",
		"[*?]":     "*?",
		"[!-#]":    complementOf("-#"),
		"[#-!]":    "",
		"[ -#]":    " !\"#",
	} {
		for b := range 256 {
			expectPart(t, p, byteText(b), strings.Contains(want, byteText(b)))
		}
		expectPart(t, p, "", false)
		expectPart(t, p, "aa", false)
		expectPart(t, p, "]]", false)
	}
}

// complementOf returns the bytes that are not in s, but for the slash.
func complementOf(s string) string {
	var out []byte
	for b := range 256 {
		if b != '/' && !strings.Contains(s, byteText(b)) {
			out = append(out, byte(b))
		}
	}
	return string(out)
}

// P7.2: a negated class matches all other bytes, and just one.
func TestPartNegated(t *testing.T) {
	for p, left := range map[string]string{
		"[!a]":   "a",
		"[^a]":   "a",
		"[!a-c]": "abc",
		"[!!]":   "!",
		"[!^]":   "^",
		"[^!]":   "!",
		"[^^]":   "^",
		"[!]]":   "]",
		"[^]]":   "]",
		"[!]a]":  "]a",
		"[!]-a]": "]^_`a",
		"[!-]":   "-",
		"[!--]":  "-",
		"[!a-]":  "a-",
		"[!c-a]": "",
		`[!\]]`:  "]",
		`[!\!]`:  "!",
		"[^!a]":  "!a",
	} {
		want := complementOf(left)
		for b := range 256 {
			expectPart(t, p, byteText(b), strings.Contains(want, byteText(b)))
		}
		expectPart(t, p, "", false)
		expectPart(t, p, "bb", false)
	}
}

// P7.2: what follows the bracket that closes a class is no part of it.
func TestPartBehindClass(t *testing.T) {
	expectPart(t, "[a]]", "a]", true)
	expectPart(t, "[a]]", "a", false)
	expectPart(t, "[a]-c]", "a-c]", true)
	expectPart(t, "[a-]]", "a]", true)
	expectPart(t, "[a-]]", "-]", true)
	expectPart(t, "[a-]]", "]", false)
	expectPart(t, "[]-]]", "]]", true)
	expectPart(t, "[]-]]", "-]", true)
	expectPart(t, "[]-]]", "]", false)
	expectPart(t, "[[:alpha:]]", "p]", true)
	expectPart(t, "[[:alpha:]]", ":]", true)
	expectPart(t, "[[:alpha:]]", "p", false)
	expectPart(t, "[a-c]?", "b1", true)
	expectPart(t, "[a][!a]", "ab", true)
	expectPart(t, "[a][!a]", "aa", false)
}

// P7.2: all bytes are equal before ? and *, and each stands for itself.
func TestPartEveryByte(t *testing.T) {
	for b := range 256 {
		s := byteText(b)
		expectPart(t, "?", s, s != "/")
		expectPart(t, "*", s, s != "/")
		for other := range 256 {
			o := byteText(other)
			expectPart(t, `\`+s, o, b == other && s != "/")
			if !strings.Contains(`?*[\`, s) {
				expectPart(t, s, o, b == other && s != "/")
			}
		}
	}
	expectPart(t, "ä", "ä", true)
	expectPart(t, "?", "ä", false)
	expectPart(t, "??", "ä", true)
	expectPart(t, "[ä]", "ä", false)
	expectPart(t, "[ä][ä]", "ä", true)
	expectPart(t, "[!ä]", "\xc3", false)
	expectPart(t, "[!ä]", "\xc2", true)
}

// P7.2: every byte may be a bound of a range, and both bounds belong to it.
func TestPartBounds(t *testing.T) {
	for b := range 256 {
		if b == '/' {
			continue
		}
		for _, bound := range []string{`\` + byteText(b), byteText(b)} {
			if len(bound) == 1 && strings.Contains(`!^\]`, bound) {
				continue // not what a bound is without a backslash, at one of the two places
			}
			for other := range 256 {
				o := byteText(other)
				expectPart(t, "["+bound+"-\xff]", o, b <= other && o != "/")
				expectPart(t, "[\x00-"+bound+"]", o, other <= b && o != "/")
				expectPart(t, "[!\x00-"+bound+"]", o, other > b && o != "/")
			}
		}
	}
}

// P7.2: false for slashes, and for what is no path pattern.
func TestPartWrong(t *testing.T) {
	for _, c := range [][2]string{
		{"a/b", "a/b"}, {"*", "a/b"}, {"*/*", "a/b"}, {"**", "a/b"}, {"a*", "a/"}, {"?", "/"}, {"/", "/"}, {"a/", "a"}, {"[!a]", "/"}, {"[.-0]", "/"}, {`\/`, "/"}, {"**/a", "a"},
		{"", ""}, {"", "a"}, {`\`, `\`}, {`a\`, `a\`}, {`a\`, "a"}, {"[", "["}, {"[a", "[a"}, {"[a", "a"}, {"[]", "[]"}, {"[]", "]"}, {"[!]", "!"}, {"[!]", "a"}, {`[\]`, `\`}, {`[\]`, "]"}, {"*[", "["}, {"a[", "b"},
		{strings.Repeat("a", 256), strings.Repeat("a", 256)}, {strings.Repeat("*", 256), "a"},
	} {
		expectPart(t, c[0], c[1], false)
	}
	expectPart(t, strings.Repeat("a", 255), strings.Repeat("a", 255), true)
	expectPart(t, strings.Repeat("*", 255), "a", true)
	expectPart(t, strings.Repeat("?", 255), strings.Repeat("a", 255), true)
	expectPart(t, strings.Repeat("?", 255), strings.Repeat("a", 256), false)
	// s need not be a path.
	expectPart(t, "?", "\n", true)
	expectPart(t, "..", "..", true)
	expectPart(t, "*", ".graft", true)
	expectPart(t, "*x", strings.Repeat("a", 300)+"x", true)
}

// P7.2: short patterns and texts of the bytes that matter, against the definition.
func TestPartPlain(t *testing.T) {
	check := func(patterns, texts []string) {
		for _, p := range patterns {
			l, ok := plainPlaces(p)
			for _, s := range texts {
				expectPart(t, p, s, ok && plainFits(l, s))
			}
		}
	}
	check(words("a*?b", 5), words("ab", 5))
	check(words("a*b", 7), words("ab", 6))
	check(words(`[]a!-^\`, 6), []string{"", "a", "]", "!", "-", "^", "_", `\`, "[", "aa", "a]", "-]"})
	check(words("[]a*-", 6), words("a]-", 3))
	var classes []string
	for _, content := range words(`]a-c\!^0`, 4) {
		classes = append(classes, "["+content+"]")
	}
	check(classes, strings.Split(complementOf(""), ""))
}

// R1: long texts have their answer in good time, too, even if a pattern may match in very many ways.
func TestPartMuch(t *testing.T) {
	long := strings.Repeat("a", api.MaxBytes)
	expectPart(t, "*", long, true)
	expectPart(t, strings.Repeat("*a", 127), long, true)
	expectPart(t, strings.Repeat("*a", 127)+"*", long, true)
	expectPart(t, strings.Repeat("a*", 127)+"b", long, false)
	expectPart(t, strings.Repeat("a*", 127)+"b", long+"b", true)
	expectPart(t, "*"+strings.Repeat("a", 20)+"b", long, false)
	expectPart(t, strings.Repeat("*[a-c]?", 36)+"b", long, false)
	expectPart(t, strings.Repeat("?*", 127), long[:126], false)
	expectPart(t, strings.Repeat("?*", 127), long[:127], true)
}

// expectMatch fails unless Match answers just this.
func expectMatch(t *testing.T, p, s string, want bool) {
	t.Helper()
	if got := glob.Match(p, s); got != want {
		t.Errorf("Match(%.300q, %.300q) = %t", p, s, got)
	}
}

// P7.3: part by part, and ** for any number of parts.
func TestMatch(t *testing.T) {
	all := []string{"a", "b", "a/b", "b/a", "a/a", "a/b/c", "a/x/b", "a/x/y/b", "b/a/b", "c/b"}
	for p, want := range map[string][]string{
		"a":          {"a"},
		"a/b":        {"a/b"},
		"*":          {"a", "b"},
		"?":          {"a", "b"},
		"*/*":        {"a/b", "b/a", "a/a", "c/b"},
		"?/?":        {"a/b", "b/a", "a/a", "c/b"},
		"a*":         {"a"},
		"a*b":        {},
		"a?b":        {},
		"a/*":        {"a/b", "a/a"},
		"*/b":        {"a/b", "c/b"},
		"**":         all,
		"**/**":      all,
		"**/*":       all,
		"*/**":       all,
		"***":        {"a", "b"},
		"***/b":      {"a/b", "c/b"},
		`\**`:        {},
		"[*]*":       {},
		"a/**":       {"a", "a/b", "a/a", "a/b/c", "a/x/b", "a/x/y/b"},
		"a/**/**":    {"a", "a/b", "a/a", "a/b/c", "a/x/b", "a/x/y/b"},
		"a/*/**":     {"a/b", "a/a", "a/b/c", "a/x/b", "a/x/y/b"},
		"a/**/*":     {"a/b", "a/a", "a/b/c", "a/x/b", "a/x/y/b"},
		"**/b":       {"b", "a/b", "a/x/b", "a/x/y/b", "b/a/b", "c/b"},
		"a/**/b":     {"a/b", "a/x/b", "a/x/y/b"},
		"a/*/b":      {"a/x/b"},
		"**/a/**":    {"a", "a/b", "b/a", "a/a", "a/b/c", "a/x/b", "a/x/y/b", "b/a/b"},
		"**/a/**/b":  {"a/b", "a/x/b", "a/x/y/b", "b/a/b"},
		"**/*/b":     {"a/b", "a/x/b", "a/x/y/b", "b/a/b", "c/b"},
		"*/**/*":     {"a/b", "b/a", "a/a", "a/b/c", "a/x/b", "a/x/y/b", "b/a/b", "c/b"},
		"[ab]/?":     {"a/b", "b/a", "a/a"},
		"[!a]/**":    {"b", "b/a", "b/a/b", "c/b"},
		"**/[!ab]":   {"a/b/c"},
		"**/[xy]/**": {"a/x/b", "a/x/y/b"},
		"**/a/a":     {"a/a"},
	} {
		for _, s := range all {
			expectMatch(t, p, s, slices.Contains(want, s))
		}
	}
	expectMatch(t, `a\*`, "a*", true)
	expectMatch(t, `a\*`, "ab", false)
	expectMatch(t, "*.go", "a.go", true)
	expectMatch(t, "*.go", "x/a.go", false)
	expectMatch(t, "**/*.go", "x/a.go", true)
	expectMatch(t, "**.go", "a.go", true)
	expectMatch(t, "**.go", "x/a.go", false)
}

// P7.3: false for what is no pattern, and for what is no path.
func TestMatchWrong(t *testing.T) {
	for _, c := range [][2]string{
		{"", ""}, {"", "a"}, {"a/", "a/"}, {"a/", "a"}, {"/a", "/a"}, {"/a", "a"}, {"a//b", "a//b"}, {"a//b", "a/b"}, {"a/**/", "a/b"}, {"[a/b]", "a/b"}, {"[a/b]", "a"}, {`a\/b`, "a/b"}, {"a/[", "a/["}, {"**/[", "a"}, {`**/a\`, "a"}, {`a\`, `a\`},
		{"**", ""}, {"**", "/"}, {"**", "/a"}, {"**", "a/"}, {"**", "a//b"}, {"**", ".."}, {"**", "a/../b"}, {"**", ".graft"}, {"**", "a/.graft"}, {"**", "\n"}, {"*", "\x00"}, {"?", "\x1f"}, {".", "."}, {"..", ".."}, {"*", ""},
		{"**", strings.Repeat("a", 65)}, {"**", strings.Repeat("a/", 16) + "a"}, {"*", strings.Repeat("a", 65)},
		{"a" + strings.Repeat("*", 255), "a"}, {strings.Repeat("**/", 85) + "a", "a"},
	} {
		expectMatch(t, c[0], c[1], false)
	}
	expectMatch(t, "**", strings.Repeat("a", 64), true)
	expectMatch(t, "**", strings.Repeat("a/", 15)+"a", true)
	expectMatch(t, "a"+strings.Repeat("*", 254), "a", true)
	expectMatch(t, strings.Repeat("**/", 84)+"a", "a", true)
	expectMatch(t, strings.Repeat("a/", 127)+"a", strings.Repeat("a/", 15)+"a", false)
}

// P7.3: short patterns and paths, against the definition.
func TestMatchPlain(t *testing.T) {
	paths := chains([]string{"a", "b", "ab"}, 4)
	for _, p := range append(chains([]string{"a", "*", "**", "?b", "[!a]*", `\*\*`}, 4), chains([]string{"a", "*", "**"}, 6)...) {
		for _, s := range paths {
			expectMatch(t, p, s, plainMatch(strings.Split(p, "/"), strings.Split(s, "/")))
		}
	}
}

// R1: a pattern that may match in very many ways has its answer in good time.
func TestMatchMuch(t *testing.T) {
	deep := strings.Repeat("a/", 15) + "a"
	expectMatch(t, strings.Repeat("**/a/", 16)+"**", deep, true)
	expectMatch(t, strings.Repeat("**/a/", 17)+"**", deep, false)
	expectMatch(t, strings.Repeat("**/a/", 15)+"b", deep, false)
	expectMatch(t, strings.Repeat("**/a*a*/", 31)+"b", strings.Repeat("aaaaaaaaaaaaaaa/", 15)+"b", false)
	expectMatch(t, strings.Repeat("*a", 120)+"b", strings.Repeat("a", 64), false)
}

// P7.4: a literal pattern is a path without special bytes.
func TestLiteral(t *testing.T) {
	for _, p := range []string{
		"a", "a/b.c", "]", "a]", "!a", "^", "-", "a-b/c", "ä", "\xff", " ", "#", "{a}",
		strings.Repeat("a", 64), strings.Repeat("a/", 15) + "a", strings.Repeat(strings.Repeat("a", 63)+"/", 3) + strings.Repeat("a", 63),
	} {
		if s, ok := glob.Literal(p); s != p || !ok {
			t.Errorf("Literal(%q) = %q, %t", p, s, ok)
		}
	}
	for _, p := range []string{
		"", "?", "*", "**", "a?", "a/*", "a/**", "**/a", "[a]", "a[b", "[", `\a`, `a\`, `\`, `a/\*`, `\\`, "a/b?c",
		".", "..", "a/../b", ".graft", "x/.graft", "/a", "a/", "a//b", "a\n", "\x00",
		strings.Repeat("a", 65), strings.Repeat("a/", 16) + "a", strings.Repeat("a", 256),
	} {
		if s, ok := glob.Literal(p); s != "" || ok {
			t.Errorf("Literal(%q) = %q, %t", p, s, ok)
		}
	}
}

// P7.4: every arrangement of the bytes that matter.
func TestLiteralPlain(t *testing.T) {
	for _, p := range words(`a/.?*[]\`, 5) {
		want := path.Is(p) && glob.Is(p) && !strings.Contains(p, "?") && !strings.Contains(p, "*") && !strings.Contains(p, "[") && !strings.Contains(p, `\`)
		if s, ok := glob.Literal(p); ok != want || s == p != (ok || p == "") {
			t.Errorf("Literal(%q) = %q, %t", p, s, ok)
		}
	}
}

// P7.5: q is literal, and p matches it.
func TestCovers(t *testing.T) {
	for _, c := range []struct {
		p, q string
		want bool
	}{
		{"a", "a", true},
		{"*", "a", true},
		{"**", "a/b", true},
		{"a/**", "a", true},
		{"a/**", "a/b/c", true},
		{"[ab]/]", "b/]", true},
		{"*", "a/b", false},
		{"a", "b", false},
		{"a/**", "b", false},
		{"*", "*", false},
		{"**", "**", false},
		{"**", "a/*", false},
		{"**", "a?", false},
		{"*", "[a]", false},
		{"*", "[", false},
		{"*", `\a`, false},
		{`\*`, "*", false},
		{"*", "", false},
		{"**", "a/", false},
		{"**", "..", false},
		{"", "", false},
		{"", "a", false},
		{"[", "a", false},
		{"a/", "a", false},
	} {
		if got := glob.Covers(c.p, c.q); got != c.want {
			t.Errorf("Covers(%q, %q) = %t", c.p, c.q, got)
		}
	}
}

// P7.6: a literal pattern matches its own path alone.
func TestLiteralMatches(t *testing.T) {
	all := append(chains([]string{"a", "]", "b-"}, 3), "ä", "a b", "!a", "^a")
	for _, p := range all {
		for _, s := range all {
			expectMatch(t, p, s, p == s)
		}
	}
}

// P7.7: what ** at the start adds, and that * matches wherever ? does.
func TestWildcards(t *testing.T) {
	paths := chains([]string{"a", "b", "ab"}, 3)
	for _, p := range chains([]string{"a", "*", "**", "?b", "[!a]"}, 3) {
		for _, s := range paths {
			if !glob.Match(p, s) {
				continue
			}
			expectMatch(t, "**/"+p, s, true)
			for _, dir := range []string{"a", "b/c", "x/y/z/.w", strings.Repeat("d/", 12) + "d"} {
				expectMatch(t, "**/"+p, dir+"/"+s, true)
			}
		}
	}
	ends := []string{"a", "b", "*", "?", "[!a]", `\a`, "ab", "a*"}
	for _, start := range ends {
		for _, end := range ends {
			for _, s := range words("ab", 5)[1:] {
				if glob.Part(start+"?"+end, s) {
					expectPart(t, start+"*"+end, s, true)
					expectMatch(t, start+"*"+end, s, true)
				}
			}
		}
	}
}

// P7.8: Match and Part agree on one part, but for **, which matches every path.
func TestSinglePart(t *testing.T) {
	for _, p := range words(`a*?[]b\!`, 5) {
		for _, s := range []string{"a", "b", "ab", "ba", "aab", "]", "[", "*", `\`, "!", "a]"} {
			if glob.Match(p, s) != glob.Part(p, s) {
				t.Errorf("Match and Part of %q, %q differ", p, s)
			}
		}
	}
	for _, s := range append(chains([]string{"a", "b*", "["}, 4), strings.Repeat("a/", 15)+"a", strings.Repeat("x", 64)) {
		expectMatch(t, "**", s, true)
	}
}
