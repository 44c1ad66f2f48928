package commit_test

import (
	"math"
	"regexp"
	"strconv"
	"strings"
	"testing"

	"graftage/api"
	"graftage/commit"
)

// latin turns each byte into a character of its own, so that a regular expression sees bytes.
func latin(s string) string {
	var l []rune
	for _, b := range []byte(s) {
		l = append(l, rune(b))
	}
	return string(l)
}

// grown returns all strings of at most most of the pieces.
func grown(most int, pieces ...string) []string {
	all := []string{""}
	for start, size := 0, 0; size < most; size++ {
		end := len(all)
		for _, s := range all[start:end] {
			for _, p := range pieces {
				all = append(all, s+p)
			}
		}
		start = end
	}
	return all
}

// mutants hands every string that differs from s in one byte, changed, taken out or put in, and the beginnings and ends of s, to each.
func mutants(s string, each func(s string)) {
	for at := range len(s) + 1 {
		each(s[:at])
		each(s[at:])
		for b := range 256 {
			each(s[:at] + string([]byte{byte(b)}) + s[at:])
			if at < len(s) {
				each(s[:at] + string([]byte{byte(b)}) + s[at+1:])
			}
		}
		if at < len(s) {
			each(s[:at] + s[at+1:])
		}
	}
}

// What a person's parts are: those that ParseWho reads, and those that are valid.
var (
	someone = regexp.MustCompile(`(?s)^([^<>]*) <([^<>]*)> (0|[1-9][0-9]{0,17}) ([+-])([0-9]{2})([0-5][0-9])$`)
	named   = regexp.MustCompile(`^[^<>\x00- ]([^<>\x00-\x1f]{0,62}[^<>\x00- ])?$`)
)

// plainPerson tells a valid person.
func plainPerson(p api.Person) bool {
	return named.MatchString(latin(p.Name)) && named.MatchString(latin(p.Mail)) && p.Time >= 0 && p.Time <= 1099511627776 && p.Zone >= -840 && p.Zone <= 840
}

// plainWho follows P16.10, in its order.
func plainWho(s string) (api.Person, api.Errno) {
	m := someone.FindStringSubmatch(latin(s))
	if m == nil || strings.HasSuffix(s, "-0000") {
		return api.Person{}, api.ErrSyntax
	}
	bytes := func(text string) string {
		var out []byte
		for _, r := range text {
			out = append(out, byte(r))
		}
		return string(out)
	}
	p := api.Person{Name: bytes(m[1]), Mail: bytes(m[2])}
	p.Time, _ = strconv.Atoi(m[3])
	hours, _ := strconv.Atoi(m[5])
	minutes, _ := strconv.Atoi(m[6])
	p.Zone = 60*hours + minutes
	if m[4] == "-" {
		p.Zone = -p.Zone
	}
	if !plainPerson(p) {
		return api.Person{}, api.ErrInvalid
	}
	return p, api.OK
}

// expectWho fails unless ParseWho answers just this.
func expectWho(t *testing.T, s string, want api.Person, code api.Errno) {
	t.Helper()
	if got, e := commit.ParseWho(s); got != want || e != code {
		t.Errorf("ParseWho(%.99q) = %v, %d, want %v, %d", s, got, e, want, code)
	}
}

// P16.9: the layout, the zone's sign among it; and ParseWho brings each person back.
func TestWho(t *testing.T) {
	long := strings.Repeat("n", api.MaxName)
	for _, c := range []struct {
		p    api.Person
		want string
	}{
		{api.Person{Name: "a", Mail: "a@b", Time: 5, Zone: 60}, "a <a@b> 5 +0100"},
		{api.Person{Name: "a", Mail: "a@b", Time: 5, Zone: -90}, "a <a@b> 5 -0130"},
		{api.Person{Name: "a", Mail: "a@b", Time: 5}, "a <a@b> 5 +0000"},
		{api.Person{Name: "a", Mail: "a", Zone: 1}, "a <a> 0 +0001"},
		{api.Person{Name: "a", Mail: "a", Zone: -1}, "a <a> 0 -0001"},
		{api.Person{Name: "a", Mail: "a", Zone: 59}, "a <a> 0 +0059"},
		{api.Person{Name: "a", Mail: "a", Zone: -59}, "a <a> 0 -0059"},
		{api.Person{Name: "a", Mail: "a", Zone: 599}, "a <a> 0 +0959"},
		{api.Person{Name: "a", Mail: "a", Zone: 840}, "a <a> 0 +1400"},
		{api.Person{Name: "a", Mail: "a", Zone: -840}, "a <a> 0 -1400"},
		{api.Person{Name: "A  B c", Mail: "x y", Time: 1 << 40, Zone: 345}, "A  B c <x y> 1099511627776 +0545"},
		{api.Person{Name: long, Mail: long, Time: 10}, long + " <" + long + "> 10 +0000"},
		{api.Person{Name: "é\x7f\xff", Mail: "\x80\"'", Time: 1}, "\xc3\xa9\x7f\xff <\x80\"'> 1 +0000"},
	} {
		if got := commit.Who(c.p); got != c.want {
			t.Errorf("Who(%v) = %q, want %q", c.p, got, c.want)
		}
		expectWho(t, c.want, c.p, api.OK)
	}
}

// P16.9, P16.11: all zones that are valid, and times of all lengths.
func TestZones(t *testing.T) {
	for zone := -api.MaxZone; zone <= api.MaxZone; zone++ {
		p := api.Person{Name: "a", Mail: "b", Time: 7, Zone: zone}
		expectWho(t, commit.Who(p), p, api.OK)
	}
	for time := 1; time <= api.MaxTime; time *= 2 {
		for _, n := range []int{time - 1, time} {
			p := api.Person{Name: "a", Mail: "b", Time: n}
			expectWho(t, commit.Who(p), p, api.OK)
		}
	}
}

// R1: Who answers for persons who aren't valid, too, whatever it is.
func TestStrangers(t *testing.T) {
	for _, n := range []int{math.MinInt, -841, -1, 841, 6000, math.MaxInt} {
		commit.Who(api.Person{Time: n, Zone: n})
	}
}

// P16.10: each error, at the edges of its condition; what is malformed goes ahead of what is invalid.
func TestParseWho(t *testing.T) {
	long := strings.Repeat("n", api.MaxName)
	for _, c := range []struct {
		s    string
		want api.Errno
	}{
		{"a <b> 5 +0000", api.OK},
		{"a <b> 05 +0000", api.ErrSyntax}, // the example
		{"", api.ErrSyntax},
		{"a", api.ErrSyntax},
		{"a <b>", api.ErrSyntax},
		{"a <b> 5", api.ErrSyntax},
		{"a <b> 5 ", api.ErrSyntax},
		{"a <b>5 +0000", api.ErrSyntax},
		{"a<b> 5 +0000", api.ErrSyntax},
		{"<b> 5 +0000", api.ErrSyntax},
		{"a b> 5 +0000", api.ErrSyntax},
		{"a <b 5 +0000", api.ErrSyntax},
		{"a <b>  5 +0000", api.ErrSyntax},
		{"a <b> 5  +0000", api.ErrSyntax},
		{"a <b> 5 +0000 ", api.ErrSyntax},
		{"a <b> 5 +0000\n", api.ErrSyntax},
		{"a <b> 5 +0000 +0000", api.ErrSyntax},
		{"a <b>\t5 +0000", api.ErrSyntax},
		{"a\t<b> 5 +0000", api.ErrSyntax},
		{"a <b> 5\t+0000", api.ErrSyntax},
		{"a> <b> 5 +0000", api.ErrSyntax},
		{"a< <b> 5 +0000", api.ErrSyntax},
		{"> <b> 5 +0000", api.ErrSyntax},
		{"< <b> 5 +0000", api.ErrSyntax},
		{"a <<b> 5 +0000", api.ErrSyntax},
		{"a <b>> 5 +0000", api.ErrSyntax},
		{"a <b < > 5 +0000", api.ErrSyntax},
		{"a <b <c> 5 +0000", api.ErrSyntax},
		{"a <b> c> 5 +0000", api.ErrSyntax},
		{"a <b> <c> 5 +0000", api.ErrSyntax},

		{" <b> 5 +0000", api.ErrInvalid},
		{"a <> 5 +0000", api.ErrInvalid},
		{" <> 5 +0000", api.ErrInvalid},
		{" <> 05 +0000", api.ErrSyntax},
		{" <> 5 -0000", api.ErrSyntax},
		{" a <b> 5 +0000", api.ErrInvalid},
		{"a  <b> 5 +0000", api.ErrInvalid},
		{"  <b> 5 +0000", api.ErrInvalid},
		{"a < b> 5 +0000", api.ErrInvalid},
		{"a <b > 5 +0000", api.ErrInvalid},
		{"a < > 5 +0000", api.ErrInvalid},
		{"a b <c d> 5 +0000", api.OK},
		{"a\n <b> 5 +0000", api.ErrInvalid},
		{"a <b\n> 5 +0000", api.ErrInvalid},
		{"a\x00b <b> 5 +0000", api.ErrInvalid},
		{"a\x1fb <b> 5 +0000", api.ErrInvalid},
		{"a\x7fb <b> 5 +0000", api.OK},
		{"\ta <b> 5 +0000", api.ErrInvalid},
		{long + " <b> 5 +0000", api.OK},
		{long + "n <b> 5 +0000", api.ErrInvalid},
		{"a <" + long + "> 5 +0000", api.OK},
		{"a <" + long + "n> 5 +0000", api.ErrInvalid},

		{"a <b> 0 +0000", api.OK},
		{"a <b> 00 +0000", api.ErrSyntax},
		{"a <b>  +0000", api.ErrSyntax},
		{"a <b> -0 +0000", api.ErrSyntax},
		{"a <b> -5 +0000", api.ErrSyntax},
		{"a <b> +5 +0000", api.ErrSyntax},
		{"a <b> 5a +0000", api.ErrSyntax},
		{"a <b> 1_0 +0000", api.ErrSyntax},
		{"a <b> 0x5 +0000", api.ErrSyntax},
		{"a <b> ٣ +0000", api.ErrSyntax},
		{"a <b> 1099511627776 +0000", api.OK},
		{"a <b> 1099511627777 +0000", api.ErrInvalid},
		{"a <b> 999999999999999999 +0000", api.ErrInvalid},
		{"a <b> 100000000000000000 +0000", api.ErrInvalid},
		{"a <b> 1000000000000000000 +0000", api.ErrSyntax},
		{"a <b> 0000000000000000001 +0000", api.ErrSyntax},
		{"a <b> 9223372036854775807 +0000", api.ErrSyntax},
		{"a <b> 18446744073709551621 +0000", api.ErrSyntax},

		{"a <b> 5 -0000", api.ErrSyntax},
		{"a <b> 5 -0001", api.OK},
		{"a <b> 5 0000", api.ErrSyntax},
		{"a <b> 5 00000", api.ErrSyntax},
		{"a <b> 5 01000", api.ErrSyntax},
		{"a <b> 5 +000", api.ErrSyntax},
		{"a <b> 5 +00000", api.ErrSyntax},
		{"a <b> 5 +", api.ErrSyntax},
		{"a <b> 5 ++000", api.ErrSyntax},
		{"a <b> 5 +-100", api.ErrSyntax},
		{"a <b> 5 -+100", api.ErrSyntax},
		{"a <b> 5 +01:0", api.ErrSyntax},
		{"a <b> 5 +1_00", api.ErrSyntax},
		{"a <b> 5 +0x10", api.ErrSyntax},
		{"a <b> 5 +00a0", api.ErrSyntax},
		{"a <b> 5  0100", api.ErrSyntax},
		{"a <b> 5 \xc2\xb1000", api.ErrSyntax},
		{"a <b> 5 +0059", api.OK},
		{"a <b> 5 +0060", api.ErrSyntax},
		{"a <b> 5 -0060", api.ErrSyntax},
		{"a <b> 5 +0099", api.ErrSyntax},
		{"a <b> 5 -0199", api.ErrSyntax},
		{"a <b> 5 +1400", api.OK},
		{"a <b> 5 -1400", api.OK},
		{"a <b> 5 +1401", api.ErrInvalid},
		{"a <b> 5 -1401", api.ErrInvalid},
		{"a <b> 5 +9959", api.ErrInvalid},
		{"a <b> 5 -9959", api.ErrInvalid},
		{"a <b> 5 +9960", api.ErrSyntax},
	} {
		want, e := plainWho(c.s)
		if e != c.want {
			t.Errorf("the reference takes %q for %d", c.s, e)
		}
		expectWho(t, c.s, want, c.want)
	}
}

// P16.10: all strings of a few pieces, against a plain reference.
func TestWhoPieces(t *testing.T) {
	for _, s := range grown(5, "a", " ", "<", ">", " <", "> ", "0", "5 ", "+0130", "-0000", "\n") {
		want, e := plainWho(s)
		expectWho(t, s, want, e)
		want, e = plainWho("a" + s + " +0100")
		expectWho(t, "a"+s+" +0100", want, e)
	}
	for _, s := range grown(6, "0", "1", "9", "+", "-", " ", "6") {
		want, e := plainWho("a <b> 5 " + s)
		expectWho(t, "a <b> 5 "+s, want, e)
		want, e = plainWho("a <b> " + s + " +0000")
		expectWho(t, "a <b> "+s+" +0000", want, e)
	}
}

// P16.10, P16.11: mutants against a plain reference; whatever ParseWho takes, Who gives back.
func TestWhoMutants(t *testing.T) {
	for _, s := range []string{"a <b> 5 +0000", "ab c <a@b> 1700000000 -0130", "a <b> 10 +1359"} {
		mutants(s, func(s string) {
			want, e := plainWho(s)
			expectWho(t, s, want, e)
			if back := commit.Who(want); e == api.OK && back != s {
				t.Errorf("Who(ParseWho(%q)) = %q", s, back)
			}
		})
	}
}

// persons lists persons of all sorts and tells which are valid.
func persons() map[api.Person]bool {
	long := strings.Repeat("n", api.MaxName)
	l := map[api.Person]bool{}
	for name, ok := range map[string]bool{
		"a": true, "a b": true, long: true, "\x7f": true, "\xff": true, "é": true, "a@b": true, "a/b": true,
		"": false, " ": false, " a": false, "a ": false, long + "n": false, "a<": false, ">a": false, "<": false, ">": false, "a\n": false, "\x00": false, "a\x1fb": false, "\t": false,
	} {
		l[api.Person{Name: name, Mail: "a@b", Time: 5}] = ok
		l[api.Person{Name: "a", Mail: name, Time: 5}] = ok
	}
	for time, ok := range map[int]bool{0: true, 1: true, api.MaxTime: true, -1: false, api.MaxTime + 1: false, math.MinInt: false, math.MaxInt: false} {
		l[api.Person{Name: "a", Mail: "b", Time: time}] = ok
	}
	for zone, ok := range map[int]bool{1: true, -1: true, 840: true, -840: true, 841: false, -841: false, math.MinInt: false, math.MaxInt: false} {
		l[api.Person{Name: "a", Mail: "b", Zone: zone}] = ok
	}
	return l
}

// P16.1, P16.4: which persons a commit and a tag may have, in each of their places.
func TestPersons(t *testing.T) {
	for p, ok := range persons() {
		if plainPerson(p) != ok {
			t.Errorf("the reference takes %v for %t", p, !ok)
		}
		want := api.ErrInvalid
		if ok {
			want = api.OK
		}
		c := simple()
		c.Author = p
		expectCheck(t, c, want)
		c = simple()
		c.Committer = p
		expectCheck(t, c, want)
		g := simpleTag()
		g.Tagger = p
		expectCheckTag(t, g, want)
	}
}
