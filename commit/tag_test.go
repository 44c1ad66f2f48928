package commit_test

import (
	"math"
	"regexp"
	"strings"
	"testing"

	"graftage/api"
	"graftage/commit"
)

// words holds the type names that the document gives to the kinds.
var words = map[int]string{1: "blob", 2: "tree", 3: "commit", 4: "tag"}

// strange lists integers that are no kinds.
var strange = []int{math.MinInt, -256, -4, -1, 0, 5, 6, 256, 257, math.MaxInt}

// simpleTag returns a tag that is valid.
func simpleTag() api.Tag {
	return api.Tag{Object: id(1), Kind: api.Commits, Name: "v1.0", Tagger: api.Person{Name: "a b", Mail: "a@b", Time: 5, Zone: 60}, Text: "one\n"}
}

// plainTagBody lays a tag out.
func plainTagBody(t api.Tag) string {
	return strings.Join([]string{"object " + t.Object, "type " + words[t.Kind], "tag " + t.Name, "tagger " + commit.Who(t.Tagger), "", t.Text}, "\n")
}

// tagName tells what a tag's name is.
var tagName = regexp.MustCompile(`^[^\x00- ]{1,64}$`)

// plainCheckTag follows P16.4, in its order.
func plainCheckTag(t api.Tag) api.Errno {
	if !plainId.MatchString(t.Object) || words[t.Kind] == "" || !tagName.MatchString(latin(t.Name)) || !plainPerson(t.Tagger) || strings.IndexByte(t.Text, 0) >= 0 {
		return api.ErrInvalid
	}
	if len(t.Text) > 4096 {
		return api.ErrTooLarge
	}
	return api.OK
}

// plainParseTag follows P16.6, in its order; it takes the lines from the front.
func plainParseTag(s string) (api.Tag, api.Errno) {
	var values []string
	for _, word := range []string{"object ", "type ", "tag ", "tagger "} {
		end := strings.Index(s, "\n")
		if end < 0 || !strings.HasPrefix(s[:end], word) {
			return api.Tag{}, api.ErrSyntax
		}
		values, s = append(values, s[len(word):end]), s[end+1:]
	}
	t := api.Tag{Object: values[0], Name: values[2]}
	for kind, word := range words {
		if word == values[1] {
			t.Kind = kind
		}
	}
	tagger, e := plainWho(values[3])
	if !plainId.MatchString(t.Object) || t.Kind == 0 || e == api.ErrSyntax || s == "" || s[0] != '\n' {
		return api.Tag{}, api.ErrSyntax
	}
	t.Tagger, t.Text = tagger, s[1:]
	if e := plainCheckTag(t); e != api.OK {
		return api.Tag{}, e
	}
	return t, api.OK
}

// expectCheckTag fails unless CheckTag and TagBody answer just this.
func expectCheckTag(t *testing.T, g api.Tag, want api.Errno) {
	t.Helper()
	if got := commit.CheckTag(g); got != want {
		t.Errorf("CheckTag(%.99v) = %d, want %d", g, got, want)
	}
	body := ""
	if want == api.OK {
		body = plainTagBody(g)
	}
	if got, e := commit.TagBody(g); got != body || e != want {
		t.Errorf("TagBody(%.99v) = %.200q, %d, want %.200q, %d", g, got, e, body, want)
	}
}

// expectParseTag fails unless ParseTag answers just this.
func expectParseTag(t *testing.T, s string, want api.Tag, code api.Errno) {
	t.Helper()
	if got, e := commit.ParseTag(s); got != want || e != code {
		t.Errorf("ParseTag(%.300q) = %.99v, %d, want %.99v, %d", s, got, e, want, code)
	}
}

// P16.4, P16.5: each error, at the edges of its condition, and several at once.
func TestCheckTag(t *testing.T) {
	expectCheckTag(t, simpleTag(), api.OK)
	expectCheckTag(t, api.Tag{}, api.ErrInvalid)
	for _, wrong := range wrongIds {
		g := simpleTag()
		g.Object = wrong
		expectCheckTag(t, g, api.ErrInvalid)
	}
	for kind := range words {
		g := simpleTag()
		g.Kind = kind
		expectCheckTag(t, g, api.OK)
	}
	for _, kind := range strange {
		g := simpleTag()
		g.Kind = kind
		expectCheckTag(t, g, api.ErrInvalid)
	}
	long := strings.Repeat("n", api.MaxName)
	for name, want := range map[string]api.Errno{
		"a": 0, "v1.0": 0, "a/b": 0, "<>": 0, "!": 0, "\x7f": 0, "\xff": 0, "é": 0, ".": 0, "..": 0, long: 0, long[1:]: 0,
		"": 1, " ": 1, " a": 1, "a ": 1, "a b": 1, "a\n": 1, "\t": 1, "\x00": 1, "\x1f": 1, "a\x1f": 1, long + "n": 1, long + long: 1,
	} {
		g := simpleTag()
		g.Name = name
		expectCheckTag(t, g, want)
	}
	for b := range 256 {
		g := simpleTag()
		g.Name = "n" + string([]byte{byte(b)})
		expectCheckTag(t, g, plainCheckTag(g))
	}
	for _, text := range texts() {
		g := simpleTag()
		g.Text = text
		expectCheckTag(t, g, api.OK)
	}
	full := strings.Repeat("x", api.MaxText)
	for text, want := range map[string]api.Errno{"\x00": 1, "a\x00b": 1, full: 0, full + "x": api.ErrTooLarge, full + "\x00": 1, full[1:] + "\x00": 1, full + full: api.ErrTooLarge} {
		g := simpleTag()
		g.Text = text
		expectCheckTag(t, g, want)
	}
	for _, spoil := range []func(g *api.Tag){
		func(g *api.Tag) { g.Object = "" },
		func(g *api.Tag) { g.Kind = 0 },
		func(g *api.Tag) { g.Name = "" },
		func(g *api.Tag) { g.Name = long + "n" },
		func(g *api.Tag) { g.Tagger.Name = "" },
	} {
		g := simpleTag()
		g.Text = full + "x"
		spoil(&g)
		expectCheckTag(t, g, api.ErrInvalid)
	}
}

// P16.5, P16.6: the layout of a body.
func TestTagBody(t *testing.T) {
	g := api.Tag{Object: strings.Repeat("a1", 20), Kind: api.Commits, Name: "v1.0", Tagger: api.Person{Name: "A B", Mail: "a@b", Time: 5, Zone: -90}, Text: "\none"}
	want := "object a1a1a1a1a1a1a1a1a1a1a1a1a1a1a1a1a1a1a1a1\ntype commit\ntag v1.0\ntagger A B <a@b> 5 -0130\n\n\none"
	if got, e := commit.TagBody(g); got != want || e != api.OK {
		t.Errorf("TagBody = %q, %d", got, e)
	}
	expectParseTag(t, want, g, api.OK)
}

// P16.6, P16.11: kinds, texts and persons of all sorts come back.
func TestTagRoundTrip(t *testing.T) {
	met := make(map[string]bool)
	try := func(g api.Tag) {
		t.Helper()
		body, e := commit.TagBody(g)
		if e != api.OK || met[body] {
			t.Errorf("TagBody(%.99v) = %.200q, %d, which is met: %t", g, body, e, met[body])
		}
		met[body] = true
		expectParseTag(t, body, g, api.OK)
	}
	for kind := range words {
		for _, text := range texts() {
			g := simpleTag()
			g.Kind, g.Text = kind, text
			try(g)
		}
	}
	for p, ok := range persons() {
		if ok {
			g := simpleTag()
			g.Tagger, g.Name = p, "<"
			try(g)
		}
	}
}

// P16.6: each error, and which of several is told.
func TestParseTag(t *testing.T) {
	head, kind, name, tagger := "object "+id(1)+"\n", "type tag\n", "tag v1\n", "tagger a <a@b> 5 +0000\n"
	nobody := "tagger a <> 5 +0000\n"
	full := strings.Repeat("x", api.MaxText)
	for _, c := range []struct {
		s    string
		want api.Errno
	}{
		{head + kind + name + tagger + "\none\n", api.OK},
		{head + kind + name + tagger + "\n", api.OK},
		{head + "type blob\n" + name + tagger + "\n", api.OK},
		{head + "type tree\n" + name + tagger + "\n", api.OK},
		{head + "type commit\n" + name + tagger + "\n", api.OK},
		{"", api.ErrSyntax},
		{"\n", api.ErrSyntax},
		{head, api.ErrSyntax},
		{head + kind, api.ErrSyntax},
		{head + kind + name, api.ErrSyntax},
		{head + kind + name + tagger, api.ErrSyntax},
		{head + kind + name + tagger + "one\n", api.ErrSyntax},
		{head + kind + name + tagger + "\r\none\n", api.ErrSyntax},
		{head + kind + name + tagger + " \none\n", api.ErrSyntax},
		{head + kind + name + tagger[:len(tagger)-1], api.ErrSyntax},
		{kind + head + name + tagger + "\n", api.ErrSyntax},
		{head + name + kind + tagger + "\n", api.ErrSyntax},
		{head + kind + tagger + name + "\n", api.ErrSyntax},
		{kind + name + tagger + "\n", api.ErrSyntax},
		{head + name + tagger + "\n", api.ErrSyntax},
		{head + kind + tagger + "\n", api.ErrSyntax},
		{head + kind + name + "\n", api.ErrSyntax},
		{head + head + kind + name + tagger + "\n", api.ErrSyntax},
		{head + kind + kind + name + tagger + "\n", api.ErrSyntax},
		{head + kind + name + name + tagger + "\n", api.ErrSyntax},
		{head + kind + name + tagger + tagger + "\n", api.ErrSyntax},
		{"object " + id(1)[1:] + "\n" + kind + name + tagger + "\n", api.ErrSyntax},
		{"object \n" + kind + name + tagger + "\n", api.ErrSyntax},
		{"object  " + id(1) + "\n" + kind + name + tagger + "\n", api.ErrSyntax},
		{"tree " + id(1) + "\n" + kind + name + tagger + "\n", api.ErrSyntax},
		{head + "parent " + id(1) + "\n" + kind + name + tagger + "\n", api.ErrSyntax},
		{head + "type \n" + name + tagger + "\n", api.ErrSyntax},
		{head + "type\n" + name + tagger + "\n", api.ErrSyntax},
		{head + "type commits\n" + name + tagger + "\n", api.ErrSyntax},
		{head + "type Tag\n" + name + tagger + "\n", api.ErrSyntax},
		{head + "type tag \n" + name + tagger + "\n", api.ErrSyntax},
		{head + "type 1\n" + name + tagger + "\n", api.ErrSyntax},
		{head + kind + "tag\n" + tagger + "\n", api.ErrSyntax},
		{head + kind + "tag \n" + tagger + "\n", api.ErrInvalid},
		{head + kind + "tag  v1\n" + tagger + "\n", api.ErrInvalid},
		{head + kind + "tag v1 \n" + tagger + "\n", api.ErrInvalid},
		{head + kind + "tag v\x00\n" + tagger + "\n", api.ErrInvalid},
		{head + kind + "tag v\r\n" + tagger + "\n", api.ErrInvalid},
		{head + kind + "tag " + strings.Repeat("n", 64) + "\n" + tagger + "\n", api.OK},
		{head + kind + "tag " + strings.Repeat("n", 65) + "\n" + tagger + "\n", api.ErrInvalid},
		{head + kind + "tag \ntagger x\n\n", api.ErrSyntax},
		{head + kind + name + "tagger a <a@b> 05 +0000\n\n", api.ErrSyntax},
		{head + kind + name + "tagger\n\n", api.ErrSyntax},
		{head + kind + name + nobody + "\n", api.ErrInvalid},
		{head + kind + name + nobody, api.ErrSyntax},
		{head + "type x\n" + name + nobody + "\n", api.ErrSyntax},
		{head + kind + name + nobody + "\n" + full + "x", api.ErrInvalid},
		{head + kind + name + tagger + "\n\x00", api.ErrInvalid},
		{head + "type x\n" + name + tagger + "\n\x00", api.ErrSyntax},
		{head + kind + name + tagger + "\n" + full, api.OK},
		{head + kind + name + tagger + "\n" + full + "x", api.ErrTooLarge},
		{head + kind + name + tagger + "\n" + full + "x\x00", api.ErrInvalid},
		{head + kind + "tag \n" + tagger + "\n" + full + "x", api.ErrInvalid},
		{head + "type x\n" + name + tagger + "\n" + full + "x", api.ErrSyntax},
	} {
		want, e := plainParseTag(c.s)
		if e != c.want {
			t.Errorf("the reference takes %.300q for %d", c.s, e)
		}
		expectParseTag(t, c.s, want, c.want)
	}
}

// P16.6: all bodies of a few lines, against a plain reference.
func TestTagLines(t *testing.T) {
	all := grown(6, "object "+id(1)+"\n", "type commit\n", "type x\n", "tag v1\n", "tag \n", "tagger a <b> 5 +0000\n", "tagger a <> 5 +0000\n", "\n")
	for _, s := range all {
		want, e := plainParseTag(s)
		expectParseTag(t, s, want, e)
	}
}

// P16.6, P16.11: mutants of bodies against a plain reference; whatever ParseTag takes, TagBody gives back.
func TestTagMutants(t *testing.T) {
	for kind := range words {
		g := simpleTag()
		g.Kind = kind
		mutants(plainTagBody(g), func(s string) {
			want, e := plainParseTag(s)
			expectParseTag(t, s, want, e)
			if e != api.OK {
				return
			}
			if back, e := commit.TagBody(want); back != s || e != api.OK {
				t.Errorf("TagBody(ParseTag(%q)) = %q, %d", s, back, e)
			}
		})
	}
}
