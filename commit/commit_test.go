package commit_test

import (
	"regexp"
	"slices"
	"strconv"
	"strings"
	"testing"

	"graftage/api"
	"graftage/commit"
)

// id returns an object ID that begins with the digits of n.
func id(n int) string {
	digits := strconv.FormatInt(int64(n), 16)
	return strings.Repeat("0", 4-len(digits)) + digits + strings.Repeat("b5", 18)
}

// ids returns n different object IDs.
func ids(n int) []string {
	var l []string
	for i := range n {
		l = append(l, id(100+i))
	}
	return l
}

// wrongIds lists strings that are no object IDs.
var wrongIds = []string{"", "0", id(1)[1:], id(1) + "0", strings.ToUpper(id(1)), "g" + id(1)[1:], id(1)[1:] + " ", " " + id(1)[1:], " " + id(1), id(1)[1:] + "\x00", strings.Repeat("é", 20), strings.Repeat("0", 64)}

// texts lists texts that are valid, the longest ones among them.
func texts() []string {
	return []string{"", "one", "one\n", "\n", "\n\n", "one\n\ntwo\n", "tree " + id(1) + "\n", " \t\r\n", "\xff\x80\x01", "é", strings.Repeat("x", api.MaxText), strings.Repeat("\n", api.MaxText)}
}

// simple returns a commit that is valid.
func simple() api.Commit {
	return api.Commit{
		Tree: id(1), Parents: []string{id(2), id(3)},
		Author: api.Person{Name: "a", Mail: "a@b", Time: 5}, Committer: api.Person{Name: "c d", Mail: "e", Time: 60, Zone: -90},
		Text: "one\n",
	}
}

// same reports whether two commits are equal; a nil list is an empty one.
func same(a, b api.Commit) bool {
	return a.Tree == b.Tree && slices.Equal(a.Parents, b.Parents) && a.Author == b.Author && a.Committer == b.Committer && a.Text == b.Text
}

// plainBody lays a commit out.
func plainBody(c api.Commit) string {
	l := []string{"tree " + c.Tree}
	for _, p := range c.Parents {
		l = append(l, "parent "+p)
	}
	l = append(l, "author "+commit.Who(c.Author), "committer "+commit.Who(c.Committer), "", c.Text)
	return strings.Join(l, "\n")
}

// plainId tells an object ID.
var plainId = regexp.MustCompile(`^[0-9a-f]{40}$`)

// plainCheck follows P16.1, in its order.
func plainCheck(c api.Commit) api.Errno {
	for _, id := range append([]string{c.Tree}, c.Parents...) {
		if !plainId.MatchString(id) {
			return api.ErrInvalid
		}
	}
	if !plainPerson(c.Author) || !plainPerson(c.Committer) || strings.IndexByte(c.Text, 0) >= 0 {
		return api.ErrInvalid
	}
	if len(c.Text) > 4096 || len(c.Parents) > 8 {
		return api.ErrTooLarge
	}
	for i, p := range c.Parents {
		if slices.Contains(c.Parents[:i], p) {
			return api.ErrDuplicate
		}
	}
	return api.OK
}

// layout is what the body of a commit is, but for its persons.
var layout = regexp.MustCompile(`(?s)^tree ([0-9a-f]{40})\n((?:parent [0-9a-f]{40}\n)*)author ([^\n]*)\ncommitter ([^\n]*)\n\n(.*)$`)

// plainParse follows P16.3, in its order.
func plainParse(s string) (api.Commit, api.Errno) {
	m := layout.FindStringSubmatchIndex(latin(s))
	if m == nil {
		return api.Commit{}, api.ErrSyntax
	}
	wide := latin(s)
	part := func(n int) string {
		var out []byte
		for _, r := range wide[m[2*n]:m[2*n+1]] {
			out = append(out, byte(r))
		}
		return string(out)
	}
	c := api.Commit{Tree: part(1), Text: part(5)}
	for _, line := range strings.Split(part(2), "\n") {
		if line != "" {
			c.Parents = append(c.Parents, line[len("parent "):])
		}
	}
	author, first := plainWho(part(3))
	committer, second := plainWho(part(4))
	if first == api.ErrSyntax || second == api.ErrSyntax {
		return api.Commit{}, api.ErrSyntax
	}
	c.Author, c.Committer = author, committer
	if e := plainCheck(c); e != api.OK {
		return api.Commit{}, e
	}
	return c, api.OK
}

// expectCheck fails unless Check and Body answer just this.
func expectCheck(t *testing.T, c api.Commit, want api.Errno) {
	t.Helper()
	if got := commit.Check(c); got != want {
		t.Errorf("Check(%.99v) = %d, want %d", c, got, want)
	}
	body := ""
	if want == api.OK {
		body = plainBody(c)
	}
	if got, e := commit.Body(c); got != body || e != want {
		t.Errorf("Body(%.99v) = %.200q, %d, want %.200q, %d", c, got, e, body, want)
	}
}

// expectParse fails unless Parse answers just this.
func expectParse(t *testing.T, s string, want api.Commit, code api.Errno) {
	t.Helper()
	if got, e := commit.Parse(s); !same(got, want) || e != code {
		t.Errorf("Parse(%.300q) = %.99v, %d, want %.99v, %d", s, got, e, want, code)
	}
}

// P16.1, P16.2: each error, at the edges of its condition, and several at once.
func TestCheck(t *testing.T) {
	expectCheck(t, simple(), api.OK)
	expectCheck(t, api.Commit{}, api.ErrInvalid)
	for _, wrong := range wrongIds {
		c := simple()
		c.Tree = wrong
		expectCheck(t, c, api.ErrInvalid)
		for at := range 2 {
			c = simple()
			c.Parents[at] = wrong
			expectCheck(t, c, api.ErrInvalid)
		}
	}
	for _, text := range texts() {
		c := simple()
		c.Text = text
		expectCheck(t, c, api.OK)
	}
	long := strings.Repeat("x", api.MaxText)
	for _, text := range []string{"\x00", "a\x00", "\x00a", long + "\x00", long[1:] + "\x00"} {
		c := simple()
		c.Text = text
		expectCheck(t, c, api.ErrInvalid)
	}
	c := simple()
	c.Text = long + "x"
	expectCheck(t, c, api.ErrTooLarge)
	c.Parents = []string{id(2), id(2)}
	expectCheck(t, c, api.ErrTooLarge)
	c.Text = long
	expectCheck(t, c, api.ErrDuplicate)
	c.Parents[1] = ""
	expectCheck(t, c, api.ErrInvalid)
	c.Text = long + "x"
	expectCheck(t, c, api.ErrInvalid)
}

// P16.1: how many parents there may be, and which ones.
func TestParents(t *testing.T) {
	for n := range 20 {
		want, repeated := api.OK, api.ErrDuplicate
		if n > api.MaxParents {
			want, repeated = api.ErrTooLarge, api.ErrTooLarge
		}
		c := simple()
		c.Parents = ids(n)
		expectCheck(t, c, want)
		for i := range n {
			for k := range i {
				c.Parents = ids(n)
				c.Parents[i] = c.Parents[k]
				expectCheck(t, c, repeated)
			}
			c.Parents = ids(n)
			c.Parents[i] = "x"
			expectCheck(t, c, api.ErrInvalid)
		}
		if n > 0 {
			c.Parents = ids(n)
			c.Tree = c.Parents[n-1] // not one of the parents
			expectCheck(t, c, want)
		}
	}
}

// P16.2, P16.3: the layout of a body.
func TestBody(t *testing.T) {
	tree, first, second := strings.Repeat("a1", 20), strings.Repeat("0", 40), strings.Repeat("f", 40)
	c := api.Commit{Tree: tree, Parents: []string{second, first}, Author: api.Person{Name: "A B", Mail: "a@b", Time: 5, Zone: 60}, Committer: api.Person{Name: "c", Mail: "d", Time: 7, Zone: -90}, Text: "\none\n\ntwo"}
	want := "tree a1a1a1a1a1a1a1a1a1a1a1a1a1a1a1a1a1a1a1a1\nparent ffffffffffffffffffffffffffffffffffffffff\nparent 0000000000000000000000000000000000000000\nauthor A B <a@b> 5 +0100\ncommitter c <d> 7 -0130\n\n\none\n\ntwo"
	if got, e := commit.Body(c); got != want || e != api.OK {
		t.Errorf("Body = %q, %d", got, e)
	}
	expectParse(t, want, c, api.OK)
	c.Parents, c.Text = nil, ""
	want = "tree a1a1a1a1a1a1a1a1a1a1a1a1a1a1a1a1a1a1a1a1\nauthor A B <a@b> 5 +0100\ncommitter c <d> 7 -0130\n\n"
	if got, e := commit.Body(c); got != want || e != api.OK {
		t.Errorf("Body = %q, %d", got, e)
	}
	expectParse(t, want, c, api.OK)
}

// P16.3, P16.11: texts, numbers of parents and persons of all sorts come back.
func TestRoundTrip(t *testing.T) {
	met := make(map[string]bool)
	try := func(c api.Commit) {
		t.Helper()
		body, e := commit.Body(c)
		if e != api.OK || met[body] {
			t.Errorf("Body(%.99v) = %.200q, %d, which is met: %t", c, body, e, met[body])
		}
		met[body] = true
		expectParse(t, body, c, api.OK)
	}
	for n := 1; n <= api.MaxParents; n++ {
		for _, text := range texts() {
			c := simple()
			c.Parents, c.Text = ids(n), text
			try(c)
			slices.Reverse(c.Parents)
			if n > 1 {
				try(c)
			}
		}
	}
	for p, ok := range persons() {
		if ok {
			c := simple()
			c.Author = p
			try(c)
			c = simple()
			c.Committer = p
			try(c)
		}
	}
}

// P16.3: each error, and which of several is told.
func TestParse(t *testing.T) {
	head := "tree " + id(1) + "\n"
	parent := "parent " + id(2) + "\n"
	author, committer := "author a <a@b> 5 +0000\n", "committer c d <e> 60 -0130\n"
	nobody := " <a@b> 5 +0000\n" // behind a word: a person who isn't valid
	parents := func(n int) string {
		s := ""
		for _, p := range ids(n) {
			s += "parent " + p + "\n"
		}
		return s
	}
	long := strings.Repeat("x", api.MaxText)
	for _, c := range []struct {
		s    string
		want api.Errno
	}{
		{head + parent + author + committer + "\none\n", api.OK},
		{head + author + committer + "\n", api.OK},
		{"", api.ErrSyntax},
		{"\n", api.ErrSyntax},
		{head, api.ErrSyntax},
		{head + author, api.ErrSyntax},
		{head + author + committer, api.ErrSyntax},
		{head + author + committer[:len(committer)-1], api.ErrSyntax},
		{head + author + committer + "one\n", api.ErrSyntax},
		{head + author + committer + " \none\n", api.ErrSyntax},
		{head + author + committer + "\r\none\n", api.ErrSyntax},
		{head + author + committer + "encoding x\n\none\n", api.ErrSyntax},
		{head + author + committer + author + "\none\n", api.ErrSyntax},
		{author + committer + "\none\n", api.ErrSyntax},
		{head + committer + author + "\none\n", api.ErrSyntax},
		{head + committer + "\none\n", api.ErrSyntax},
		{head + author + "\none\n", api.ErrSyntax},
		{head + author + parent + committer + "\none\n", api.ErrSyntax},
		{parent + head + author + committer + "\none\n", api.ErrSyntax},
		{head + head + author + committer + "\none\n", api.ErrSyntax},
		{head + "\n" + author + committer + "\none\n", api.ErrSyntax},
		{"\n" + head + author + committer + "\none\n", api.ErrSyntax},
		{" " + head + author + committer + "\none\n", api.ErrSyntax},
		{"Tree" + head[4:] + author + committer + "\none\n", api.ErrSyntax},
		{"tree\t" + head[5:] + author + committer + "\none\n", api.ErrSyntax},
		{"tree  " + head[5:] + author + committer + "\none\n", api.ErrSyntax},
		{"tree" + head[5:] + author + committer + "\none\n", api.ErrSyntax},
		{"tree\n" + author + committer + "\none\n", api.ErrSyntax},
		{"tree \n" + author + committer + "\none\n", api.ErrSyntax},
		{head[:len(head)-1] + " \n" + author + committer + "\none\n", api.ErrSyntax},
		{head[:len(head)-1] + "\r\n" + author + committer + "\none\n", api.ErrSyntax},
		{strings.ToUpper(head[5:]) + author + committer + "\none\n", api.ErrSyntax},
		{head + "parent\n" + author + committer + "\none\n", api.ErrSyntax},
		{head + "parent \n" + author + committer + "\none\n", api.ErrSyntax},
		{head + "parents " + id(2) + "\n" + author + committer + "\none\n", api.ErrSyntax},
		{head + "parent " + id(2)[1:] + "\n" + author + committer + "\none\n", api.ErrSyntax},
		{head + "parent " + id(2) + "0\n" + author + committer + "\none\n", api.ErrSyntax},
		{head + "parent " + id(2) + " " + id(3) + "\n" + author + committer + "\none\n", api.ErrSyntax},
		{head + "parent " + id(2), api.ErrSyntax},
		{head + "parent ", api.ErrSyntax},
		{head + parent + "parent x\n" + parent + author + committer + "\none\n", api.ErrSyntax},
		{head + "author a <a@b> 05 +0000\n" + committer + "\none\n", api.ErrSyntax},
		{head + author + "committer a <a@b> 5 -0000\n\none\n", api.ErrSyntax},
		{head + "author\n" + committer + "\n", api.ErrSyntax},
		{head + "author \n" + committer + "\n", api.ErrSyntax},
		{head + "author  a <a@b> 5 +0000\n" + committer + "\n", api.ErrInvalid},
		{head + "author" + nobody + committer + "\n", api.ErrSyntax}, // the blank belongs to the word
		{head + "author " + nobody + committer + "\n", api.ErrInvalid},
		{head + author + "committer " + nobody + "\n", api.ErrInvalid},
		{head + "author " + nobody + "committer " + nobody + "\n", api.ErrInvalid},
		{head + "author " + nobody + "committer x\n\n", api.ErrSyntax},
		{head + "author x\ncommitter " + nobody + "\n", api.ErrSyntax},
		{head + "author " + nobody + committer, api.ErrSyntax},
		{head + "parent x\nauthor " + nobody + committer + "\n", api.ErrSyntax},
		{head + "author " + nobody + committer + "\n" + long + "x", api.ErrInvalid},
		{head + parent + parent + "author " + nobody + committer + "\n", api.ErrInvalid},
		{head + "author a\rb <a@b> 5 +0000\n" + committer + "\n", api.ErrInvalid},
		{head + author + committer + "\n\x00", api.ErrInvalid},
		{head + author + committer + "\n" + long + "x\x00", api.ErrInvalid},
		{head + parent + parent + author + committer + "\n\x00", api.ErrInvalid},
		{head + "parent x\n" + author + committer + "\n\x00", api.ErrSyntax},
		{head + author + committer + "\n" + long, api.OK},
		{head + author + committer + "\n" + long + "x", api.ErrTooLarge},
		{head + parents(8) + author + committer + "\n" + long, api.OK},
		{head + parents(9) + author + committer + "\n", api.ErrTooLarge},
		{head + parents(9) + parents(9) + author + committer + "\n", api.ErrTooLarge},
		{head + parents(9) + author + committer, api.ErrSyntax},
		{head + parents(9) + "parent x\n" + author + committer + "\n", api.ErrSyntax},
		{head + parent + parent + author + committer + "\n", api.ErrDuplicate},
		{head + parents(3) + parents(3) + author + committer + "\n", api.ErrDuplicate},
		{head + parent + parent + author + committer + "\n" + long + "x", api.ErrTooLarge},
		{head + parent + parent + author + committer, api.ErrSyntax},
		{head + "parent " + id(1) + "\n" + author + committer + "\n", api.OK},
	} {
		want, e := plainParse(c.s)
		if e != c.want {
			t.Errorf("the reference takes %.300q for %d", c.s, e)
		}
		expectParse(t, c.s, want, c.want)
	}
}

// P16.3: all bodies of a few lines, against a plain reference; whatever Parse takes, Body gives back.
func TestLines(t *testing.T) {
	all := grown(6, "tree "+id(1)+"\n", "parent "+id(2)+"\n", "parent "+id(3)+"\n", "author a <b> 5 +0000\n", "committer a <b> 5 +0000\n", "committer a <> 5 +0000\n", "\n", "x")
	for _, s := range all {
		want, e := plainParse(s)
		expectParse(t, s, want, e)
		if e != api.OK {
			continue
		}
		if back, e := commit.Body(want); back != s || e != api.OK {
			t.Errorf("Body(Parse(%q)) = %q, %d", s, back, e)
		}
	}
}

// P16.3, P16.11: mutants of bodies against a plain reference; whatever Parse takes, Body gives back.
func TestMutants(t *testing.T) {
	bare := simple()
	bare.Parents, bare.Text = nil, ""
	for _, c := range []api.Commit{simple(), bare} {
		mutants(plainBody(c), func(s string) {
			want, e := plainParse(s)
			expectParse(t, s, want, e)
			if e != api.OK {
				return
			}
			if back, e := commit.Body(want); back != s || e != api.OK {
				t.Errorf("Body(Parse(%q)) = %q, %d", s, back, e)
			}
		})
	}
}

// R3: a commit that is handed in stays as it is, beyond the length of its parents, too, and the parents of an answer are new memory.
func TestArguments(t *testing.T) {
	room := append(ids(5), "spare", "spare")
	before := slices.Clone(room)
	c := simple()
	c.Parents = room[:5]
	body, _ := commit.Body(c)
	commit.Check(c)
	parsed, _ := commit.Parse(body)
	again, _ := commit.Parse(body)
	parsed.Parents[0] = "written over"
	if !slices.Equal(room, before) || again.Parents[0] != before[0] {
		t.Errorf("parents are shared: %v, %v", room, again)
	}
}

// P16.3: a long body is read in time that grows with its length alone.
func TestLongBody(t *testing.T) {
	head := "tree " + id(1) + "\n"
	parents := strings.Repeat("parent "+id(2)+"\n", 100000)
	end := "author a <b> 5 +0000\ncommitter a <b> 5 +0000\n\n"
	expectParse(t, head+parents+end, api.Commit{}, api.ErrTooLarge)
	expectParse(t, head+strings.Repeat("parent x\n", 500000)+end, api.Commit{}, api.ErrSyntax)
	expectParse(t, head+end+strings.Repeat("\n", 8<<20), api.Commit{}, api.ErrTooLarge)
	expectParse(t, head+"author "+strings.Repeat("a", 8<<20)+end[8:], api.Commit{}, api.ErrInvalid)
}
