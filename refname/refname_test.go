package refname_test

import (
	"regexp"
	"slices"
	"strings"
	"testing"
	"unsafe"

	"marshes/api"
	"marshes/hash"
	"marshes/refname"
)

// patterns are the chapter's rules in another form: each but the first one is broken where its pattern is found.
func patterns() map[int]*regexp.Regexp {
	return map[int]*regexp.Regexp{
		api.RuleByte:  regexp.MustCompile("[^!-)+-9;->@-Z\\]_-}]"),
		api.RulePart:  regexp.MustCompile("^/|//|/$|^$"),
		api.RuleDot:   regexp.MustCompile(`(^|/)\.`),
		api.RuleDots:  regexp.MustCompile(`\.\.`),
		api.RuleLock:  regexp.MustCompile(`\.lock(/|$)`),
		api.RuleEnd:   regexp.MustCompile(`\.$`),
		api.RuleBrace: regexp.MustCompile(`@\{`),
	}
}

// broken are the numbers of all rules that a name breaks.
func broken(name string, patterns map[int]*regexp.Regexp) []int {
	var l []int
	if len(name) < 1 || len(name) > 100 {
		l = append(l, api.RuleLong)
	}
	for number := api.RuleByte; number <= api.RuleBrace; number++ {
		if patterns[number].MatchString(name) {
			l = append(l, number)
		}
	}
	return l
}

// fits says that a name breaks a rule first, and what follows of that.
func fits(t *testing.T, name string, rule int) {
	t.Helper()
	if got := refname.Breaks(name); got != rule {
		t.Errorf("Breaks(%q): %d, want %d", name, got, rule)
	}
	e, parts := api.ErrName, []string(nil)
	if rule == api.RuleNone {
		e, parts = api.OK, strings.Split(name, "/")
	}
	if got := refname.Check(name); got != e {
		t.Errorf("Check(%q): error %d, want %d", name, got, e)
	}
	if got := refname.Parts(name); !slices.Equal(got, parts) {
		t.Errorf("Parts(%q): %q, want %q", name, got, parts)
	}
}

func all(t *testing.T, rule int, names ...string) {
	t.Helper()
	for _, name := range names {
		fits(t, name, rule)
	}
}

// P4.1: the chapter's examples, those of the whole document, and names that are ordinary.
func TestExamples(t *testing.T) {
	all(t, api.RuleNone, "main", "refs/heads/a.b", "refs/tags/v1", "refs/tags/v1.0.2", "dev", "a/b/c/d", "feature/x-y_z", "A/B", "HEAD")
	all(t, api.RuleLong, "")
	all(t, api.RuleByte, "a b", "a~b")
	all(t, api.RulePart, "a//b")
	all(t, api.RuleDot, ".a")
	all(t, api.RuleDots, "a..b")
	all(t, api.RuleLock, "x.lock/y")
	all(t, api.RuleEnd, "a.")
	all(t, api.RuleBrace, "a@{b")
}

// P4.1: names that look as if they broke a rule, and break none.
func TestAlmost(t *testing.T) {
	all(t, api.RuleNone, "a.b.c", "a.b/c.d", "lock", "a/lock/b", "alock", "a.lockb", "a.locks/b", "a.lock.b", "a.LOCK", "a.Lock/b", "lock.a", "a.loc", "a.lock-/b",
		"@", "{", "@a{", "{@", "a{b", "a@b", "@/{", "@@", "{}", "a/@", "-", "-a", "!", "!/!", "}", "`", "a`b", "'", "\"", "#", "$", "%", "&", "(", ")", "+", ",", ";", "<", "=", ">", "]", "_", "|")
}

// alone are names that break one rule, and no other one.
func alone() map[int][]string {
	hundred := strings.Repeat("a", 100)
	return map[int][]string{
		api.RuleLong:  {hundred + "a", hundred + hundred, strings.Repeat("ab/", 33) + "cd", strings.Repeat("a/b.c", 30)},
		api.RuleByte:  {" ", "a\tb", "a\x00", "\x7f", "a^b", "a:b", "?", "a/*", "[", "a\\b", "~", "a~", "~a", "é", "\xff", "a\nb"},
		api.RulePart:  {"/", "/a", "a/", "a//b", "//", "///", "a///b", "/a/b", "a/b/", "a/b//c", "/lock"},
		api.RuleDot:   {".a", ".a/b", "a/.b", "a/.b/c", "a/b/.c", ".a.b", ".lock.a", ".a/.b"},
		api.RuleDots:  {"a..b", "a...b", "a..b/c", "a/b..c", "a/b../c", "a../b", "a....b", "a..b..c"},
		api.RuleLock:  {"a.lock", "a.lock/b", "b/a.lock", "b/a.lock/c", "a.b.lock", "a.lock.lock", "a/b/c.lock", "a.lock/b.lock"},
		api.RuleEnd:   {"a.", "a/b.", "a.b.", "a.lock.", "refs/heads/main."},
		api.RuleBrace: {"@{", "a@{b", "@{a", "a@{", "a/@{/b", "a@{b}", "a/b@{c", "@@{", "@{{"},
	}
}

// P4.1: each rule broken alone is told by its number.
func TestEachRule(t *testing.T) {
	patterns := patterns()
	for rule, names := range alone() {
		for _, name := range names {
			if l := broken(name, patterns); !slices.Equal(l, []int{rule}) {
				t.Fatalf("%q breaks %d, not %d alone", name, l, rule)
			}
			fits(t, name, rule)
		}
	}
}

// P4.1: of several rules that a name breaks the first one is told, for each two of them that can be broken together.
func TestSeveral(t *testing.T) {
	both := map[[2]int]string{
		{1, 2}: strings.Repeat(" ", 101), {1, 3}: strings.Repeat("/", 101), {1, 4}: "." + strings.Repeat("a", 100), {1, 5}: strings.Repeat("a..", 34) + "b",
		{1, 6}: strings.Repeat("a", 96) + ".lock", {1, 7}: strings.Repeat("a", 100) + ".", {1, 8}: "@{" + strings.Repeat("a", 99),
		{2, 3}: "a b/", {2, 4}: ".a b", {2, 5}: "a b..c", {2, 6}: "a b.lock", {2, 7}: "a b.", {2, 8}: "a b@{",
		{3, 4}: "/.a", {3, 5}: "a..b/", {3, 6}: "/a.lock", {3, 7}: "/a.", {3, 8}: "a@{//b",
		{4, 5}: ".a..b", {4, 6}: ".lock", {4, 7}: ".a.", {4, 8}: ".a@{", {5, 6}: "a..lock", {5, 7}: "a..", {5, 8}: "a..@{",
		{6, 7}: "a.lock/b.", {6, 8}: "@{.lock", {7, 8}: "@{.",
	}
	patterns := patterns()
	for two, name := range both {
		l := broken(name, patterns)
		if len(l) < 2 || l[0] != two[0] || !slices.Contains(l, two[1]) {
			t.Fatalf("%q breaks %d, not %d", name, l, two)
		}
		fits(t, name, two[0])
	}
	all(t, api.RulePart, "//..", "/", "./", "../", "a//.lock")
	all(t, api.RuleDot, ".", "..", "./a", "a/.", "a/..", "..a", "a/..b", ".lock", "a/.lock", ".lock/a")
	all(t, api.RuleByte, " /..@{.lock.", "~..", "a/~")
	fits(t, strings.Repeat("~..@{/.lock", 10)+".", api.RuleLong)
}

// P4.1: names of no byte, of 1, of 100 and of 101 bytes: bytes are counted, not letters.
func TestLengths(t *testing.T) {
	all(t, api.RuleLong, "", strings.Repeat("a", 101), strings.Repeat("a/", 50)+"a", strings.Repeat("a", 1<<20), strings.Repeat("é", 51), strings.Repeat("\x80", 101))
	all(t, api.RuleNone, "a", strings.Repeat("a", 99), strings.Repeat("a", 100), strings.Repeat("a/", 49)+"aa")
	all(t, api.RuleByte, strings.Repeat("é", 50), strings.Repeat("\x80", 100), " ", "\xff")
	all(t, api.RulePart, strings.Repeat("/", 100), "/", strings.Repeat("a/", 50))
	for size := 1; size <= 300; size++ {
		rule := api.RuleNone
		if size > 100 {
			rule = api.RuleLong
		}
		fits(t, strings.Repeat("x", size), rule)
	}
}

// mayBe says whether a byte may be in a name.
func mayBe(b byte) bool {
	return b >= 0x21 && b <= 0x7E && !slices.Contains([]byte{'~', '^', ':', '?', '*', '[', '\\'}, b)
}

// P4.1: each byte, alone, at the beginning, within and at the end.
func TestBytes(t *testing.T) {
	count := 0
	for n := range 256 {
		b := byte(n)
		one := string([]byte{b})
		names := []string{one, one + "a", "a" + one + "a", "a" + one, "a/" + one + "/b", "b/a" + one, one + one, one + "\xc3"}
		if !mayBe(b) {
			all(t, api.RuleByte, names...)
			continue
		}
		count++
		all(t, api.RuleNone, "a"+one+"a")
		all(t, api.RuleByte, one+"\xc3", one+"\x7f", one+" ", "\x00"+one)
		if b != '.' && b != '/' {
			all(t, api.RuleNone, names[:len(names)-1]...)
		}
	}
	if count != 0x7E-0x20-7 {
		t.Errorf("%d bytes may be", count)
	}
	all(t, api.RuleNone, "!", "!a!", "}")
	all(t, api.RuleByte, "~", "\x20", "\x7f", "a\x7fb", "\x80", "\x1f")
}

// P4.1: bytes that are no text, and text that is not of single bytes.
func TestNoText(t *testing.T) {
	all(t, api.RuleByte, "\xc3", "a\xc3\xa9b", "\xff\xfe", "\xed\xa0\x80", "\xf4\x90\x80\x80", "\xc0\xa1", "a\xe2\x82", "\ufffd", "\U0001F600", "a\u00adb", "Ａ", "．a", "a\u2024")
	for first := 0x80; first < 0x100; first++ {
		for second := 0; second < 0x100; second++ {
			if name := string([]byte{byte(first), byte(second)}); refname.Breaks(name) != api.RuleByte {
				t.Errorf("%x: %d", name, refname.Breaks(name))
			}
		}
	}
}

// P4.1: a part that may not be, at the beginning, within and at the end of a name.
func TestPartPlaces(t *testing.T) {
	for part, rule := range map[string]int{"": api.RulePart, ".": api.RuleDot, ".x": api.RuleDot, ".lock": api.RuleDot, "x.lock": api.RuleLock, "..": api.RuleDot, "x..y": api.RuleDots, "x@{": api.RuleBrace, "x y": api.RuleByte, "x.": api.RuleNone} {
		all(t, rule, part+"/b", part+"/b/c", "a/"+part+"/c", "a/b/"+part+"/c/d")
		if part == "x." {
			rule = api.RuleEnd
		}
		all(t, rule, "a/"+part, "a/b/"+part)
	}
}

// P4.1: all names of up to five tokens, as the patterns say.
func TestAgainstPatterns(t *testing.T) {
	patterns := patterns()
	tokens := []string{"a", ".", "/", "@", "{", "lock", ".lock", "~", "é"}
	met := map[int]int{}
	var try func(name string, left int)
	try = func(name string, left int) {
		rule := api.RuleNone
		if l := broken(name, patterns); len(l) > 0 {
			rule = l[0]
		}
		met[rule]++
		fits(t, name, rule)
		if left == 0 {
			return
		}
		for _, token := range tokens {
			try(name+token, left-1)
		}
	}
	try("", 5)
	for rule := api.RuleNone; rule <= api.RuleBrace; rule++ {
		if met[rule] == 0 {
			t.Errorf("no name broke rule %d first", rule)
		}
	}
}

// refs are refs' names, and tips ids.
func refs() []string {
	return []string{"main", "a", "a/b", "refs/heads/a.b", "!", "}", "a@b", strings.Repeat("a", 100), "a/" + strings.Repeat("0", 64), strings.Repeat("f", 64)}
}

func tips() []api.ID {
	var ones api.ID
	for i := range ones {
		ones[i] = 0xFF
	}
	return []api.ID{{}, ones, {1, 2, 3}, {31: 1}, hash.Of(), hash.Of([]byte("abc"))}
}

// P4.2, P4.4: conflict names, made and split; none of them is a ref's name, and no two unlike ones are the same.
func TestConflict(t *testing.T) {
	if got, e := refname.Conflict("main", hash.Of([]byte("abc"))); e != api.OK || got != "main~ba7816bf8f01cfea414140de5dae2223b00361a396177a9cb410ff61f20015ad" {
		t.Errorf("that of main: %q, error %d", got, e)
	}
	met := map[string]string{}
	for _, ref := range refs() {
		fits(t, ref, api.RuleNone)
		if got, tip, conflict, e := refname.Split(ref); got != ref || tip != (api.ID{}) || conflict || e != api.OK {
			t.Errorf("Split(%q): %q, %x, %v, error %d", ref, got, tip, conflict, e)
		}
		for _, tip := range tips() {
			name, e := refname.Conflict(ref, tip)
			if e != api.OK || name != ref+"~"+hash.Text(tip) {
				t.Errorf("Conflict(%q, %x): %q, error %d", ref, tip, name, e)
			}
			if refname.Breaks(name) == api.RuleNone {
				t.Errorf("%q is a ref's name", name)
			}
			if len(ref) == 4 {
				fits(t, name, api.RuleByte)
			}
			back, id, conflict, e := refname.Split(name)
			if back != ref || id != tip || !conflict || e != api.OK {
				t.Errorf("Split(%q): %q, %x, %v, error %d", name, back, id, conflict, e)
			}
			if again, e := refname.Conflict(back, id); again != name || e != api.OK {
				t.Errorf("%q, split and made again: %q, error %d", name, again, e)
			}
			made := ref + " and " + hash.Text(tip)
			if other, ok := met[name]; ok {
				t.Errorf("%q is that of %s, and of %s", name, made, other)
			}
			met[name] = made
		}
	}
}

// none are names that are none of a ref's.
func none() []string {
	l := []string{"", "main~" + hash.Text(api.ID{1})}
	for _, names := range alone() {
		l = append(l, names...)
	}
	return l
}

// noName says that neither a listed name's parts nor anything else is answered but the error.
func noName(t *testing.T, name string) {
	t.Helper()
	if ref, tip, conflict, e := refname.Split(name); ref != "" || tip != (api.ID{}) || conflict || e != api.ErrName {
		t.Errorf("Split(%q): %q, %x, %v, error %d", name, ref, tip, conflict, e)
	}
}

// P4.2: conflict names of refs that are none, made or split.
func TestConflictWrong(t *testing.T) {
	for _, ref := range none() {
		for _, tip := range tips() {
			if name, e := refname.Conflict(ref, tip); name != "" || e != api.ErrName {
				t.Errorf("Conflict(%q, ..): %q, error %d", ref, name, e)
			}
			noName(t, ref+"~"+hash.Text(tip))
		}
	}
	for _, name := range none()[2:] {
		noName(t, name)
	}
	noName(t, "")
}

// P4.2: names with a tilde that are no conflict names.
func TestSplitWrong(t *testing.T) {
	text := hash.Text(hash.Of([]byte("abc")))
	for _, name := range []string{
		"main~", "~", "~" + text, "main~x", "main~main", "main~0", text + "~", "~" + text + "~", "~~",
		"main~" + strings.ToUpper(text), "main~" + strings.Replace(text, "b", "B", 1), "main~" + text[:63] + "D",
		"main~" + text[:63], "main~" + text[1:], "main~" + text + "0", "main~0" + text, "main~" + text + "f", "main~" + text + text,
		"main~~" + text, "main~" + text + "~", "main~" + text + "~" + text, "main~a~" + text, "~main~" + text, "main~" + text[:32] + "~" + text[32:], "main~" + text[:63] + "~",
		"main~" + text[:63] + "g", "main~" + text[:63] + " ", "main~ " + text[1:], "main~" + text + " ", "main ~" + text, "main~" + text + "/a", "main~/" + text, "main/~" + text, "main.~" + text,
		"main~" + text[:62] + "é", "main^" + text, "main" + "\x7e" + text[:63] + "\x00", strings.Repeat("a", 101) + "~" + text, strings.Repeat("a", 101), strings.Repeat("~", 200), strings.Repeat("a~", 1<<16),
	} {
		noName(t, name)
		if refname.Breaks(name) == api.RuleNone {
			t.Errorf("%q is a ref's name", name)
		}
	}
	for place := range text {
		for n := range 256 {
			b := []byte("main~" + text)
			b[5+place] = byte(n)
			if n >= '0' && n <= '9' || n >= 'a' && n <= 'f' {
				if ref, tip, conflict, e := refname.Split(string(b)); ref != "main" || hash.Text(tip) != string(b[5:]) || !conflict || e != api.OK {
					t.Errorf("Split(%q): %q, %x, %v, error %d", b, ref, tip, conflict, e)
				}
				continue
			}
			noName(t, string(b))
		}
	}
}

// P4.2: a name within itself, and within what it begins with and a slash.
func TestWithin(t *testing.T) {
	for _, x := range []struct {
		name, front string
		want        bool
	}{
		{"a", "a", true}, {"a/b", "a/b", true}, {"a/b", "a", true}, {"a/b/c", "a", true}, {"a/b/c", "a/b", true}, {"a/a", "a", true}, {"refs/heads/main", "refs/heads", true},
		{"a", "a/b", false}, {"ab", "a", false}, {"ab/c", "a", false}, {"a.b", "a", false}, {"a-/b", "a", false}, {"a/bc", "a/b", false}, {"b/a", "a", false}, {"b", "a", false}, {"A/b", "a", false}, {"a/b", "b", false}, {"x/a/b", "a/b", false},
		{"a/b", "a/", false}, {"a/", "a", false}, {"a//b", "a", false}, {"a/b", "", false}, {"", "", false}, {"", "a", false}, {"/a", "", false}, {"a/", "a/", false}, {"a/.b", "a", false}, {"a/b.lock", "a", false}, {"a.lock/b", "a.lock", false}, {"a b/c", "a b", false}, {"a/b c", "a", false}, {"a/b.", "a", false}, {"a./b", "a.", false}, {"a~b", "a~b", false}, {".", ".", false}, {"a@{/b", "a@{", false},
	} {
		if got := refname.Within(x.name, x.front); got != x.want {
			t.Errorf("Within(%q, %q): %v", x.name, x.front, got)
		}
	}
	long := strings.Repeat("a", 98)
	if !refname.Within(long+"/b", long) || refname.Within(long+"/bc", long) || refname.Within(long+"aaa", long+"aaa") {
		t.Error("about the longest names: wrong")
	}
	conflict, _ := refname.Conflict("a", api.ID{})
	if refname.Within(conflict, "a") || refname.Within(conflict, conflict) || refname.Within("a", conflict) {
		t.Error("a conflict name is within something, or something in it")
	}
	for _, ref := range refs() {
		for _, wrong := range none() {
			if refname.Within(ref, wrong) || refname.Within(wrong, ref) || refname.Within(wrong, wrong) {
				t.Errorf("%q and %q: within", ref, wrong)
			}
		}
		if !refname.Within(ref, ref) {
			t.Errorf("%q: not within itself", ref)
		}
	}
}

// P4.2: of all names of few parts, one is within another one just if that one's parts are its first ones.
func TestWithinParts(t *testing.T) {
	var names []string
	for _, a := range []string{"a", "b", "ab", "a.b"} {
		names = append(names, a)
		for _, b := range []string{"a", "b", "ab"} {
			names = append(names, a+"/"+b, a+"/"+b+"/a", a+"/"+b+"/b")
		}
	}
	for _, name := range names {
		for _, front := range names {
			parts, first := refname.Parts(name), refname.Parts(front)
			want := len(parts) >= len(first) && slices.Equal(parts[:len(first)], first)
			if got := refname.Within(name, front); got != want {
				t.Errorf("Within(%q, %q): %v", name, front, got)
			}
		}
	}
}

// P4.1: a name's parts, in their order.
func TestParts(t *testing.T) {
	for name, want := range map[string][]string{"main": {"main"}, "a/b": {"a", "b"}, "refs/heads/a.b": {"refs", "heads", "a.b"}, "a/a/a": {"a", "a", "a"}, "c/b/a": {"c", "b", "a"}} {
		if got := refname.Parts(name); !slices.Equal(got, want) {
			t.Errorf("Parts(%q): %q", name, got)
		}
	}
	if got := refname.Parts(strings.Repeat("a/", 49) + "aa"); len(got) != 50 || got[49] != "aa" {
		t.Errorf("of 50 parts: %q", got)
	}
	for _, name := range none() {
		if got := refname.Parts(name); len(got) != 0 {
			t.Errorf("Parts(%q): %q", name, got)
		}
	}
}

// P4.3: what is answered lies in memory of its own: it stays when that of what was handed in becomes another one, and no list is another one's.
func TestNewMemory(t *testing.T) {
	tip := hash.Of([]byte("abc"))
	for _, text := range []string{"a", "main", "refs/heads/main", strings.Repeat("a/", 49) + "aa"} {
		memory := []byte(text + "~" + hash.Text(tip))
		ref := unsafe.String(&memory[0], len(text))
		listed := unsafe.String(&memory[0], len(memory))
		parts := refname.Parts(ref)
		name, _ := refname.Conflict(ref, tip)
		plain, _, _, _ := refname.Split(ref)
		split, id, _, _ := refname.Split(listed)
		for i := range memory {
			memory[i] = '#'
		}
		if !slices.Equal(parts, strings.Split(text, "/")) || name != text+"~"+hash.Text(tip) || plain != text || split != text || id != tip {
			t.Errorf("%q: an answer became %q, %q, %q, %q", text, parts, name, plain, split)
		}
		again := refname.Parts(text)
		for i := range again {
			again[i] = "#"
		}
		if !slices.Equal(refname.Parts(text), parts) {
			t.Errorf("%q: the list of parts is kept", text)
		}
	}
}
