package tests

import (
	"fmt"
	"maps"
	"math/rand"
	"regexp"
	"slices"
	"strings"
	"testing"

	"loop.example/buildengine/impl"
)

// entry is short for the literal of an entry.
func entry(target, body, text string, reads ...impl.File) impl.Entry {
	return impl.Entry{Target: target, Body: body, Reads: reads, Text: text}
}

// storeText writes a store, which need not be valid, as the document says.
func storeText(list []impl.Entry) string {
	s := ""
	for _, e := range list {
		s += "entry " + e.Target + " " + e.Body + "\n"
		for _, f := range e.Reads {
			s += "read " + f.Path + " " + f.Text + "\n"
		}
		s += "text " + e.Text + "\n"
	}
	return s
}

func sameEntry(a, b impl.Entry) bool {
	return a.Target == b.Target && a.Body == b.Body && slices.Equal(a.Reads, b.Reads) && a.Text == b.Text
}

func sameStore(a, b []impl.Entry) bool {
	return slices.EqualFunc(a, b, sameEntry)
}

func isZeroEntry(e impl.Entry) bool {
	return e.Target == "" && e.Body == "" && len(e.Reads) == 0 && e.Text == ""
}

// manyEntries returns n honest entries, whose targets are aa, ab, ac and so on.
func manyEntries(n int) []impl.Entry {
	var list []impl.Entry
	for i := range n {
		number := fmt.Sprint(i)
		list = append(list, entry("a"+string(rune('a'+i)), "('"+number+"'@'z')", number+"x", file("z", "x")))
	}
	return list
}

// fullEntry has as many reads as an entry may have, in descending order, and is honest.
func fullEntry() impl.Entry {
	reads := manyFiles(12)
	slices.Reverse(reads)
	reads[1].Text, reads[2].Text, reads[3].Text = "j", "i", ""
	reads[5].Text, reads[6].Text, reads[7].Text = "f", "e", ""
	reads[8].Text, reads[9].Text, reads[10].Text = "c", "b", "a"
	reads[0].Text, reads[4].Text, reads[11].Text = "k", "g", x60
	return entry("t", "(@@@@'l'@@@@'h'@@@@'d')", x60, reads...)
}

// validEntries returns entries that are valid, of which some are honest.
func validEntries() []impl.Entry {
	z60 := strings.Repeat("~", 60)
	reads := manyFiles(12)
	slices.Reverse(reads)
	return []impl.Entry{
		fullEntry(), entry("a", "''", ""), entry("a", "()", ""), entry("zzzzzzzz", "'~'", z60), entry("a", "'"+z60+"'", " "), entry("a", textOf(join20()), "x"), entry("a", "' '", "'"),
		entry("b", "@'a'", "x", file("a", "x")), entry("b", "@'a'", "", file("a", "")), entry("b", "@'a'", "text", file("a", "'")), entry("a", "@'b'", "x", file("b", z60), file("aa", ""), file("abcdefgh", "  ")),
		entry("m", "''", "", manyFiles(12)...), entry("m", "''", "", reads...), entry("bb", "''", "", file("b", "x"), file("bbb", "x"), file("a", "x")),
	}
}

// invalidBodies are strings that are not the text of an expression.
var invalidBodies = []string{
	"", " ", "a", "'", "'a", " 'a'", "'a' ", "'a'\n", "'a''b'", "'a'b", "@", "@a", "@'a'@'b'", "@@@@@@'a'", "(", "(()", "('a' 'b')", "(@'a','b')", "(()()()()())", "((((((()))))))", "<<", "##'a", "['a'='b'?'c']", "['a'='b'?'c':'d'", "['a'='b':'c'?'d']", "[]",
	"'a\nb'", "'\x7f'", "'\u00e9'", "\xff", "'" + strings.Repeat("x", 61) + "'", "<" + textOf(join20()), textOf(join20()) + textOf(join20()),
}

// invalidTexts are strings that are not texts.
var invalidTexts = []string{"\n", "x\n", "\t", "\x1f", "\x7f", "\u00e9", "\xff", strings.Repeat("x", 61)}

// invalidEntries returns entries with the target c or none, which are not valid, by what is wrong with them.
func invalidEntries() map[string]impl.Entry {
	a, b := file("a", "x"), file("b", "")
	list := map[string]impl.Entry{
		"zero value":             {},
		"13 reads":               entry("zz", "''", "", manyFiles(13)...),
		"13 reads of 12 paths":   entry("zz", "''", "", append(manyFiles(12), a)...),
		"many reads":             entry("zz", "''", "", slices.Repeat(manyFiles(20), 1000)...),
		"path twice":             entry("c", "@'a'", "x", a, a),
		"path twice, two texts":  entry("c", "@'a'", "x", a, file("a", "y")),
		"path twice, at the end": entry("c", "@'a'", "x", b, a, file("d", ""), file("a", "")),
		"only read is itself":    entry("c", "@'c'", "x", file("c", "x")),
		"first read is itself":   entry("c", "''", "", file("c", ""), a, b),
		"last read is itself":    entry("c", "''", "", a, b, file("c", "x")),
		"full, reads itself":     entry("f", "''", "", manyFiles(12)...),
	}
	for _, target := range invalidTargets {
		list[fmt.Sprintf("target %q", target)] = entry(target, "''", "", a)
		list[fmt.Sprintf("path of the only read %q", target)] = entry("c", "''", "", file(target, "x"))
		list[fmt.Sprintf("path of the last read %q", target)] = entry("c", "''", "", a, b, file(target, "x"))
	}
	for _, text := range invalidTexts {
		list[fmt.Sprintf("text %q", text)] = entry("c", "''", text)
		list[fmt.Sprintf("text of the first read %q", text)] = entry("c", "''", "", file("a", text), b)
		list[fmt.Sprintf("text of the last read %q", text)] = entry("c", "''", "", a, file("b", text))
	}
	for _, body := range invalidBodies {
		list[fmt.Sprintf("body %q", body)] = entry("c", body, "")
		list[fmt.Sprintf("body %q with reads", body)] = entry("c", body, "x", a, b)
	}
	return list
}

func TestStoreLimits(t *testing.T) {
	if impl.MaxReads != 12 || impl.MaxEntries != 20 {
		t.Error("a limit of stores has another value than in the document")
	}
}

func TestEntryValid(t *testing.T) {
	for _, e := range append(validEntries(), manyEntries(20)...) {
		if !impl.EntryValid(e) {
			t.Errorf("EntryValid refuses %q", storeText([]impl.Entry{e}))
		}
	}
	for n := range 16 {
		if got := impl.EntryValid(entry("zz", "''", "", manyFiles(n)...)); got != (n <= 12) {
			t.Errorf("EntryValid with %d reads = %v", n, got)
		}
	}
	for n := range 70 {
		long := strings.Repeat("z", n)
		if got := impl.EntryValid(entry("c", "''", long)); got != (n <= 60) {
			t.Errorf("EntryValid with a text of %d = %v", n, got)
		}
		if got := impl.EntryValid(entry("c", "''", "", file("a", long))); got != (n <= 60) {
			t.Errorf("EntryValid with a read text of %d = %v", n, got)
		}
		if got := impl.EntryValid(entry(long, "''", "", file("a", ""))); got != (n >= 1 && n <= 8) {
			t.Errorf("EntryValid with a target of %d = %v", n, got)
		}
		if got := impl.EntryValid(entry("c", "''", "", file(long, ""))); got != (n >= 1 && n <= 8) {
			t.Errorf("EntryValid with a read path of %d = %v", n, got)
		}
	}
	for _, e := range sampleExprs() {
		if !impl.EntryValid(entry("c", textOf(e), "")) {
			t.Errorf("EntryValid refuses the body %s", textOf(e))
		}
	}
	for what, e := range invalidEntries() {
		if impl.EntryValid(e) || impl.EntryHonest(e) {
			t.Errorf("EntryValid or EntryHonest accepts an entry with this fault: %s", what)
		}
	}
}

// honestModel decides whether a valid entry is honest by the model of the project that the document names.
func honestModel(e impl.Entry) bool {
	alone := impl.Project{Sources: slices.Clone(e.Reads), Rules: []impl.Rule{rule(e.Target, e.Body)}}
	slices.SortFunc(alone.Sources, func(a, b impl.File) int { return strings.Compare(a.Path, b.Path) })
	m := newBuildModel(alone)
	return m.of(e.Target) == outcome{impl.BuildFine, e.Text} && slices.Equal(m.reads[e.Target], pathsOf(e))
}

func pathsOf(e impl.Entry) []string {
	var list []string
	for _, f := range e.Reads {
		list = append(list, f.Path)
	}
	return list
}

func TestEntryHonest(t *testing.T) {
	a, b, m := file("a", "x"), file("b", "y"), file("m", "1")
	for _, c := range []struct {
		want bool
		e    impl.Entry
	}{
		{true, entry("d", "(@'a'@'b')", "xy", a, b)}, {true, entry("d", "(@'b'@'a')", "yx", b, a)}, {true, entry("d", "(@'a'@'b'@'a')", "xyx", a, b)}, {true, entry("a", "(@'d'@'b')", "xy", file("d", "x"), b)},
		{true, entry("d", "''", "")}, {true, entry("d", "()", "")}, {true, entry("d", "'a b'", "a b")}, {true, entry("d", "@'a'", "", file("a", ""))}, {true, entry("d", "<@'a'", "", file("a", ""))}, {true, entry("d", "#@'a'", "0", file("a", ""))}, {true, entry("d", "@@'k'", "x", file("k", "a"), a)},
		{true, entry("d", "[@'m'='1'?@'a':@'b']", "x", m, a)}, {true, entry("d", "[@'m'='2'?@'a':@'b']", "y", m, b)}, {true, entry("d", "['a'='a'?'c':@'d']", "c")}, {true, entry("d", "(@'l')", x60, file("l", x60))}, {true, fullEntry()},
		// Another text, also an empty one.
		{false, entry("d", "(@'a'@'b')", "yx", a, b)}, {false, entry("d", "(@'a'@'b')", "", a, b)}, {false, entry("d", "(@'a'@'b')", "xy ", a, b)}, {false, entry("d", "'a'", "")}, {false, entry("d", "''", "a")}, {false, entry("d", "''", " ")}, {false, entry("d", "@'a'", "a", a)}, {false, entry("d", "@'a'", " ", file("a", ""))}, {false, entry("d", "#@'a'", "", file("a", ""))},
		// The same reads in another order.
		{false, entry("d", "(@'a'@'b')", "xy", b, a)}, {false, entry("d", "(@'b'@'a'@'b')", "yxy", a, b)}, {false, entry("d", "@@'k'", "x", a, file("k", "a"))}, {false, entry("d", "[@'m'='1'?@'a':@'b']", "x", a, m)},
		// A body that reads more than the entry records.
		{false, entry("d", "(@'a'@'b')", "xy", a)}, {false, entry("d", "(@'a'@'b')", "x", a)}, {false, entry("d", "(@'a'@'b')", "y", b)}, {false, entry("d", "(@'a'@'b')", "xy")}, {false, entry("d", "@'a'", "")}, {false, entry("d", "@@'k'", "", file("k", "a"))}, {false, entry("d", "@@'k'", "x", a)}, {false, entry("d", "[@'m'='1'?@'a':@'b']", "x", m, b)}, {false, entry("d", "[@'m'='1'?@'a':@'b']", "", m)},
		// A body that reads less than the entry records.
		{false, entry("d", "(@'a'@'b')", "xy", a, b, m)}, {false, entry("d", "(@'a'@'b')", "xy", m, a, b)}, {false, entry("d", "(@'a'@'b')", "xy", a, m, b)}, {false, entry("d", "''", "", a)}, {false, entry("d", "@'a'", "x", a, b)}, {false, entry("d", "[@'m'='1'?@'a':@'b']", "x", m, a, b)}, {false, entry("d", "['a'='a'?'c':@'a']", "c", a)},
		// A body without a text.
		{false, entry("d", "@'d'", "")}, {false, entry("d", "(@'a'@'d')", "x", a)}, {false, entry("d", "@@'k'", "", file("k", "d"))}, {false, entry("d", "@''", "")}, {false, entry("d", "@'A'", "")}, {false, entry("d", "@@'a'", "", file("a", ""))}, {false, entry("d", "(@'l''y')", x60, file("l", x60))}, {false, entry("d", "(@'l''y')", "", file("l", x60))}, {false, entry("d", "#(@'l''y')", "61", file("l", x60))}, {false, entry("d", "(@'a'@'none')", "x", a)},
	} {
		if got := impl.EntryHonest(c.e); got != c.want || honestModel(c.e) != c.want {
			t.Errorf("EntryHonest of %q = %v", storeText([]impl.Entry{c.e}), got)
		}
	}
	for _, e := range append(validEntries(), manyEntries(20)...) {
		if got := impl.EntryHonest(e); got != honestModel(e) {
			t.Errorf("EntryHonest of %q = %v", storeText([]impl.Entry{e}), got)
		}
	}
}

// orderedReads returns all lists of reads of some of the paths a, b and c, in any order, with these texts.
func orderedReads(texts ...string) [][]impl.File {
	lists := [][]impl.File{nil}
	for i := 0; i < len(lists); i++ {
		for _, path := range []string{"a", "b", "c"} {
			if _, again := impl.FindFile(lists[i], path); again {
				continue
			}
			for _, text := range texts {
				lists = append(lists, append(slices.Clone(lists[i]), file(path, text)))
			}
		}
	}
	return lists
}

// Of all entries with a body and the same files as its reads, in any order, at most one is honest: the one that the model says.
func TestHonestEntriesAreDeterminedByBodyAndReads(t *testing.T) {
	lists := orderedReads("", "a", "cb")
	honest := 0
	for _, body := range []string{
		"''", "'a'", "@'a'", "@'b'", "@'d'", "@@'a'", "@<@'c'", "(@'a'@'b')", "(@'b'@'a')", "(@'c'@'a'@'c'@'b')", "(@'a'@@'b')", "(@@'b'@'a')", "@(@'a'@'b')", "@@@'a'", "<@'b'", ">@'c'", "##@'b'",
		"[@'a'=@'b'?'a':'b']", "[@'b'=@'a'?'a':'b']", "[@'a'=''?@'b':@'c']", "[@'a'='a'?@'c':@<@'a']", "[@'a'='a'?@'c':@'d']", "[@'a'=@'b'?@'c':'']", "(@'a'[@'a'=''?'':@'b']@'b')",
	} {
		found := map[string]impl.Entry{}
		for _, reads := range lists {
			for _, text := range []string{"", "a", "b", "cb", "aa", "acb", "cba", "1"} {
				e := entry("d", body, text, reads...)
				got := impl.EntryHonest(e)
				if got != honestModel(e) {
					t.Fatalf("EntryHonest of %q = %v", storeText([]impl.Entry{e}), got)
				}
				if !got {
					continue
				}
				honest++
				sorted := slices.Clone(reads)
				slices.SortFunc(sorted, func(a, b impl.File) int { return strings.Compare(a.Path, b.Path) })
				if other, twice := found[filesText(sorted)]; twice {
					t.Fatalf("the body and the reads do not determine which is honest: %v or %v", other, e)
				}
				found[filesText(sorted)] = e
			}
		}
	}
	if honest < 100 {
		t.Errorf("only %d entries are honest", honest)
	}
}

// changedEntries returns entries that differ from e in one place.
func changedEntries(e impl.Entry) []impl.Entry {
	list := []impl.Entry{
		{Target: e.Target + "x", Body: e.Body, Reads: e.Reads, Text: e.Text},
		{Target: e.Target, Body: e.Body + "x", Reads: e.Reads, Text: e.Text},
		{Target: e.Target, Body: "(" + e.Body + "@'q')", Reads: e.Reads, Text: e.Text},
		{Target: e.Target, Body: "['a'='a'?" + e.Body + ":'']", Reads: e.Reads, Text: e.Text},
		{Target: e.Target, Body: e.Body, Reads: e.Reads, Text: e.Text + "x"},
		{Target: e.Target, Body: e.Body, Reads: e.Reads, Text: " " + e.Text},
	}
	if e.Text != "" {
		list = append(list, impl.Entry{Target: e.Target, Body: e.Body, Reads: e.Reads}, impl.Entry{Target: e.Target, Body: e.Body, Reads: e.Reads, Text: e.Text[1:]})
	}
	change := func(reads []impl.File) {
		if !slices.Equal(reads, e.Reads) {
			list = append(list, impl.Entry{Target: e.Target, Body: e.Body, Reads: reads, Text: e.Text})
		}
	}
	for i := range len(e.Reads) + 1 {
		change(slices.Insert(slices.Clone(e.Reads), i, file("q", "x")))
	}
	for i, f := range e.Reads {
		change(slices.Delete(slices.Clone(e.Reads), i, i+1))
		for _, changed := range []impl.File{file(f.Path, f.Text+"x"), file(f.Path, ""), file("q", f.Text)} {
			reads := slices.Clone(e.Reads)
			reads[i] = changed
			change(reads)
		}
		for j := range i {
			reads := slices.Clone(e.Reads)
			reads[i], reads[j] = reads[j], reads[i]
			change(reads)
		}
	}
	return list
}

// randomEntries returns the entries of the targets of random projects, as the model sees them.
func randomEntries(seed int64, projects int) []impl.Entry {
	r := rand.New(rand.NewSource(seed))
	var list []impl.Entry
	for range projects {
		p := randomProject(r)
		m := newBuildModel(p)
		for _, rule := range p.Rules {
			if e, ok := entryModel(p, m, rule.Target); ok {
				list = append(list, e)
			}
		}
	}
	return list
}

// entryModel returns the entry of a target, if it has one.
func entryModel(p impl.Project, m buildModel, target string) (impl.Entry, bool) {
	o := m.of(target)
	reads, isTarget := m.reads[target]
	if !isTarget || o.code != impl.BuildFine || len(reads) > 12 {
		return impl.Entry{}, false
	}
	e := entry(target, "", o.text)
	for _, r := range p.Rules {
		if r.Target == target {
			e.Body = textOf(r.Body)
		}
	}
	for _, path := range reads {
		e.Reads = append(e.Reads, file(path, m.of(path).text))
	}
	return e, true
}

func TestEntryHonestOfChangedEntries(t *testing.T) {
	honest, not := 0, 0
	for _, e := range append(randomEntries(5, 1500), validEntries()...) {
		for _, changed := range append(changedEntries(e), e) {
			valid := impl.EntryValid(changed)
			want := valid && honestModel(changed)
			if got := impl.EntryHonest(changed); got != want {
				t.Fatalf("EntryHonest of %q = %v", storeText([]impl.Entry{changed}), got)
			}
			if want {
				honest++
			} else if valid {
				not++
			}
		}
	}
	if honest < 2000 || not < 2000 {
		t.Errorf("%d changed entries are honest, and %d are valid only", honest, not)
	}
}

func checkMakeEntry(t *testing.T, p impl.Project, m buildModel, target string) bool {
	t.Helper()
	want, has := entryModel(p, m, target)
	got, ok := impl.MakeEntry(p, target)
	if ok != has || !sameEntry(got, want) {
		t.Fatalf("MakeEntry of %q = %v, %v, not %v, %v, in %q", target, got, ok, want, has, projectText(p))
	}
	if ok && (!impl.EntryValid(got) || !impl.EntryHonest(got)) {
		t.Fatalf("MakeEntry of %q returns %v, which is not honest, in %q", target, got, projectText(p))
	}
	return ok
}

func TestMakeEntryAgainstModel(t *testing.T) {
	r := rand.New(rand.NewSource(50))
	made, reads := map[bool]int{}, 0
	for range 3000 {
		p := randomProject(r)
		m := newBuildModel(p)
		for _, path := range append(impl.ProjectPaths(p), "none", "") {
			made[checkMakeEntry(t, p, m, path)]++
			reads += len(m.reads[path])
		}
	}
	if made[true] < 5000 || made[false] < 5000 || reads < 5000 {
		t.Errorf("the numbers of paths with an entry and without are %v, and there are %d reads", made, reads)
	}
	for _, p := range append(smallProjects(), impl.Project{}, fullProject()) {
		m := newBuildModel(p)
		for _, path := range append(impl.ProjectPaths(p), editPaths...) {
			checkMakeEntry(t, p, m, path)
		}
	}
}

func TestMakeEntry(t *testing.T) {
	for body, want := range map[string]string{
		"'a b'": "text a b\n", "()": "text \n", "@'e'": "read e \ntext \n", "@'a'": "read a bb\ntext bb\n", "(@'m'@'a'@'m')": "read m 1\nread a bb\ntext 1bb1\n", "(@'two'@'one')": "read two 111\nread one 1\ntext 1111\n", "@@'n'": "read n m\nread m 1\ntext 1\n", "(@'long''')": "read long " + x60 + "\ntext " + x60 + "\n", "<@'e'": "read e \ntext \n", "#@'e'": "read e \ntext 0\n",
		"[@'m'='1'?@'one':@'none']": "read m 1\nread one 1\ntext 1\n", "[@'m'='2'?@'t':@'a']": "read m 1\nread a bb\ntext bb\n",
		"@'none'": "", "@'lost'": "", "@'t'": "", "@'back'": "", "@'self'": "", "@'big'": "", "(@'long''y')": "", "(@'a'@'none')": "", "@@'e'": "", "@''": "", "@'A'": "", "[@'m'='2'?@'a':@'t']": "", "#@'t'": "",
	} {
		p := bodyProject(body)
		e, ok := impl.MakeEntry(p, "t")
		if want != "" {
			want = "entry t " + body + "\n" + want
		}
		if ok != (want != "") || ok && storeText([]impl.Entry{e}) != want || !ok && !isZeroEntry(e) {
			t.Errorf("MakeEntry of %s = %v, %v", body, e, ok)
		}
		if ok && !impl.EntryHonest(e) {
			t.Errorf("MakeEntry of %s is not honest: %v", body, e)
		}
		for _, path := range append([]string{"a", "e", "long", "none", "lost", "self", "big", "two", "tt"}, invalidTargets...) {
			checkMakeEntry(t, p, newBuildModel(p), path)
		}
	}
}

// An entry is that of the document, and also that of a project that has nothing but its body and its reads.
func TestMakeEntryIsDeterminedByBodyAndReads(t *testing.T) {
	p := project("source a x", "source b y", "rule d (@'a'@'b')")
	if e, ok := impl.MakeEntry(p, "d"); !ok || !sameEntry(e, entry("d", "(@'a'@'b')", "xy", file("a", "x"), file("b", "y"))) {
		t.Errorf("MakeEntry of the document's example = %v, %v", e, ok)
	}
	for _, e := range append(randomEntries(51, 1000), fullEntry()) {
		alone := impl.Project{Rules: []impl.Rule{rule(e.Target, e.Body)}}
		for _, f := range e.Reads {
			var ok bool
			if alone, ok = impl.SetSource(alone, f); !ok {
				t.Fatalf("%v is no source", f)
			}
		}
		if again, ok := impl.MakeEntry(alone, e.Target); !ok || !sameEntry(again, e) {
			t.Fatalf("MakeEntry of the body and the reads of %v = %v, %v", e, again, ok)
		}
	}
}

// chainProject has the sources a to l, in which three chains of four name each other, and the targets m, n and o, which do so too.
func chainProject(body string) impl.Project {
	var lines []string
	for path := 'a'; path <= 'l'; path++ {
		lines = append(lines, fmt.Sprintf("source %c %c", path, path+1))
	}
	return project(append(lines, "rule m 'n'", "rule n 'o'", "rule o '1'", "rule t "+body)...)
}

func TestMakeEntryWithManyReads(t *testing.T) {
	for body, reads := range map[string]int{
		"(@@@@'a'@@@@'e'@@@'i')": 11, "(@@@@'a'@@@@'e'@@@@'i')": 12, "(@@@@'a'@@@@'e'@@@@'i'@'a')": 12, "(@@@@'a'@@@@'e'@@@@'i'@@'k')": 12, "(@@@@'a'@@@@'e'@@@'i'@'m')": 12,
		"(@@@@'a'@@@@'e'@@@@'i'@'m')": 13, "(@@@@'a'@@@@'e'@@@@'i'@@'m')": 14, "(@@@@'a'@@@@'e'@@@@'i'@@@'m')": 15, "(@'m'@@@@'a'@@@@'e'@@@@'i')": 13,
	} {
		p := chainProject(body)
		list, _ := impl.DirectReads(p, "t")
		if code, _ := impl.BuildPath(p, "t"); code != impl.BuildFine || len(list) != reads {
			t.Errorf("the target with the body %s has the code %d and %d reads", body, code, len(list))
		}
		e, ok := impl.MakeEntry(p, "t")
		if ok != (reads <= 12) || ok && len(e.Reads) != reads || !ok && !isZeroEntry(e) {
			t.Errorf("MakeEntry of %s = %v, %v", body, e, ok)
		}
		checkMakeEntry(t, p, newBuildModel(p), "t")
	}
}

func TestMakeEntryOfInvalidProjects(t *testing.T) {
	for what, p := range invalidProjects() {
		targets := []string{"", "b", "d", "zzz"}
		for _, r := range p.Rules[:min(3, len(p.Rules))] {
			targets = append(targets, r.Target)
		}
		for _, target := range targets {
			if e, ok := impl.MakeEntry(p, target); ok || !isZeroEntry(e) {
				t.Errorf("MakeEntry of %q in a project with this fault: %s = %v, %v", target, what, e, ok)
			}
		}
	}
}

func TestEntrySame(t *testing.T) {
	list := append(validEntries(), impl.Entry{}, entry("\n", "(", "\xff", file("b", "\n"), file("A", ""), file("b", "2")), entry("zz", "''", "", manyFiles(40)...))
	for i, a := range list {
		for j, b := range list {
			if got := impl.EntrySame(a, b); got != (i == j) {
				t.Errorf("EntrySame(%q, %q) = %v", a, b, got)
			}
		}
		for _, changed := range changedEntries(a) {
			if impl.EntrySame(a, changed) || impl.EntrySame(changed, a) || impl.StoreSame([]impl.Entry{a}, []impl.Entry{changed}) {
				t.Errorf("EntrySame: %q is equal to %q", a, changed)
			}
		}
		again := impl.Entry{Target: a.Target, Body: a.Body, Reads: append([]impl.File{}, a.Reads...), Text: a.Text}
		if !impl.EntrySame(a, again) || !impl.EntrySame(again, a) {
			t.Errorf("EntrySame: %q differs from its copy", a)
		}
	}
}

// smallStores returns all stores in which each of four targets has no entry, an honest one or one that is not honest.
func smallStores() [][]impl.Entry {
	lists := [][]impl.Entry{nil}
	for _, target := range []string{"a", "ab", "b", "ba"} {
		for _, list := range slices.Clone(lists) {
			for _, e := range []impl.Entry{entry(target, "(@'x'' ')", "1 ", file("x", "1")), entry(target, "@'y'", "", file("x", ""), file("y", "read x"))} {
				lists = append(lists, append(slices.Clone(list), e))
			}
		}
	}
	return lists
}

// storeTargets has the targets of the small stores, and some between and after them.
var storeTargets = []string{"a", "aa", "ab", "b", "ba", "zzzzzzzz"}

// invalidStores returns stores that are not valid, by what is wrong with them.
func invalidStores() map[string][]impl.Entry {
	a, b, d := entry("a", "''", ""), entry("b", "''", ""), entry("d", "'x'", "x")
	list := map[string][]impl.Entry{
		"21 entries":          manyEntries(21),
		"many entries":        slices.Repeat(manyEntries(26), 100),
		"descending":          {b, a},
		"descending at end":   {a, d, b},
		"longer target first": {entry("ab", "''", ""), a},
		"target twice":        {a, entry("a", "'x'", "x")},
		"same entry twice":    {a, a},
		"twice at the end":    {a, b, d, d},
	}
	for what, e := range invalidEntries() {
		list["only: "+what] = []impl.Entry{e}
		list["first: "+what] = []impl.Entry{e, entry("zzzzzzzz", "''", "")}
		list["last: "+what] = []impl.Entry{a, b, e}
	}
	return list
}

func TestStoreValidAndHonest(t *testing.T) {
	for n := range 24 {
		list := manyEntries(n)
		if got := impl.StoreValid(list); got != (n <= 20) {
			t.Errorf("StoreValid of %d entries = %v", n, got)
		}
		if got := impl.StoreHonest(list); got != (n <= 20) {
			t.Errorf("StoreHonest of %d entries = %v", n, got)
		}
		for i := range list[:min(n, 20)] {
			list[i].Text += "x"
			if impl.StoreHonest(list) || n <= 20 && !impl.StoreValid(list) {
				t.Errorf("StoreHonest or StoreValid of %d entries is wrong where the entry %d is not honest", n, i)
			}
			list[i].Text = list[i].Text[:len(list[i].Text)-1]
		}
	}
	for _, list := range smallStores() {
		honest := true
		for _, e := range list {
			honest = honest && honestModel(e)
		}
		if !impl.StoreValid(list) || impl.StoreHonest(list) != honest {
			t.Errorf("StoreValid or StoreHonest is wrong for %q", storeText(list))
		}
	}
	for what, list := range invalidStores() {
		if impl.StoreValid(list) || impl.StoreHonest(list) {
			t.Errorf("StoreValid or StoreHonest accepts a store with this fault: %s", what)
		}
	}
	for _, e := range validEntries() {
		if !impl.StoreValid([]impl.Entry{e}) || impl.StoreHonest([]impl.Entry{e}) != honestModel(e) {
			t.Errorf("StoreValid or StoreHonest is wrong for %q", e)
		}
	}
}

func TestStoreSame(t *testing.T) {
	lists := smallStores()
	for i, a := range lists {
		for j, b := range lists {
			if got := impl.StoreSame(a, slices.Clone(b)); got != (i == j) {
				t.Errorf("StoreSame(%q, %q) = %v", storeText(a), storeText(b), got)
			}
		}
	}
	odd := []impl.Entry{entry("b", "x", "\n"), entry("A", "", "", manyFiles(20)...), entry("b", "x", "2")}
	if !impl.StoreSame(odd, slices.Clone(odd)) || impl.StoreSame(odd, []impl.Entry{odd[1], odd[0], odd[2]}) || impl.StoreSame(odd, odd[:2]) || impl.StoreSame(odd[:2], odd) || impl.StoreSame(odd[:1], odd[2:]) {
		t.Error("StoreSame is wrong for stores that are not valid")
	}
	if !impl.StoreSame(nil, []impl.Entry{}) || !impl.StoreSame(manyEntries(26), manyEntries(26)) || impl.StoreSame(nil, []impl.Entry{{}}) {
		t.Error("StoreSame is wrong for empty or long stores")
	}
	for what, list := range invalidStores() {
		if !impl.StoreSame(list, slices.Clone(list)) || impl.StoreSame(list, manyEntries(20)) {
			t.Errorf("StoreSame is wrong for a store with this fault: %s", what)
		}
	}
}

// checkStore checks that list is the valid store of model, and that FindEntry finds exactly its entries.
func checkStore(t *testing.T, what string, list []impl.Entry, model map[string]impl.Entry) {
	t.Helper()
	var want []impl.Entry
	for _, target := range slices.Sorted(maps.Keys(model)) {
		want = append(want, model[target])
	}
	if !sameStore(list, want) || !impl.StoreValid(list) {
		t.Errorf("%s: the store is %q, not %q", what, storeText(list), storeText(want))
	}
	for _, target := range append(slices.Collect(maps.Keys(model)), append(storeTargets, "", "A", "x")...) {
		e, ok := impl.FindEntry(list, target)
		want, has := model[target]
		if ok != has || !sameEntry(e, want) {
			t.Errorf("%s: FindEntry(%q) = %v, %v", what, target, e, ok)
		}
	}
}

func modelOfStore(list []impl.Entry) map[string]impl.Entry {
	model := map[string]impl.Entry{}
	for _, e := range list {
		model[e.Target] = e
	}
	return model
}

func checkPut(t *testing.T, list []impl.Entry, e impl.Entry) {
	t.Helper()
	more, ok := impl.PutEntry(list, e)
	if !ok {
		t.Errorf("PutEntry of %q into %q returns false", e, storeText(list))
	}
	model := modelOfStore(list)
	model[e.Target] = e
	checkStore(t, "PutEntry", more, model)
}

func checkDrop(t *testing.T, list []impl.Entry, target string) {
	t.Helper()
	less, ok := impl.DropEntry(list, target)
	model := modelOfStore(list)
	_, has := model[target]
	if ok != has || !ok && len(less) != 0 {
		t.Errorf("DropEntry of %q from %q = %v, %v", target, storeText(list), less, ok)
	}
	if ok {
		delete(model, target)
		checkStore(t, "DropEntry", less, model)
	}
}

func TestPutAndDropEntries(t *testing.T) {
	for _, list := range smallStores() {
		checkStore(t, "a small store", list, modelOfStore(list))
		for _, target := range storeTargets {
			checkPut(t, list, entry(target, "''", ""))
			checkPut(t, list, entry(target, "(@'x'' ')", "1 ", file("x", "1")))
			checkPut(t, list, entry(target, "'no'", "x y", file("zz", "2"), file("z", "'")))
			checkDrop(t, list, target)
			more, _ := impl.PutEntry(list, entry(target, "'new'", "new"))
			less, _ := impl.DropEntry(more, target)
			without, found := impl.DropEntry(list, target)
			if !found {
				without = list
			}
			if !sameStore(less, without) {
				t.Errorf("putting %q into %q and dropping it makes %q", target, storeText(list), storeText(less))
			}
		}
		for _, target := range append([]string{"x", "bb"}, invalidTargets...) {
			checkDrop(t, list, target)
		}
	}
}

func TestPutEntryAtTheLimit(t *testing.T) {
	full := manyEntries(20)
	for _, target := range []string{"a", "aab", "zzzzzzzz"} {
		if more, ok := impl.PutEntry(full, entry(target, "''", "")); ok || len(more) != 0 {
			t.Errorf("PutEntry adds an entry to a full store: %q", storeText(more))
		}
		checkPut(t, full[:19], entry(target, "''", ""))
		checkPut(t, full[1:], entry(target, "''", ""))
	}
	for _, e := range full {
		checkPut(t, full, entry(e.Target, "'new'", "new"))
		checkDrop(t, full, e.Target)
	}
	for _, e := range validEntries() {
		checkPut(t, full[:19], e)
		checkPut(t, nil, e)
	}
	for _, e := range randomEntries(52, 100) {
		checkPut(t, full[:19], e)
	}
}

func TestPutEntryInvalid(t *testing.T) {
	for what, e := range invalidEntries() {
		for _, list := range [][]impl.Entry{nil, manyEntries(3), {entry("c", "''", "")}, {entry("f", "''", ""), entry("zz", "''", "")}} {
			if more, ok := impl.PutEntry(list, e); ok || len(more) != 0 {
				t.Errorf("PutEntry of an entry with this fault: %s = %q, %v", what, storeText(more), ok)
			}
		}
	}
}

// Replacing or dropping the entry at fault would make the result valid, but the store is not.
func TestInvalidStoresHaveNoResults(t *testing.T) {
	for what, list := range invalidStores() {
		targets := []string{"", "a", "c", "q"}
		for _, e := range list[:min(4, len(list))] {
			targets = append(targets, e.Target)
		}
		for _, target := range targets {
			if more, ok := impl.PutEntry(list, entry(target, "'fine'", "fine")); ok || len(more) != 0 {
				t.Errorf("PutEntry of %q into a store with this fault: %s = %v, %v", target, what, more, ok)
			}
			if less, ok := impl.DropEntry(list, target); ok || len(less) != 0 {
				t.Errorf("DropEntry of %q from a store with this fault: %s = %v, %v", target, what, less, ok)
			}
			if e, ok := impl.FindEntry(list, target); ok || !isZeroEntry(e) {
				t.Errorf("FindEntry of %q in a store with this fault: %s = %v, %v", target, what, e, ok)
			}
		}
		if s := impl.FormatStore(list); s != "" {
			t.Errorf("FormatStore of a store with this fault: %s = %q", what, s)
		}
	}
}

func TestFormatStore(t *testing.T) {
	for _, c := range []struct {
		list []impl.Entry
		want string
	}{
		{nil, ""},
		{[]impl.Entry{entry("d", "(@'a'@'b')", "xy", file("a", "x"), file("b", "y"))}, "entry d (@'a'@'b')\nread a x\nread b y\ntext xy\n"},
		{[]impl.Entry{entry("a", "''", "")}, "entry a ''\ntext \n"},
		{[]impl.Entry{entry("a", "' '", " ")}, "entry a ' '\ntext  \n"},
		{[]impl.Entry{entry("b", "@'a'", "", file("a", ""))}, "entry b @'a'\nread a \ntext \n"},
		{[]impl.Entry{entry("b", "'read a'", "text b", file("z", " "), file("a", "entry c '1'")), entry("c", "@'b'", "read", file("b", "text b"))}, "entry b 'read a'\nread z  \nread a entry c '1'\ntext text b\nentry c @'b'\nread b text b\ntext read\n"},
	} {
		if got := impl.FormatStore(c.list); got != c.want || storeText(c.list) != c.want {
			t.Errorf("FormatStore = %q, not %q", got, c.want)
		}
	}
	for _, list := range append(smallStores(), manyEntries(20), []impl.Entry{fullEntry()}) {
		if got := impl.FormatStore(list); got != storeText(list) {
			t.Errorf("FormatStore = %q, not %q", got, storeText(list))
		}
	}
}

func TestStoresAreReadBack(t *testing.T) {
	lists := append(smallStores(), manyEntries(20))
	for _, e := range append(validEntries(), randomEntries(53, 300)...) {
		lists = append(lists, []impl.Entry{e})
	}
	for i, list := range lists {
		s := impl.FormatStore(list)
		if got, ok := impl.ParseStore(s); !ok || !sameStore(got, list) || !impl.StoreSame(got, list) {
			t.Errorf("ParseStore(%q) = %v, %v", s, got, ok)
		}
		if s == "" && i > 0 {
			t.Errorf("FormatStore of %v is empty", list)
		}
	}
	for i, e := range sampleExprs() {
		list := manyEntries(20)
		list[i%20].Body = textOf(e)
		if got, ok := impl.ParseStore(storeText(list)); !ok || !sameStore(got, list) {
			t.Errorf("ParseStore with the body %s = %v, %v", textOf(e), got, ok)
		}
	}
}

var entryLine = regexp.MustCompile(`^entry ([a-z]{1,8}) (.*)$`)
var readLine = regexp.MustCompile(`^read ([a-z]{1,8}) [ -~]{0,60}$`)
var textLine = regexp.MustCompile(`^text [ -~]{0,60}$`)

// isStoreText decides line by line whether s is the text of a valid store.
func isStoreText(s string) bool {
	lines := strings.Split(s, "\n")
	if lines[len(lines)-1] != "" {
		return false
	}
	var targets, reads []string
	within := false
	for _, line := range lines[:len(lines)-1] {
		if m := entryLine.FindStringSubmatch(line); m != nil && !within && isText(m[2]) {
			targets = append(targets, m[1])
			reads = []string{m[1]}
			within = true
		} else if m := readLine.FindStringSubmatch(line); m != nil && within && !slices.Contains(reads, m[1]) && len(reads) <= 12 {
			reads = append(reads, m[1])
		} else if textLine.MatchString(line) && within {
			within = false
		} else {
			return false
		}
	}
	return !within && ascending(targets) && len(targets) <= 20
}

// checkParseStore checks ParseStore of s, and reports whether s is the text of a store.
func checkParseStore(t *testing.T, s string) bool {
	t.Helper()
	return checkParsed(t, s, isStoreText, impl.ParseStore, storeText, impl.FormatStore)
}

// All texts of a few lines, some of which are not the lines of a store, and some without a newline.
func TestParseStoreLinesInAnyOrder(t *testing.T) {
	lines := []string{"entry a @'b'\n", "entry b 'x'\n", "entry ab ''\n", "read b 1\n", "read c \n", "read c text \n", "text \n", "text read c \n", "text x\n", "entry c (\n", "text\n", "read\n", "read d\n", "\n", "text x", " "}
	accepted := countAccepted(t, textsOfLines("", lines, 200000), checkParseStore)
	// Longer texts, in which only the order and the number of the lines may be wrong.
	accepted += countAccepted(t, randomTexts(54, lines[:9], 9, 60000), checkParseStore)
	if accepted < 1000 {
		t.Errorf("ParseStore accepts only %d texts", accepted)
	}
}

func TestParseStoreChangedTexts(t *testing.T) {
	list := []string{storeText(manyEntries(7)), storeText([]impl.Entry{fullEntry()}), storeText([]impl.Entry{entry("a", "''", ""), entry("b", "@'a'", "", file("a", ""))})}
	for i, store := range smallStores() {
		if i%8 == 0 {
			list = append(list, storeText(store))
		}
	}
	countParsed(t, list, checkParseStore)
}

func TestParseStoreInvalid(t *testing.T) {
	full := storeText(manyEntries(20))
	twelve := storeText([]impl.Entry{fullEntry()})
	for _, s := range []string{
		"\n", " ", "entry", "entry\n", "entry \n", "entry d\n", "entry d \n", "entry d ''", "entry d ''\n", "entry d ''\ntext", "entry d ''\ntext\n", "entry d ''\ntext ", "entry d ''\ntext 1", "entry d ''\n\ntext \n", "\nentry d ''\ntext \n", "entry d ''\ntext \n\n", "entry d ''\ntext \nend\n",
		"text \n", "text 1\n", "read a x\n", "read a x\ntext \n", "text \nentry d ''\n", "entry d ''\ntext \ntext \n", "entry d ''\ntext 1\ntext 2\n", "entry d ''\ntext \nread a x\n", "entry d ''\nread a x\n", "entry d ''\nentry d ''\ntext \n", "entry d ''\nentry e ''\ntext \n",
		"entry d 1\ntext 1\n", "entry d  ''\ntext \n", "entry d '' \ntext \n", "entry  d ''\ntext \n", " entry d ''\ntext \n", "entry D ''\ntext \n", "entry abcdefghi ''\ntext \n", "entry  ''\ntext \n", "entry ''\ntext \n", "entry d\t''\ntext \n", "Entry d ''\ntext \n", "entrys d ''\ntext \n", "entry d '\n'\ntext \n", "entry d ''\r\ntext \r\n", "entry d @@@@@@'a'\ntext \n",
		"entry d ''\nread\ntext \n", "entry d ''\nread \ntext \n", "entry d ''\nread a\ntext \n", "entry d ''\nread  x\ntext \n", "entry d ''\nread A x\ntext \n", "entry d ''\n read a x\ntext \n", "entry d ''\nread a \u00e9\ntext \n", "entry d ''\nread a " + x60 + "x\ntext \n", "entry d ''\nread d x\ntext \n", "entry d ''\nread a x\nread a x\ntext \n", "entry d ''\nread a x\nread b x\nread a y\ntext \n", "entry d ''\nReads a x\ntext \n",
		"entry d ''\ntext " + x60 + "x\n", "entry d ''\ntext \x7f\n", "entry d ''\ntext \t\n", "entry d ''\nText \n", "entry d ''\n text \n", "entry d ''\ntexts \n",
		"entry b ''\ntext \nentry a ''\ntext \n", "entry a ''\ntext \nentry a ''\ntext \n", "entry a ''\ntext \nentry a '1'\ntext 1\n", "entry a ''\ntext \nentry b \ntext \n", "store\n", "store\nentry a ''\ntext \n", "entry a ''\ntext \ndrop a\n",
		full + "entry z ''\ntext \n", full + "\n", full + full, full[:len(full)-1], full[1:], strings.Replace(twelve, "\nread", "\nread z 1\nread", 1), strings.Replace(twelve, "\ntext", "\nread z 1\ntext", 1),
	} {
		if checkParseStore(t, s) {
			t.Errorf("ParseStore accepts %q", s)
		}
	}
	for _, s := range []string{"", full, twelve, "entry d ''\ntext \n", "entry d ''\nread a \ntext \n"} {
		if !checkParseStore(t, s) {
			t.Errorf("ParseStore refuses %q", s)
		}
	}
}

func TestParseStoreLongTexts(t *testing.T) {
	const n = 1000000
	for _, s := range []string{"entry a ''\n", "entry a ''\ntext \n", "read b x\n", "text \n", "\n", " ", "entry ", "read ", "text ", "entry a (", "entry a '", "x", "\x00"} {
		for _, first := range []string{"", "entry a ''\n", "entry a ", "entry a ''\nread b ", "entry a ''\ntext ", "entry a ''\ntext \n"} {
			if list, ok := impl.ParseStore(first + strings.Repeat(s, n)); ok || len(list) != 0 {
				t.Errorf("ParseStore accepts a text with %d times %q", n, s)
			}
		}
	}
	long := strings.Repeat("x", n)
	for _, e := range []impl.Entry{entry(long, "''", ""), entry("a", long, ""), entry("a", "'"+long, ""), entry("a", strings.Repeat("(", n), ""), entry("a", "''", long), entry("a", "''", "", file(long, "")), entry("a", "''", "", file("b", long))} {
		if impl.EntryValid(e) || impl.EntryHonest(e) || impl.StoreValid([]impl.Entry{e}) || !impl.EntrySame(e, e) {
			t.Error("a very long entry is valid, or differs from itself")
		}
	}
}

// sharingStore has four entries whose reads are the same part of a longer list, and which are a part of a longer list themselves.
func sharingStore() []impl.Entry {
	reads := manyFiles(9)
	var list []impl.Entry
	for _, target := range []string{"p", "q", "r", "s", "t", "u"} {
		list = append(list, entry(target, "''", target, reads[:5]...))
	}
	return list[:4]
}

// wholeStoreText writes a store with all elements beyond the lengths of its lists.
func wholeStoreText(list []impl.Entry) string {
	list = slices.Clone(list[:cap(list)])
	for i := range list {
		list[i].Reads = list[i].Reads[:cap(list[i].Reads)]
	}
	return storeText(list)
}

// spoilUnusedEntries overwrites the unused capacity of all lists of a store.
func spoilUnusedEntries(list []impl.Entry) {
	for _, e := range list {
		spoil(e.Reads[len(e.Reads):])
	}
	for i := len(list); i < cap(list); i++ {
		list[:cap(list)][i] = entry("spoilt", "spoilt", "spoilt")
	}
}

// storeResults returns the results of all functions that return entries.
func storeResults(list []impl.Entry) map[string][]impl.Entry {
	results := map[string][]impl.Entry{}
	keep := func(what string, got []impl.Entry, ok bool) {
		if ok {
			results[what] = got
		}
	}
	for _, target := range []string{"m", "q", "s", "z"} {
		got, ok := impl.PutEntry(list, impl.Entry{Target: target, Body: "'new'", Reads: list[0].Reads})
		keep("PutEntry of "+target, got, ok)
		got, ok = impl.DropEntry(list, target)
		keep("DropEntry of "+target, got, ok)
		e, ok := impl.FindEntry(list, target)
		keep("FindEntry of "+target, []impl.Entry{e}, ok)
	}
	got, ok := impl.ParseStore(storeText(list))
	keep("ParseStore", got, ok)
	e, ok := impl.MakeEntry(impl.Project{Sources: list[0].Reads, Rules: []impl.Rule{rule("z", "(@'a'@'c'@'b'@'c')")}}, "z")
	keep("MakeEntry", []impl.Entry{e}, ok)
	return results
}

func TestStoresLeaveArgumentsAlone(t *testing.T) {
	list := sharingStore()
	before := wholeStoreText(list)
	check := func(what string) {
		t.Helper()
		if wholeStoreText(list) != before {
			t.Fatalf("%s modifies its argument: %q", what, wholeStoreText(list))
		}
	}
	impl.StoreHonest(list)
	impl.StoreSame(list, sharingStore())
	impl.FormatStore(list)
	for _, e := range list {
		impl.EntryHonest(e)
		impl.EntrySame(e, list[0])
	}
	// This entry has its reads in descending order, but the sources of a project are in ascending order.
	e := fullEntry()
	want := storeText([]impl.Entry{e})
	if !impl.EntryHonest(e) || storeText([]impl.Entry{e}) != want {
		t.Error("EntryHonest modifies its argument")
	}
	check("a function without entries as its result")
	checkArgumentsApart(t, list, storeResults)
}

// checkArgumentsApart checks that functions with stores as their results leave the one that they are given alone, and that the results share no memory with it.
func checkArgumentsApart(t *testing.T, list []impl.Entry, results func(list []impl.Entry) map[string][]impl.Entry) {
	t.Helper()
	before := wholeStoreText(list)
	all := results(list)
	if wholeStoreText(list) != before {
		t.Fatalf("a function modifies its argument: %q", wholeStoreText(list))
	}
	for what, got := range all {
		for i := range got {
			spoil(got[i].Reads)
		}
		spoilUnusedEntries(got[:0])
		if wholeStoreText(list) != before {
			t.Fatalf("the result of %s shares memory with its argument: %q", what, wholeStoreText(list))
		}
	}
}

func TestStoreResultsShareNoMemory(t *testing.T) {
	if results := storeResults(sharingStore()); len(results) != 10 {
		t.Errorf("%d functions return entries", len(results))
	}
	checkStoresApart(t, sharingStore(), storeResults)
}

// checkStoresApart checks that functions with stores as their results return the same ones again, and that these share no memory.
func checkStoresApart(t *testing.T, list []impl.Entry, results func(list []impl.Entry) map[string][]impl.Entry) {
	t.Helper()
	others := results(list)
	for what, got := range results(list) {
		text := storeText(got)
		if text != storeText(others[what]) {
			t.Errorf("%s returns %q and then %q", what, storeText(others[what]), text)
		}
		spoilUnusedEntries(got)
		if storeText(got) != text {
			t.Errorf("two lists of the result of %s share memory: %q", what, storeText(got))
		}
		for i := range got {
			rest := storeText(got[i+1:])
			spoil(got[i].Reads)
			if storeText(got[i+1:]) != rest {
				t.Errorf("two entries of the result of %s share memory", what)
			}
		}
		spoilUnusedEntries(got[:0])
	}
	for what, other := range results(list) {
		if storeText(other) != storeText(others[what]) {
			t.Errorf("two results share memory, one of them of %s", what)
		}
	}
}
