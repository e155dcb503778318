package tests

import (
	"fmt"
	"maps"
	"math/rand"
	"regexp"
	"slices"
	"strings"
	"testing"

	"loop.example/buildengine/impl"
)

// edit is short for the literal of an edit.
func edit(kind int, path, text string) impl.Edit {
	return impl.Edit{Kind: kind, Path: path, Text: text}
}

// editsOf is short for the edits with this text, in which each | stands for a newline.
func editsOf(lines string) []impl.Edit {
	list, ok := impl.ParseEdits(unfold(lines))
	if !ok {
		panic("no edits: " + lines)
	}
	return list
}

// editWords has the words with which the texts of edits begin, by their kinds.
var editWords = map[int]string{1: "source", 2: "nosource", 3: "rule", 4: "norule"}

// editsText writes edits as the document says.
func editsText(list []impl.Edit) string {
	s := ""
	for _, e := range list {
		s += editWords[e.Kind] + " " + e.Path
		if e.Kind == impl.EditSource || e.Kind == impl.EditRule {
			s += " " + e.Text
		}
		s += "\n"
	}
	return s
}

func TestEditNumbers(t *testing.T) {
	if impl.EditSource != 1 || impl.EditNoSource != 2 || impl.EditRule != 3 || impl.EditNoRule != 4 || impl.MaxEdits != 20 {
		t.Error("a constant of edits has another value than in the document")
	}
}

var pathPattern = regexp.MustCompile(`^[a-z]{1,8}$`)

// isEdit decides whether an edit has one of the kinds and a text as this kind has it.
func isEdit(e impl.Edit) bool {
	switch e.Kind {
	case 1:
		return printable.MatchString(e.Text)
	case 3:
		return isText(e.Text)
	}
	return (e.Kind == 2 || e.Kind == 4) && e.Text == ""
}

// editModel returns what an edit makes of the project that modelOfProject describes, and whether it may be made.
func editModel(model map[string]string, e impl.Edit) (map[string]string, bool) {
	line, taken := model[e.Path]
	word, _, _ := strings.Cut(line, " ")
	if !isEdit(e) || !pathPattern.MatchString(e.Path) {
		return nil, false
	}
	changed := maps.Clone(model)
	switch {
	case e.Kind == 1 && word != "rule":
		changed[e.Path] = "source " + e.Text
	case e.Kind == 3 && word != "source":
		changed[e.Path] = "rule " + e.Text
	case taken && e.Kind == 2 && word == "source", taken && e.Kind == 4 && word == "rule":
		delete(changed, e.Path)
	default:
		return nil, false
	}
	sources, rules := 0, 0
	for _, line := range changed {
		if strings.HasPrefix(line, "source ") {
			sources++
		} else {
			rules++
		}
	}
	return changed, sources <= 12 && rules <= 10
}

// checkEdited checks what a function returns for p and some edits, if there may be the project that model describes.
func checkEdited(t *testing.T, what string, p impl.Project, list []impl.Edit, model map[string]string, may bool, got impl.Project, ok bool) {
	t.Helper()
	if ok != may || !ok && !isZero(got) {
		t.Fatalf("%s of %v in %q = %q, %v", what, list, projectText(p), projectText(got), ok)
	}
	if ok {
		checkProject(t, what, got, model)
	}
}

// checkApply compares ApplyEdit with the model, and returns the project, or p if the edit is refused.
func checkApply(t *testing.T, p impl.Project, e impl.Edit) (impl.Project, bool) {
	t.Helper()
	model, may := editModel(modelOfProject(p), e)
	got, ok := impl.ApplyEdit(p, e)
	checkEdited(t, "ApplyEdit", p, []impl.Edit{e}, model, may, got, ok)
	if !ok {
		return p, false
	}
	return got, true
}

// checkApplyAll compares ApplyEdits with the model, and reports whether it returns a project.
func checkApplyAll(t *testing.T, p impl.Project, list []impl.Edit) bool {
	t.Helper()
	model, may := modelOfProject(p), len(list) <= 20
	for _, e := range list {
		if may {
			model, may = editModel(model, e)
		}
	}
	got, ok := impl.ApplyEdits(p, list)
	checkEdited(t, "ApplyEdits", p, list, model, may, got, ok)
	return ok
}

// invalidEdits returns edits that are not valid, by what is wrong with them. The paths are fine, and are neither those of sources nor targets.
func invalidEdits() map[string]impl.Edit {
	list := map[string]impl.Edit{
		"zero value":                  {},
		"no expression":               edit(impl.EditRule, "q", "1"),
		"empty expression":            edit(impl.EditRule, "q", ""),
		"expression with a space":     edit(impl.EditRule, "q", "'' "),
		"expression after a space":    edit(impl.EditRule, "q", " ''"),
		"two expressions":             edit(impl.EditRule, "q", "''''"),
		"expression with a newline":   edit(impl.EditRule, "q", "''\n"),
		"expression is too deep":      edit(impl.EditRule, "q", "<<<<<<''"),
		"expression with 21 nodes":    edit(impl.EditRule, "q", "(("+strings.Repeat("''", 4)+")("+strings.Repeat("''", 4)+")("+strings.Repeat("''", 4)+")("+strings.Repeat("''", 4)+"))"),
		"very deep expression":        edit(impl.EditRule, "q", strings.Repeat("<", 100000)+"''"),
		"very long expression":        edit(impl.EditRule, "q", "'"+strings.Repeat("x", 100000)+"'"),
		"text of 61":                  edit(impl.EditSource, "q", x60+"x"),
		"very long text":              edit(impl.EditSource, "q", strings.Repeat("x", 100000)),
		"text with a newline":         edit(impl.EditSource, "q", "x\n"),
		"text is a newline":           edit(impl.EditSource, "q", "\n"),
		"text with a tab":             edit(impl.EditSource, "q", "\t"),
		"text with DEL":               edit(impl.EditSource, "q", "\x7f"),
		"text is not ASCII":           edit(impl.EditSource, "q", "\u00e9"),
		"text with a zero byte":       edit(impl.EditSource, "q", "a\x00"),
		"removed source with a text":  edit(impl.EditNoSource, "q", "x"),
		"removed source with a space": edit(impl.EditNoSource, "q", " "),
		"removed rule with a text":    edit(impl.EditNoRule, "q", "''"),
		"removed rule with a newline": edit(impl.EditNoRule, "q", "\n"),
	}
	for _, kind := range []int{0, 5, 6, -1, -3, 1 << 8, 1<<8 + 1, 1<<32 + 1, 1<<40 + 3, -1 << 63} {
		for _, s := range []string{"", "x", "''"} {
			list[fmt.Sprintf("kind %d with the text %s", kind, s)] = edit(kind, "q", s)
		}
	}
	return list
}

func TestEditsOfTheDocument(t *testing.T) {
	// The script in the chapter about commands.
	p, ok := impl.ApplyEdits(impl.Project{}, editsOf("source a xy|source b 1|rule c <@'a'|rule d (@'c'@'b')"))
	if !ok || projectText(p) != "project\nsource a xy\nsource b 1\nrule c <@'a'\nrule d (@'c'@'b')\n" {
		t.Errorf("ApplyEdits = %q, %v", projectText(p), ok)
	}
	if got := impl.Affected(p, "a"); !slices.Equal(got, strings.Fields("c d")) {
		t.Errorf("Affected = %q", got)
	}
	if got := sessionText(impl.RunSession(p, editsOf("source a xz|nosource b"), "d")); got != "d fine x1\nd fine x1\nd missing\n4 computed" {
		t.Errorf("RunSession = %s", got)
	}
	// The example of the chapter: after the edit, only what Affected returns may have another result, and here it has.
	p = projectOf("source a y|source b 1|rule c @'a'|rule d @'b'|rule e @'c'|rule f ('x'@'d')")
	q, _ := impl.ApplyEdit(p, edit(impl.EditSource, "a", "x"))
	if got := allText(impl.BuildAll(q)); got != "c fine x\nd fine 1\ne fine x\nf fine x1\n" {
		t.Errorf("BuildAll after the edit = %q", got)
	}
	if got := impl.Affected(p, "a"); !slices.Equal(got, strings.Fields("c e")) {
		t.Errorf("Affected = %q", got)
	}
}

func TestApplyEdit(t *testing.T) {
	texts := []string{"", "x y", "''", "(@'a'@<'ba')", "'", textOf(join20()), x60, x60 + "x", "\n"}
	applied, refused := 0, 0
	for i, p := range smallProjects() {
		if i%9 != 0 {
			continue
		}
		for _, path := range append(slices.Clone(editPaths), "", "A", "a ", "abcdefghi") {
			for kind := -1; kind <= 6; kind++ {
				for _, s := range texts {
					if _, ok := checkApply(t, p, edit(kind, path, s)); ok {
						applied++
					} else {
						refused++
					}
				}
			}
		}
	}
	if applied < 3000 || refused < 3000 {
		t.Errorf("only %d edits are applied, or %d refused", applied, refused)
	}
}

func TestApplyEditAtTheLimits(t *testing.T) {
	full := fullProject()
	for _, e := range editsOf("source z |rule z ''|source zzzzzzzz x|rule zzzzzzzz @'a'|nosource z|norule z|nosource aa|norule a|source aa x|rule a 'x'") {
		if _, ok := checkApply(t, full, e); ok {
			t.Errorf("ApplyEdit accepts %v in a full project", e)
		}
	}
	for _, e := range editsOf("source a new|source l |rule aa 'new'|rule aj " + textOf(join20()) + "|nosource a|nosource l|norule aa|norule aj") {
		if _, ok := checkApply(t, full, e); !ok {
			t.Errorf("ApplyEdit refuses %v in a full project", e)
		}
	}
	// Only where something has been removed, there is room for something new.
	for _, c := range [][2]string{{"nosource c", "source z "}, {"norule ac", "rule z ''"}} {
		less, _ := checkApply(t, full, editsOf(c[0])[0])
		for _, e := range editsOf("source z |rule z ''") {
			if _, ok := checkApply(t, less, e); ok != (editsText([]impl.Edit{e}) == c[1]+"\n") {
				t.Errorf("ApplyEdit of %v after %s = %v", e, c[0], ok)
			}
		}
	}
}

func TestApplyEditInvalid(t *testing.T) {
	for what, e := range invalidEdits() {
		for _, p := range []impl.Project{{}, fullProject(), projectOf("source q x"), projectOf("rule q ''"), projectOf("source a 1|rule b @'a'")} {
			if _, ok := checkApply(t, p, e); ok {
				t.Errorf("ApplyEdit accepts an edit with this fault: %s", what)
			}
			if checkApplyAll(t, p, []impl.Edit{e}) {
				t.Errorf("ApplyEdits accepts an edit with this fault: %s", what)
			}
		}
	}
	for _, path := range invalidTargets {
		for _, e := range []impl.Edit{edit(impl.EditSource, path, "x"), edit(impl.EditNoSource, path, ""), edit(impl.EditRule, path, "'x'"), edit(impl.EditNoRule, path, "")} {
			if _, ok := checkApply(t, projectOf("source a 1|rule b @'a'"), e); ok {
				t.Errorf("ApplyEdit accepts the path %q", path)
			}
			if got := impl.FormatEdits([]impl.Edit{e}); got != "" {
				t.Errorf("FormatEdits with the path %q = %q", path, got)
			}
		}
	}
}

func TestApplyEdits(t *testing.T) {
	const no = "no"
	for _, c := range []struct{ what, project, edits, want string }{
		{"no edits", "source a x|rule c @'a'", "", "source a x|rule c @'a'"},
		{"no edits of the empty project", "", "", ""},
		{"one edit of each kind", "source a x|source b y|rule c @'a'|rule d @'b'", "norule d|source aa z|nosource b|rule cc (@'a'@'aa')", "source a x|source aa z|rule c @'a'|rule cc (@'a'@'aa')"},
		{"the last one of several texts", "", "source a 1|source a 2|source a 3", "source a 3"},
		{"the last one of several bodies", "", "rule a '1'|rule a '2'|rule a '3'", "rule a '3'"},
		{"added in any order", "", "source c 3|rule bb 'y'|source a 1|rule b 'x'|source aa 2", "source a 1|source aa 2|source c 3|rule b 'x'|rule bb 'y'"},
		{"added and removed", "", "source a 1|rule b ''|norule b|nosource a", ""},
		{"removed and added", "source a 1|rule b ''", "nosource a|norule b|source a 2|rule b '2'", "source a 2|rule b '2'"},
		{"nothing changes", "source a 1|rule b ''", "source a 1|rule b ''|source a 1", "source a 1|rule b ''"},
		{"a text with spaces", "", "source a  x  y ", "source a  x  y "},
		{"a text like an edit", "", "source a nosource a|rule b 'norule b'", "source a nosource a|rule b 'norule b'"},
		{"a path that nothing reads", "source a 1|rule b @'a'", "source q 2|rule r 'x'", "source a 1|source q 2|rule b @'a'|rule r 'x'"},
		{"a path that a rule reads is removed", "source a 1|rule b @'a'", "nosource a", "rule b @'a'"},

		{"a rule becomes a source", "source a x|rule c @'a'|rule d @'c'", "norule c|source c y", "source a x|source c y|rule d @'c'"},
		{"a rule becomes a source at once", "source a x|rule c @'a'", "source c y", no},
		{"a rule becomes a source before it is removed", "source a x|rule c @'a'", "source c y|norule c", no},
		{"a rule becomes a source, but is removed as a source", "source a x|rule c @'a'", "nosource c|source c y", no},
		{"a source becomes a rule", "source a x|source c y|rule d @'c'", "nosource c|rule c @'a'", "source a x|rule c @'a'|rule d @'c'"},
		{"a source becomes a rule at once", "source a x|source c y", "rule c @'a'", no},
		{"a source becomes a rule before it is removed", "source a x|source c y", "rule c @'a'|nosource c", no},
		{"a source becomes a rule, but is removed as a rule", "source a x|source c y", "norule c|rule c @'a'", no},
		{"a rule becomes a source and a rule again", "rule c 'x'", "norule c|source c y|nosource c|rule c 'z'", "rule c 'z'"},
		{"a source and a rule change places", "source a x|rule b 'y'", "nosource a|norule b|rule a 'x'|source b y", "source b y|rule a 'x'"},

		{"only one edit, which is refused", "source a 1", "nosource b", no},
		{"the first edit is refused", "source a 1", "nosource b|source a 2|source b 2", no},
		{"an edit in the middle is refused", "source a 1", "source a 2|norule a|source b 2", no},
		{"the last edit is refused", "source a 1", "source a 2|source b 2|nosource c", no},
		{"refused, although a later edit would make up for it", "", "nosource a|source a 1", no},
		{"removed twice", "source a 1", "nosource a|nosource a", no},
		{"a rule removed twice", "rule a ''", "norule a|norule a", no},
	} {
		p := projectOf(c.project)
		got, ok := impl.ApplyEdits(p, editsOf(c.edits))
		if ok != (c.want != no) || ok && projectText(got) != "project\n"+unfold(c.want) {
			t.Errorf("%s: ApplyEdits = %q, %v", c.what, projectText(got), ok)
		}
		checkApplyAll(t, p, editsOf(c.edits))
	}
}

func TestApplyEditsInvalidWithinLists(t *testing.T) {
	p := projectOf("source a 1|rule b @'a'")
	fine := editsOf("source a 2|rule c @'b'|nosource a")
	for what, e := range invalidEdits() {
		for i := range len(fine) + 1 {
			list := slices.Insert(slices.Clone(fine), i, e)
			if checkApplyAll(t, p, list) {
				t.Errorf("ApplyEdits accepts an edit with this fault: %s", what)
			}
			if got := impl.FormatEdits(list); got != "" {
				t.Errorf("FormatEdits with an edit with this fault: %s = %q", what, got)
			}
		}
	}
}

// manyEdits returns n edits which may be made one after the other in any project without the paths q and r.
func manyEdits(n int) []impl.Edit {
	var list []impl.Edit
	for len(list) < n {
		list = append(list, editsOf("source q x|source q y|nosource q|rule r @'q'|norule r")...)
	}
	return list[:n]
}

func TestNumbersOfEdits(t *testing.T) {
	p := projectOf("source a 1|rule b @'a'")
	for n := range 45 {
		list := manyEdits(n)
		if ok := checkApplyAll(t, p, list); ok != (n <= 20) {
			t.Errorf("ApplyEdits of %d edits = %v", n, ok)
		}
		want := ""
		if n <= 20 {
			want = editsText(list)
		}
		if got := impl.FormatEdits(list); got != want {
			t.Errorf("FormatEdits of %d edits = %q", n, got)
		}
		if got, ok := impl.ParseEdits(editsText(list)); ok != (n <= 20) || ok && !slices.Equal(got, list) || !ok && len(got) != 0 {
			t.Errorf("ParseEdits of %d edits = %v, %v", n, got, ok)
		}
		built, computed := impl.RunSession(p, list, "b")
		if n <= 20 && (len(built) != n+1 || computed != 1) || n > 20 && (len(built) != 0 || computed != 0) {
			t.Errorf("RunSession of %d edits = %v, %d", n, built, computed)
		}
	}
	// One edit too many counts even if it is the one that would be refused.
	if checkApplyAll(t, p, append(manyEdits(20), edit(impl.EditNoRule, "none", ""))) || checkApplyAll(t, p, slices.Repeat([]impl.Edit{edit(impl.EditSource, "a", "1")}, 21)) {
		t.Error("ApplyEdits accepts 21 edits")
	}
}

func TestApplyEditsOfRandomLists(t *testing.T) {
	r := rand.New(rand.NewSource(80))
	applied, refused := 0, 0
	for range 4000 {
		p := randomProject(r)
		var list []impl.Edit
		at := p
		for range r.Intn(23) {
			e := randomEditOf(r)
			changed, ok := checkApply(t, at, e)
			if !ok && r.Intn(20) > 0 {
				continue
			}
			list = append(list, e)
			at = changed
		}
		if checkApplyAll(t, p, list) {
			applied++
		} else {
			refused++
		}
	}
	if applied < 1000 || refused < 500 {
		t.Errorf("only %d lists are applied, or %d refused", applied, refused)
	}
}

// randomEditOf returns a random edit, which may be refused, and of which the path is mostly one of the random projects.
func randomEditOf(r *rand.Rand) impl.Edit {
	path := string(rune('a' + r.Intn(14)))
	switch r.Intn(10) {
	case 0:
		return edit(impl.EditNoSource, path, "")
	case 1:
		return edit(impl.EditNoRule, path, "")
	case 2, 3, 4, 5:
		body := randomBody(r, 4)
		for nodes, _ := size(body); nodes > impl.MaxNodes; nodes, _ = size(body) {
			body = randomBody(r, 3)
		}
		return edit(impl.EditRule, path, textOf(body))
	case 6:
		return edit(r.Intn(7)-1, randomPath(r), randomPath(r))
	}
	return edit(impl.EditSource, path, []string{randomPath(r), strings.Repeat("a", r.Intn(61))}[r.Intn(2)])
}

func TestFormatEdits(t *testing.T) {
	for want, list := range map[string][]impl.Edit{
		"":                            {},
		"source a x\n":                {edit(1, "a", "x")},
		"source a \n":                 {edit(1, "a", "")},
		"source abcdefgh  ' x  \n":    {edit(1, "abcdefgh", " ' x  ")},
		"nosource a\n":                {edit(2, "a", "")},
		"rule a ''\n":                 {edit(3, "a", "''")},
		"rule a [@'b'='?'?():<#'']\n": {edit(3, "a", "[@'b'='?'?():<#'']")},
		"norule zzzzzzzz\n":           {edit(4, "zzzzzzzz", "")},
		"norule b\nsource a x\nsource a x\nrule a ' '\nnosource a\n": {edit(4, "b", ""), edit(1, "a", "x"), edit(1, "a", "x"), edit(3, "a", "' '"), edit(2, "a", "")},
		"source a " + x60 + "\n": {edit(1, "a", x60)},
	} {
		if got := impl.FormatEdits(list); got != want || editsText(list) != want {
			t.Errorf("FormatEdits = %q, not %q", got, want)
		}
	}
	for what, e := range invalidEdits() {
		if got := impl.FormatEdits([]impl.Edit{e}); got != "" {
			t.Errorf("FormatEdits of an edit with this fault: %s = %q", what, got)
		}
	}
}

func TestEditsAreReadBack(t *testing.T) {
	r := rand.New(rand.NewSource(81))
	exprs := sampleExprs()
	for n := range 3000 {
		var list []impl.Edit
		for range n % 21 {
			e := randomEditOf(r)
			if r.Intn(3) == 0 {
				e = edit(impl.EditRule, "abcdefgh", textOf(exprs[r.Intn(len(exprs))]))
			}
			if isEdit(e) && pathPattern.MatchString(e.Path) {
				list = append(list, e)
			}
		}
		s := impl.FormatEdits(list)
		got, ok := impl.ParseEdits(s)
		if s != editsText(list) || !ok || !slices.Equal(got, list) {
			t.Fatalf("FormatEdits of %v = %q, and ParseEdits of it %v, %v", list, s, got, ok)
		}
	}
}

var removalLine = regexp.MustCompile(`^(nosource|norule) [a-z]{1,8}$`)

// isEditsText decides line by line whether s is the text of a list of edits.
func isEditsText(s string) bool {
	lines := strings.Split(s, "\n")
	if lines[len(lines)-1] != "" || len(lines) > 21 {
		return false
	}
	for _, line := range lines[:len(lines)-1] {
		m := ruleLine.FindStringSubmatch(line)
		if !sourceLine.MatchString(line) && !removalLine.MatchString(line) && (m == nil || !isText(m[2])) {
			return false
		}
	}
	return true
}

// checkParseEdits checks ParseEdits of s, and reports whether s is the text of a list of edits.
func checkParseEdits(t *testing.T, s string) bool {
	t.Helper()
	return checkParsed(t, s, isEditsText, impl.ParseEdits, editsText, impl.FormatEdits)
}

// All texts of a few lines, some of which are not the lines of edits, and some without a newline.
func TestParseEditsLinesInAnyOrder(t *testing.T) {
	lines := []string{"source a x\n", "source b \n", "nosource a\n", "rule a '1'\n", "rule b @'a'\n", "norule b\n", "norule b \n", "nosource a x\n", "source a\n", "rule c x\n", "drop a\n", "\n", " ", "source a x", "norule b", "project\n"}
	accepted := countAccepted(t, textsOfLines("", lines, 100000), checkParseEdits)
	// Longer texts, in which only the number of the lines may be wrong.
	accepted += countAccepted(t, randomTexts(82, lines[:6], 26, 3000), checkParseEdits)
	if accepted < 3000 {
		t.Errorf("ParseEdits accepts only %d texts", accepted)
	}
}

func TestParseEditsChangedTexts(t *testing.T) {
	countParsed(t, []string{
		"source a x\n", "nosource a\n", "rule a 'x'\n", "norule a\n",
		"source a xy\nsource b 1\nrule c <@'a'\nrule d (@'c'@'b')\nnosource b\nnorule d\n",
		"norule abcdefgh\nsource abcdefgh  \nnosource abcdefgh\nrule abcdefgh [@'a'='1'?():#>'']\n",
		editsText(manyEdits(20)),
	}, checkParseEdits)
}

func TestParseEditsInvalid(t *testing.T) {
	full := editsText(manyEdits(20))
	for _, s := range []string{
		"\n", " ", " \n", "source", "source\n", "source \n", "source a", "source a\n", "source a x", "source  x\n", "source  a x\n", " source a x\n", "source A x\n", "source a1 x\n", "source a\tx\n", "source\ta x\n", "source a x\r\n", "source a \u00e9\n", "source a x\x00\n", "source abcdefghi x\n", "source a " + x60 + "x\n", "Source a x\n", "sources a x\n", "sourc a x\n", "1 a x\n",
		"nosource", "nosource\n", "nosource \n", "nosource a", "nosource a \n", "nosource a x\n", "nosource  a\n", " nosource a\n", "nosource A\n", "nosource abcdefghi\n", "nosource a b\n", "no source a\n", "nosource a\r\n", "Nosource a\n", "noSource a\n",
		"rule", "rule\n", "rule \n", "rule a", "rule a\n", "rule a \n", "rule a ''", "rule a b\n", "rule e 1\n", "rule a 'b\n", "rule a  'b'\n", "rule a 'b' \n", "rule  a 'b'\n", "rule A 'b'\n", "rule a 'b'\r\n", "rule abcdefghi 'b'\n", "rule a <<<<<<'b'\n", "rule a 'b\nc'\n", "rule a ''''\n", "RULE a ''\n", "rules a ''\n",
		"norule", "norule\n", "norule \n", "norule a", "norule a \n", "norule a ''\n", "norule f x\n", "norule  a\n", " norule a\n", "norule A\n", "norule abcdefghi\n", "no rule a\n",
		"drop a\n", "project\n", "project\nsource a x\n", "a x\n", "edit a x\n", "source a x\nend\n", "source a x\n\n", "\nsource a x\n", "source a x\n\nsource b x\n", "source a x\nnosource a", "source a x\nnosource b c\nsource a x\n",
		full + "nosource q\n", full + "\n", full + " ", full + full, full[:len(full)-1], full[1:],
	} {
		if checkParseEdits(t, s) {
			t.Errorf("ParseEdits accepts %q", s)
		}
	}
	for _, s := range []string{"", full, "source a \n", "source a  \n", "source a source a x\n", "rule a 'norule a'\n", "nosource source\n", "norule norule\n", "source a x\nsource a x\n", "norule b\nnorule a\n"} {
		if !checkParseEdits(t, s) {
			t.Errorf("ParseEdits refuses %q", s)
		}
	}
}

func TestParseEditsLongTexts(t *testing.T) {
	const n = 1000000
	for _, s := range []string{"source a x\n", "nosource a\n", "rule a ''\n", "norule a\n", "\n", " ", "source ", "nosource", "rule a (", "rule a '", "x", "\x00"} {
		for _, first := range []string{"", "source a ", "nosource ", "rule a ", "rule ", "norule a\n"} {
			if list, ok := impl.ParseEdits(first + strings.Repeat(s, n)); ok || len(list) != 0 {
				t.Errorf("ParseEdits accepts a text with %d times %q", n, s)
			}
		}
	}
	long := slices.Repeat(manyEdits(20), 5000)
	if got := impl.FormatEdits(long); got != "" || checkApplyAll(t, impl.Project{}, long) {
		t.Error("a very long list of edits is accepted")
	}
}

// affectedModel returns the targets of p for which one of the targets that their builds need reads path.
func affectedModel(p impl.Project, m buildModel, path string) []string {
	var list []string
	for _, r := range p.Rules {
		readsIt := func(target string) bool { return slices.Contains(m.reads[target], path) }
		if slices.ContainsFunc(m.allOrder(r.Target, nil, map[string]bool{}), readsIt) {
			list = append(list, r.Target)
		}
	}
	return list
}

// checkAffected compares Affected with the model for all paths of a project, and all that its bodies read. It returns how many targets are affected.
func checkAffected(t *testing.T, p impl.Project) int {
	t.Helper()
	m := newBuildModel(p)
	list := append(impl.ProjectPaths(p), "none", "", "A", "a ", "abcdefghi", x60)
	for _, reads := range m.reads {
		list = append(list, reads...)
	}
	slices.Sort(list)
	affected := 0
	for _, path := range slices.Compact(list) {
		want := affectedModel(p, m, path)
		if got := impl.Affected(p, path); !slices.Equal(got, want) {
			t.Fatalf("Affected of %q = %q, not %q, in %q", path, got, want, projectText(p))
		}
		affected += len(want)
	}
	return affected
}

func TestAffected(t *testing.T) {
	for _, c := range []struct{ what, project, path, want string }{
		{"directly and indirectly", "source a x|source b y|rule d (@'a'@'b')|rule e <@'d'|rule f @'b'", "b", "d e f"},
		{"not by all", "source a x|source b y|rule d (@'a'@'b')|rule e <@'d'|rule f @'b'", "a", "d e"},
		{"a target", "source a x|source b y|rule d (@'a'@'b')|rule e <@'d'|rule f @'b'", "d", "e"},
		{"a target that nothing reads", "source a x|source b y|rule d (@'a'@'b')|rule e <@'d'|rule f @'b'", "e", ""},
		{"a source that nothing reads", "source a x|source q y|rule d @'a'", "q", ""},
		{"a path that is neither and that nothing reads", "source a x|rule d @'a'", "q", ""},
		{"a path that is neither", "rule c (@'q''x')|rule d @'c'|rule e 'q'", "q", "c d"},
		{"a path that is neither is affected only by what is read", "rule c (@'q'@'s')|rule d @'c'", "s", ""},
		{"a read that does not change the text", "source a xy|rule c <@'a'|rule d ['x'=@'c'?'y':'y']", "a", "c d"},
		{"the operand of a comparison that is not needed", "source a 1|source m 1|rule d [@'m'='1'?'x':@'a']|rule e @'d'", "a", ""},
		{"what decides a comparison", "source a 1|source m 1|rule d [@'m'='1'?'x':@'a']|rule e @'d'", "m", "d e"},
		{"a computed path", "source a b|source b x|rule d @@'a'|rule e 'a'", "b", "d"},
		{"what a path is computed from", "source a b|source b x|rule d @@'a'|rule e 'a'", "a", "d"},
		{"no path", "source e |rule c @@'e'|rule d @'c'", "", "c d"},
		{"no path, but a text", "rule c @'A b'|rule d 'A b'", "A b", "c"},
		{"a longer path", "source aa x|source ab x|rule c @'aa'|rule d @'ab'", "aa", "c"},
		{"a part of a path", "source aa x|source ab x|rule c @'aa'|rule d @'ab'", "a", ""},
		{"after what is missing", "source a x|rule c (@'q'@'a')|rule d @'c'", "a", ""},
		{"before what is missing", "source a x|rule c (@'a'@'q')|rule d @'c'", "a", "c d"},
		{"through a target that has no text", "source a x|rule c (@'a'@'q')|rule d (@'b'@'c')|rule e (@'c'@'b')", "a", "c e"},
		{"too large", "source a x|source l " + x60 + "|rule c (@'l'@'a')|rule d (@'c'@'b')", "a", "c d"},
		{"after what is too large", "source a x|source l " + x60 + "|rule c (@'l'@'a')|rule d (@'c'@'b')", "b", ""},
		{"a target that reads itself", "rule c @'c'|rule d @'c'", "c", "c d"},
		{"a cycle", "rule c @'d'|rule d @'c'|rule e @'c'", "c", "c d e"},
		{"a cycle, the other target", "rule c @'d'|rule d @'c'|rule e @'c'", "d", "c d e"},
		{"a cycle, from outside", "rule c @'d'|rule d @'c'|rule e @'c'", "e", ""},
		{"a source read in a cycle", "source a x|rule c (@'a'@'d')|rule d @'c'|rule e @'d'", "a", "c d e"},
		{"a source after a cycle", "source a x|rule c (@'d'@'a')|rule d @'c'|rule e @'d'", "a", ""},
		{"one of several reads of a target that is built once", "source a x|rule b @'a'|rule c (@'b'@'b')|rule d (@'c'@'b')", "a", "b c d"},
		{"the first and the last target", "source m x|rule a @'m'|rule n ''|rule z @'m'", "m", "a z"},
		{"no rules", "source a x", "a", ""},
		{"empty project", "", "a", ""},
	} {
		p := projectOf(c.project)
		if got := impl.Affected(p, c.path); !slices.Equal(got, strings.Fields(c.want)) {
			t.Errorf("%s: Affected of %q = %q, not %q", c.what, c.path, got, c.want)
		}
		checkAffected(t, p)
	}
}

func TestAffectedAtTheLimits(t *testing.T) {
	lines := "source a x"
	for target := 'b'; target <= 'k'; target++ {
		lines += fmt.Sprintf("|rule %c @'%c'", target, target-1)
	}
	chain := projectOf(lines)
	for i, path := range "abcdefghijk" {
		if got := strings.Join(impl.Affected(chain, string(path)), ""); got != "bcdefghijk"[i:] {
			t.Errorf("Affected of %c = %s", path, got)
		}
	}
	for _, p := range []impl.Project{chain, fullProject(), {}, {Sources: manyFiles(12)}} {
		checkAffected(t, p)
	}
	for i, p := range smallProjects() {
		if i%5 == 0 {
			checkAffected(t, p)
		}
	}
}

// The first half of the promise. What is affected by a source is what was affected before its edit.
func TestEditsOfSourcesChangeAffectedTargetsOnly(t *testing.T) {
	r := rand.New(rand.NewSource(83))
	changed, spared, apart, total := 0, 0, 0, 0
	for range 3000 {
		p := randomProject(r)
		total += checkAffected(t, p)
		for range 5 {
			e := randomEditOf(r)
			if e.Kind != impl.EditSource && e.Kind != impl.EditNoSource {
				continue
			}
			q, ok := checkApply(t, p, e)
			affected := impl.Affected(p, e.Path)
			if again := impl.Affected(q, e.Path); ok && !slices.Equal(again, affected) {
				t.Fatalf("Affected of %s = %q before the edit %v and %q after it in %q", e.Path, affected, e, again, projectText(p))
			}
			for _, rule := range p.Rules {
				before, after := buildText(p, rule.Target), buildText(q, rule.Target)
				isAffected := slices.Contains(affected, rule.Target)
				switch {
				case before != after && !isAffected:
					t.Fatalf("%s has the result %s before the edit %v and %s after it, but only %q are affected in %q", rule.Target, before, e, after, affected, projectText(p))
				case before != after:
					changed++
				case ok && isAffected:
					spared++
				case ok:
					apart++
				}
			}
		}
	}
	if changed < 500 || spared < 150 || apart < 10000 || total < 15000 {
		t.Errorf("only %d results change, %d targets are affected without that, %d are not affected, or %d in all", changed, spared, apart, total)
	}
}

// diffModel returns the edits that lead from a to b, as the document lists them.
func diffModel(a, b impl.Project) []impl.Edit {
	from, to := modelOfProject(a), modelOfProject(b)
	both := maps.Clone(from)
	maps.Copy(both, to)
	groups := make([][]impl.Edit, 4)
	for _, path := range slices.Sorted(maps.Keys(both)) {
		for i, word := range []string{"source ", "rule "} {
			_, was := strings.CutPrefix(from[path], word)
			line, is := strings.CutPrefix(to[path], word)
			if was && !is {
				groups[i] = append(groups[i], edit([]int{impl.EditNoSource, impl.EditNoRule}[i], path, ""))
			}
			if is && from[path] != to[path] {
				groups[i+2] = append(groups[i+2], edit([]int{impl.EditSource, impl.EditRule}[i], path, line))
			}
		}
	}
	return slices.Concat(groups...)
}

// checkDiff compares DiffProjects of two valid projects with the model, and checks that the edits lead from the one to the other. It returns their number.
func checkDiff(t *testing.T, a, b impl.Project) int {
	t.Helper()
	want := diffModel(a, b)
	got := impl.DiffProjects(a, b)
	if !slices.Equal(got, want) {
		t.Fatalf("DiffProjects of %q and %q = %v, not %v", projectText(a), projectText(b), got, want)
	}
	p := a
	for _, e := range got {
		changed, ok := impl.ApplyEdit(p, e)
		if !ok {
			t.Fatalf("DiffProjects of %q and %q = %v, but the edit %v is refused in %q", projectText(a), projectText(b), got, e, projectText(p))
		}
		p = changed
	}
	if projectText(p) != projectText(b) {
		t.Fatalf("DiffProjects of %q and %q = %v, which leads to %q", projectText(a), projectText(b), got, projectText(p))
	}
	few := len(got) <= 20
	if p, ok := impl.ApplyEdits(a, got); ok != few || ok && projectText(p) != projectText(b) {
		t.Fatalf("ApplyEdits of %d edits = %q, %v", len(got), projectText(p), ok)
	}
	if s := impl.FormatEdits(got); few && s != editsText(got) || !few && s != "" {
		t.Fatalf("FormatEdits of %d edits = %q", len(got), s)
	}
	return len(got)
}

func TestDiffProjects(t *testing.T) {
	for _, c := range []struct{ what, a, b, want string }{
		{"two empty projects", "", "", ""},
		{"the same project", "source a x|rule c @'a'", "source a x|rule c @'a'", ""},
		{"added", "", "source a x|source b |rule c @'a'|rule d ''", "source a x|source b |rule c @'a'|rule d ''"},
		{"removed", "source a x|source b |rule c @'a'|rule d ''", "", "nosource a|nosource b|norule c|norule d"},
		{"other texts and bodies", "source a x|source b y|rule c @'a'|rule d ''", "source a z|source b y|rule c @'a'|rule d ()", "source a z|rule d ()"},
		{"a space more", "source a x|rule c 'x'", "source a x |rule c 'x '", "source a x |rule c 'x '"},
		{"an empty text", "source a x|source b ", "source a |source b x", "source a |source b x"},
		{"the same expression in parentheses", "rule c @'a'", "rule c (@'a')", "rule c (@'a')"},
		{"one of each group", "source a x|source b y|source e 1|rule c @'a'|rule d ''|rule f ''", "source b z|source e 1|source g 2|rule d @'b'|rule f ''|rule h @'g'", "nosource a|norule c|source b z|source g 2|rule d @'b'|rule h @'g'"},
		{"a rule becomes a source", "source a x|rule c @'a'", "source a x|source c y", "norule c|source c y"},
		{"a source becomes a rule", "source a x|source c y", "source a x|rule c @'a'", "nosource c|rule c @'a'"},
		{"a source and a rule change places", "source a x|rule c 'y'", "source c y|rule a 'x'", "nosource a|norule c|source c y|rule a 'x'"},
		{"a rule becomes a source, and other rules follow", "rule a ''|rule b ''|rule c ''", "source b |rule a ''|rule c '1'", "norule b|source b |rule c '1'"},
		{"paths that begin with each other", "source a x|source ab x|source abc x", "source a x|source aa x|source abc y", "nosource ab|source aa x|source abc y"},
		{"between and around", "source b 1|source d 1|rule f ''|rule h ''", "source a 1|source c 1|source e 1|rule ee ''|rule g ''|rule i ''", "nosource b|nosource d|norule f|norule h|source a 1|source c 1|source e 1|rule ee ''|rule g ''|rule i ''"},
	} {
		a, b := projectOf(c.a), projectOf(c.b)
		if got := impl.DiffProjects(a, b); !slices.Equal(got, editsOf(c.want)) {
			t.Errorf("%s: DiffProjects = %v, not %s", c.what, got, c.want)
		}
		checkDiff(t, a, b)
		checkDiff(t, b, a)
	}
}

func TestDiffProjectsOfSmallProjects(t *testing.T) {
	list := smallProjects()
	for i, a := range list {
		for j, b := range list {
			if (7*i+j)%11 == 0 {
				checkDiff(t, a, b)
			}
		}
	}
	for _, a := range []impl.Project{fullProject(), {Sources: manyFiles(12)}, {Rules: manyRules(10)}} {
		checkDiff(t, a, a)
		for _, b := range list[:100] {
			checkDiff(t, a, b)
			checkDiff(t, b, a)
		}
	}
}

// Two full projects without a common path differ by more edits than a list may have.
func TestDiffProjectsAtTheLimits(t *testing.T) {
	a := fullProject()
	b := impl.Project{}
	for i := range 12 {
		b.Sources = append(b.Sources, file("y"+string(rune('a'+i)), ""))
	}
	for i := range 10 {
		b.Rules = append(b.Rules, rule("z"+string(rune('a'+i)), "''"))
	}
	for want, other := range map[int]impl.Project{44: b, 22: {}, 34: {Sources: b.Sources}, 32: {Rules: b.Rules}} {
		if got := checkDiff(t, a, other); got != want {
			t.Errorf("there are %d edits, not %d", got, want)
		}
		if got := checkDiff(t, other, a); got != want {
			t.Errorf("there are %d edits, not %d", got, want)
		}
	}
	// All sources become targets, and all targets become sources.
	swapped := impl.Project{}
	for _, r := range a.Rules {
		swapped.Sources = append(swapped.Sources, file(r.Target, textOf(r.Body)))
	}
	for _, f := range a.Sources[:10] {
		swapped.Rules = append(swapped.Rules, impl.Rule{Target: f.Path, Body: text(f.Text)})
	}
	if got := checkDiff(t, a, swapped); got != 42 {
		t.Errorf("there are %d edits, not 42", got)
	}
	// Exactly as many edits as a list may have, and one more.
	for n, want := range map[int]int{8: 20, 9: 21, 10: 22} {
		part := impl.Project{Sources: slices.Clone(a.Sources), Rules: a.Rules[n:]}
		for i := range part.Sources {
			part.Sources[i].Text = "new"
		}
		if got := checkDiff(t, a, part); got != want {
			t.Errorf("there are %d edits, not %d", got, want)
		}
	}
}

func TestDiffProjectsOfRandomEdits(t *testing.T) {
	r := rand.New(rand.NewSource(84))
	counts := map[int]int{}
	for range 2000 {
		p := randomProject(r)
		q := p
		for range r.Intn(25) {
			q, _ = checkApply(t, q, randomEditOf(r))
		}
		counts[checkDiff(t, p, q)/5]++
		checkDiff(t, q, randomProject(r))
		checkDiff(t, impl.Project{}, q)
	}
	if counts[0] < 100 || counts[1] < 100 || counts[2] < 50 {
		t.Errorf("the numbers of differences, divided by 5, are %v", counts)
	}
}

// sessionText writes what RunSession returns.
func sessionText(built []impl.Built, computed int) string {
	return fmt.Sprintf("%s%d computed", allText(built), computed)
}

// sessionCounts counts what happens in sessions, so that a test can tell whether it has seen enough.
type sessionCounts struct {
	refused, reused, ran int
	codes                map[int]int
}

// checkSession compares RunSession with clean builds and the model of updates, for a valid project and at most MaxEdits edits.
func checkSession(t *testing.T, p impl.Project, list []impl.Edit, path string, n *sessionCounts) {
	t.Helper()
	var store []impl.Entry
	want, version, computed := "", p, 0
	for i := range len(list) + 1 {
		if i > 0 {
			var ok bool
			if version, ok = checkApply(t, version, list[i-1]); !ok {
				n.refused++
			}
		}
		clean := newBuildModel(version).of(path)
		want += path + " " + resultText(clean.code, clean.text) + "\n"
		m := newEngineModel(version, store)
		m.build(path)
		store = m.store()
		computed += len(m.ran)
		n.ran += len(m.ran)
		n.reused += len(m.reused)
		n.codes[clean.code]++
	}
	want += fmt.Sprint(computed) + " computed"
	if got := sessionText(impl.RunSession(p, list, path)); got != want {
		t.Fatalf("RunSession of %q with %v = %s, not %s, in %q", path, list, got, want, projectText(p))
	}
}

func TestRunSession(t *testing.T) {
	for _, c := range []struct {
		what, project, edits, path, want string
		computed                         int
	}{
		{"no edits", plainProject, "", "d", "fine x1", 2},
		{"the same text again", plainProject, "source a xz", "d", "fine x1|fine x1", 3},
		{"another text", plainProject, "source a y", "d", "fine x1|fine y1", 4},
		{"nothing changes", plainProject, "source a xy|rule d (@'c'@'b')", "d", "fine x1|fine x1|fine x1", 2},
		{"back and forth", plainProject, "source b 2|source b 1|source b 2", "d", "fine x1|fine x2|fine x1|fine x2", 5},
		{"a path that nothing reads", plainProject, "source q 1|rule r 'x'|source q 2|nosource q|norule r", "d", "fine x1|fine x1|fine x1|fine x1|fine x1|fine x1", 2},
		{"another body", plainProject, "rule d (@'b'@'c')", "d", "fine x1|fine 1x", 3},
		{"another body of the inner target", plainProject, "rule c >@'a'", "d", "fine x1|fine y1", 4},
		{"an inner target alone", plainProject, "source b 2|source a y", "c", "fine x|fine x|fine y", 2},
		{"what the operand of a comparison reads", "source a 1|source m 1|rule c @'a'|rule d [@'m'='1'?'x':@'c']", "source a 2|source m 2|source a 3", "d", "fine x|fine x|fine 2|fine 3", 5},

		{"refused", plainProject, "nosource q", "d", "fine x1|fine x1", 2},
		{"refused before another edit", plainProject, "source c q|source b 2", "d", "fine x1|fine x1|fine x2", 3},
		{"refused after another edit", plainProject, "source b 2|source c q", "d", "fine x1|fine x2|fine x2", 3},
		{"refused, and the target fails each time", "rule c @'q'|rule d @'c'", "nosource q|norule q", "d", "missing|missing|missing", 6},
		{"all edits are refused", plainProject, "nosource c|norule a|rule a ''|source d x", "d", "fine x1|fine x1|fine x1|fine x1|fine x1", 2},
		{"removed twice", plainProject, "nosource b|nosource b|source b 3", "d", "fine x1|missing|missing|fine x3", 5},

		{"a rule becomes a source", plainProject, "norule c|source c z", "d", "fine x1|missing|fine z1", 4},
		{"a rule becomes a source with the same text", plainProject, "norule c|source c x", "d", "fine x1|missing|fine x1", 4},
		{"a rule becomes a source at once, which is refused", plainProject, "source c z|norule c", "d", "fine x1|fine x1|missing", 3},
		{"the target becomes a source", plainProject, "norule d|source d z", "d", "fine x1|missing|fine z", 2},
		{"a source becomes a rule", plainProject, "nosource b|rule b @'a'", "d", "fine x1|missing|fine xxy", 5},
		{"a source becomes a rule with the same text", plainProject, "nosource b|rule b '1'", "d", "fine x1|missing|fine x1", 5},
		{"the path becomes a rule", plainProject, "nosource b|rule b @'a'", "b", "fine 1|missing|fine xy", 1},
		{"the entry of a removed rule is used when the rule is back", plainProject, "norule d|rule d (@'c'@'b')", "d", "fine x1|missing|fine x1", 2},
		{"the entry of a removed rule cannot be used after a change", plainProject, "norule d|source b 2|rule d (@'c'@'b')", "d", "fine x1|missing|missing|fine x2", 3},
		{"a failed update removes the entry", plainProject, "nosource b|source b 1", "d", "fine x1|missing|fine x1", 4},

		{"a source", plainProject, "source a 1|nosource a|source a 2", "a", "fine xy|fine 1|missing|fine 2", 0},
		{"a path that becomes a source", plainProject, "source q 1", "q", "missing|fine 1", 0},
		{"a path that becomes a target", plainProject, "rule q @'d'", "q", "missing|fine x1", 3},
		{"no path", plainProject, "source a 1", "", "missing|missing", 0},
		{"no path, but a text", plainProject, "source a 1", "A b", "missing|missing", 0},
		{"the empty project", "", "rule d @'a'|source a 1|nosource a", "d", "missing|missing|fine 1|missing", 3},
		{"a cycle that comes and goes", plainProject, "rule c @'d'|rule c <@'a'", "d", "fine x1|cycle|fine x1", 6},
		{"too large", plainProject, "source b " + x60 + "|source b 1", "d", "fine x1|large|fine x1", 4},
	} {
		p, list := projectOf(c.project), editsOf(c.edits)
		want := ""
		for _, result := range strings.Split(c.want, "|") {
			want += c.path + " " + result + "\n"
		}
		want += fmt.Sprint(c.computed) + " computed"
		if got := sessionText(impl.RunSession(p, list, c.path)); got != want {
			t.Errorf("%s: RunSession of %q = %s, not %s", c.what, c.path, got, want)
		}
		for _, path := range append(impl.ProjectPaths(p), "q", "", "A") {
			checkSession(t, p, list, path, &sessionCounts{codes: map[int]int{}})
		}
	}
}

// An edit that is not valid is skipped like one that is refused, wherever it is in the list.
func TestRunSessionSkipsInvalidEdits(t *testing.T) {
	p := projectOf(plainProject)
	fine := editsOf("source b 2|norule c|source c z")
	for what, e := range invalidEdits() {
		for i := range len(fine) + 1 {
			list := slices.Insert(slices.Clone(fine), i, e)
			built, computed := impl.RunSession(p, list, "d")
			if len(built) != 5 || built[i] != built[min(i+1, 4)] && built[i].Code == impl.BuildFine {
				t.Errorf("RunSession with an edit with this fault: %s = %s", what, sessionText(built, computed))
			}
			checkSession(t, p, list, "d", &sessionCounts{codes: map[int]int{}})
		}
	}
	for _, path := range invalidTargets {
		checkSession(t, p, []impl.Edit{edit(impl.EditSource, path, "x"), edit(impl.EditRule, path, "''"), edit(impl.EditNoSource, path, ""), edit(impl.EditNoRule, path, "")}, path, &sessionCounts{codes: map[int]int{}})
	}
}

// The second half of the promise, with lists of any length that is allowed, and edits of which some are refused.
func TestSessionsHaveTheResultsOfCleanBuilds(t *testing.T) {
	r := rand.New(rand.NewSource(85))
	n := &sessionCounts{codes: map[int]int{}}
	for range 1000 {
		p := randomProject(r)
		var list []impl.Edit
		for range r.Intn(21) {
			list = append(list, randomEditOf(r))
		}
		for range 3 {
			checkSession(t, p, list, string(rune('a'+r.Intn(14))), n)
		}
		checkSession(t, p, list, randomPath(r), n)
	}
	if n.refused < 4000 || n.reused < 5000 || n.ran < 5000 {
		t.Errorf("only %d edits are refused, or %d entries reused, or %d targets computed", n.refused, n.reused, n.ran)
	}
	for code := impl.BuildFine; code <= impl.BuildLarge; code++ {
		if n.codes[code] < 40 {
			t.Errorf("only %d results have the code %d", n.codes[code], code)
		}
	}
}

// Ten targets of a full project and ten further ones, each of which takes the place of one of them, fill the store.
func TestSessionsWithManyEntries(t *testing.T) {
	p := projectOf("source a n|rule ba @'bb'|rule bb @'bc'|rule bc @'bd'|rule bd @'be'|rule be @'bf'|rule bf @'bg'|rule bg @'bh'|rule bh @'bi'|rule bi @'bj'|rule bj @@'a'")
	for _, path := range []string{"ba", "bj", "none", "a"} {
		list := editsOf("norule bi|rule ca @@'a'|norule bh|rule cb @'ca'|norule bg|rule cc @'cb'|norule bf|rule cd @'cc'|norule be|rule ce @'cd'|norule bd|rule cf @'ce'|norule bc|rule cg @'cf'|norule bb|rule ch @'cg'|rule ba @'ch'|source n x|source a bj|source bi 1")
		checkSession(t, p, list, path, &sessionCounts{codes: map[int]int{}})
		checkSession(t, p, append([]impl.Edit{edit(impl.EditSource, "n", "y")}, list[1:]...), path, &sessionCounts{codes: map[int]int{}})
	}
	// A text per version, so that every version computes something.
	var list []impl.Edit
	want := "d missing\n"
	for i := range 20 {
		list = append(list, edit(impl.EditSource, "a", fmt.Sprint(i)))
		want += fmt.Sprintf("d fine %d%d\n", i, i)
	}
	p = projectOf("rule b @'a'|rule c @'b'|rule d (@'c'@'b')")
	if got := sessionText(impl.RunSession(p, list, "d")); got != want+"63 computed" {
		t.Errorf("RunSession = %s", got)
	}
}

func TestEditsOfInvalidProjects(t *testing.T) {
	plain := projectOf(plainProject)
	for what, p := range invalidProjects() {
		list := []impl.Edit{edit(impl.EditSource, "zz", "x"), edit(impl.EditRule, "zz", "''")}
		for _, f := range p.Sources[:min(3, len(p.Sources))] {
			list = append(list, edit(impl.EditNoSource, f.Path, ""), edit(impl.EditSource, f.Path, "x"))
		}
		for _, r := range p.Rules[:min(3, len(p.Rules))] {
			list = append(list, edit(impl.EditNoRule, r.Target, ""), edit(impl.EditRule, r.Target, "''"))
		}
		// Some of these edits would take away what is wrong, but the project that they start from is not valid.
		for _, e := range list {
			if got, ok := impl.ApplyEdit(p, e); ok || !isZero(got) {
				t.Errorf("ApplyEdit of %v in a project with this fault: %s = %v, %v", e, what, got, ok)
			}
			if got, ok := impl.ApplyEdits(p, []impl.Edit{e}); ok || !isZero(got) {
				t.Errorf("ApplyEdits of %v in a project with this fault: %s = %v, %v", e, what, got, ok)
			}
			if built, computed := impl.RunSession(p, []impl.Edit{e}, e.Path); len(built) != 0 || computed != 0 {
				t.Errorf("RunSession of %v in a project with this fault: %s = %v, %d", e, what, built, computed)
			}
			if got := impl.Affected(p, e.Path); len(got) != 0 {
				t.Errorf("Affected of %q in a project with this fault: %s = %q", e.Path, what, got)
			}
		}
		if got, ok := impl.ApplyEdits(p, nil); ok || !isZero(got) {
			t.Errorf("ApplyEdits of no edits in a project with this fault: %s = %v, %v", what, got, ok)
		}
		if built, computed := impl.RunSession(p, nil, "d"); len(built) != 0 || computed != 0 {
			t.Errorf("RunSession without edits in a project with this fault: %s = %v, %d", what, built, computed)
		}
		for _, other := range []impl.Project{plain, {}, p} {
			if got := append(impl.DiffProjects(p, other), impl.DiffProjects(other, p)...); len(got) != 0 {
				t.Errorf("DiffProjects of a project with this fault: %s = %v", what, got)
			}
		}
	}
}

// editResults returns the results of all functions of the chapter that return a project, most of which keep nearly all of p.
func editResults(p impl.Project) map[string]impl.Project {
	results := map[string]impl.Project{}
	for _, e := range editsOf("source b new|source z new|nosource c|rule ab " + textOf(join20()) + "|rule zz (@'a'@'b')|norule ac") {
		got, _ := impl.ApplyEdit(p, e)
		results[editsText([]impl.Edit{e})] = got
	}
	for _, lines := range []string{"", "source b new", "nosource c|norule ac|rule c ''|source ac x|source a x"} {
		got, _ := impl.ApplyEdits(p, editsOf(lines))
		results["all of "+lines] = got
	}
	return results
}

func TestEditedProjectsShareNoMemory(t *testing.T) {
	p := sharingProject()
	for what, got := range editResults(p) {
		if isZero(got) {
			t.Errorf("there is no result of %s", what)
		}
	}
	checkProjectLeftAlone(t, p, editResults)
	checkProjectsApart(t, p, editResults)
}

// spoilEdits overwrites a list of edits, with its unused capacity.
func spoilEdits(list []impl.Edit) {
	for i := range list[:cap(list)] {
		list[:cap(list)][i] = edit(impl.EditRule, "spoilt", "spoilt")
	}
}

func TestEditsShareNoMemory(t *testing.T) {
	p, q := sharingProject(), sharingProject()
	p.Rules[2].Body = read("a")
	q.Sources, q.Rules = q.Sources[1:], q.Rules[1:]
	list := editsOf("source b 1|nosource z|rule e @'b'|source b 2|norule e|source c 3")[:4]
	whole := func() string { return wholeText(p) + wholeText(q) + editsText(list[:cap(list)]) }
	before := whole()
	s := editsText(list)
	results := func() ([]impl.Edit, []impl.Edit, []impl.Built, []string) {
		parsed, _ := impl.ParseEdits(s)
		impl.FormatEdits(list)
		impl.ApplyEdits(p, list)
		built, _ := impl.RunSession(p, list, "aa")
		return parsed, impl.DiffProjects(p, q), built, impl.Affected(p, "a")
	}
	write := func(parsed, diff []impl.Edit, built []impl.Built, affected []string) string {
		return editsText(parsed) + editsText(diff) + allText(built) + strings.Join(affected, " ")
	}
	want := write(results())
	parsed, diff, built, affected := results()
	if len(parsed) == 0 || len(diff) == 0 || len(built) == 0 || len(affected) == 0 {
		t.Errorf("a list is empty: %v, %v, %v, %q", parsed, diff, built, affected)
	}
	spoilEdits(parsed)
	spoilEdits(diff)
	spoilStrings(affected)
	for i := range built[:cap(built)] {
		built[:cap(built)][i] = impl.Built{Path: "spoilt"}
	}
	if got := write(results()); got != want {
		t.Errorf("the results are %q at first and then %q", want, got)
	}
	if whole() != before {
		t.Errorf("a function modifies its arguments: %q, not %q", whole(), before)
	}
}
