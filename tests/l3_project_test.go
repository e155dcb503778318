package tests

import (
	"fmt"
	"maps"
	"math/rand"
	"regexp"
	"slices"
	"strings"
	"testing"

	"loop.example/buildengine/impl"
)

// rule is short for the literal of a rule whose body has a text.
func rule(target, body string) impl.Rule {
	e, ok := impl.ParseExpr(body)
	if !ok {
		panic("no expression: " + body)
	}
	return impl.Rule{Target: target, Body: e}
}

// manyRules returns n rules whose targets are aa, ab, ac and so on, and whose bodies all differ.
func manyRules(n int) []impl.Rule {
	var list []impl.Rule
	for i := range n {
		list = append(list, impl.Rule{Target: "a" + string(rune('a'+i)), Body: node(impl.ExprJoin, text(fmt.Sprint(i)), read("b"))})
	}
	return list
}

// fullProject has as many sources and rules as a project may have.
func fullProject() impl.Project {
	return impl.Project{Sources: manyFiles(impl.MaxFiles), Rules: manyRules(impl.MaxRules)}
}

// smallProjects returns all projects in which each of four paths is free, a source or a target, with one of two texts or bodies.
func smallProjects() []impl.Project {
	list := []impl.Project{{}}
	for _, path := range []string{"a", "ab", "b", "ba"} {
		for _, p := range slices.Clone(list) {
			for _, text := range []string{"", "x y"} {
				list = append(list, impl.Project{Sources: append(slices.Clone(p.Sources), file(path, text)), Rules: p.Rules})
			}
			for _, body := range []string{"''", "(@'a'@<'ba')"} {
				list = append(list, impl.Project{Sources: p.Sources, Rules: append(slices.Clone(p.Rules), rule(path, body))})
			}
		}
	}
	return list
}

// editPaths has the paths of the small projects, and some between and after them.
var editPaths = []string{"a", "aa", "ab", "b", "ba", "zzzzzzzz"}

// projectText writes a project as the document says.
func projectText(p impl.Project) string {
	s := "project\n"
	for _, f := range p.Sources {
		s += "source " + f.Path + " " + f.Text + "\n"
	}
	for _, r := range p.Rules {
		s += "rule " + r.Target + " " + textOf(r.Body) + "\n"
	}
	return s
}

// invalidTargets are strings that are not paths.
var invalidTargets = []string{"", "A", "a1", "abcdefghi", "a b", "a ", " a", "a\n", "\u00e9", "\xff", "\x00"}

// invalidProjects returns projects that are not valid, by what is wrong with them.
func invalidProjects() map[string]impl.Project {
	sources := []impl.File{file("a", "x"), file("c", "")}
	list := map[string]impl.Project{
		"11 rules":                  {Sources: sources, Rules: manyRules(impl.MaxRules + 1)},
		"30 rules":                  {Rules: manyRules(30)},
		"descending rules":          {Rules: []impl.Rule{rule("d", "''"), rule("b", "''")}},
		"descending rules at end":   {Rules: []impl.Rule{rule("b", "''"), rule("d", "''"), rule("c", "''")}},
		"longer target first":       {Rules: []impl.Rule{rule("bb", "''"), rule("b", "''")}},
		"target twice":              {Rules: []impl.Rule{rule("b", "'1'"), rule("b", "'2'")}},
		"same rule twice":           {Sources: sources, Rules: []impl.Rule{rule("b", "'1'"), rule("b", "'1'")}},
		"first source is a target":  {Sources: sources, Rules: []impl.Rule{rule("a", "''")}},
		"last source is a target":   {Sources: sources, Rules: []impl.Rule{rule("b", "''"), rule("c", "''")}},
		"first target is a source":  {Sources: sources, Rules: []impl.Rule{rule("a", "''"), rule("b", "''"), rule("d", "''")}},
		"middle target is a source": {Sources: sources[1:], Rules: []impl.Rule{rule("b", "''"), rule("c", "''"), rule("d", "''")}},
		"all sources are targets":   {Sources: sources, Rules: []impl.Rule{rule("a", "'x'"), rule("c", "''")}},
	}
	for _, target := range invalidTargets {
		list[fmt.Sprintf("first target %q", target)] = impl.Project{Sources: sources, Rules: []impl.Rule{rule(target, "''"), rule("zzzzzzzz", "''")}}
		list[fmt.Sprintf("last target %q", target)] = impl.Project{Rules: []impl.Rule{rule("", "''"), rule(target, "''")}[1:]}
	}
	for what, bad := range invalidLists() {
		list["sources: "+what] = impl.Project{Sources: bad, Rules: []impl.Rule{rule("zzz", "''")}}
		list["only sources: "+what] = impl.Project{Sources: bad}
	}
	for what, bad := range invalidExprs() {
		list["body: "+what] = impl.Project{Sources: sources, Rules: []impl.Rule{rule("b", "''"), {Target: "d", Body: bad}}}
		list["only body: "+what] = impl.Project{Rules: []impl.Rule{{Target: "d", Body: bad}}}
	}
	return list
}

// isZero reports whether p is the zero value.
func isZero(p impl.Project) bool {
	return len(p.Sources) == 0 && len(p.Rules) == 0
}

func isZeroExpr(e impl.Expr) bool {
	return e.Kind == 0 && e.Text == "" && len(e.Kids) == 0
}

func TestProjectValid(t *testing.T) {
	for _, p := range smallProjects() {
		if !impl.ProjectValid(p) {
			t.Errorf("ProjectValid refuses %q", projectText(p))
		}
	}
	for what, p := range invalidProjects() {
		if impl.ProjectValid(p) {
			t.Errorf("ProjectValid accepts a project with this fault: %s", what)
		}
	}
}

func TestProjectValidSizes(t *testing.T) {
	for sources := range impl.MaxFiles + 3 {
		for rules := range impl.MaxRules + 3 {
			p := impl.Project{Sources: manyFiles(sources), Rules: manyRules(rules)}
			if got := impl.ProjectValid(p); got != (sources <= 12 && rules <= 10) {
				t.Errorf("ProjectValid of %d sources and %d rules = %v", sources, rules, got)
			}
		}
	}
}

func TestProjectValidBodies(t *testing.T) {
	for _, e := range sampleExprs() {
		if !impl.ProjectValid(impl.Project{Rules: []impl.Rule{{Target: "a", Body: e}, {Target: "abcdefgh", Body: e}}}) {
			t.Errorf("ProjectValid refuses the body %s", textOf(e))
		}
	}
}

func TestProjectSame(t *testing.T) {
	list := smallProjects()
	for i, a := range list {
		for j, b := range list {
			if got := impl.ProjectSame(a, b); got != (i == j) {
				t.Errorf("ProjectSame(%q, %q) = %v", projectText(a), projectText(b), got)
			}
		}
	}
	empty := impl.Project{Sources: []impl.File{}, Rules: []impl.Rule{}}
	if !impl.ProjectSame(empty, impl.Project{}) || !impl.ProjectSame(fullProject(), fullProject()) {
		t.Error("ProjectSame is wrong for empty or full projects")
	}
}

// changedProjects returns projects that differ from p in one place.
func changedProjects(p impl.Project) []impl.Project {
	list := []impl.Project{
		{Sources: append(slices.Clone(p.Sources), impl.File{}), Rules: p.Rules},
		{Sources: p.Sources, Rules: append(slices.Clone(p.Rules), impl.Rule{})},
	}
	for i, f := range p.Sources {
		for _, changed := range []impl.File{file(f.Path+"x", f.Text), file(f.Path, f.Text+" ")} {
			sources := slices.Clone(p.Sources)
			sources[i] = changed
			list = append(list, impl.Project{Sources: sources, Rules: p.Rules})
		}
		list = append(list, impl.Project{Sources: slices.Delete(slices.Clone(p.Sources), i, i+1), Rules: p.Rules})
	}
	for i, r := range p.Rules {
		changes := []impl.Rule{{Target: r.Target + "x", Body: r.Body}}
		for _, body := range changedExprs(r.Body) {
			changes = append(changes, impl.Rule{Target: r.Target, Body: body})
		}
		for _, changed := range changes {
			rules := slices.Clone(p.Rules)
			rules[i] = changed
			list = append(list, impl.Project{Sources: p.Sources, Rules: rules})
		}
		list = append(list, impl.Project{Sources: p.Sources, Rules: slices.Delete(slices.Clone(p.Rules), i, i+1)})
	}
	return list
}

func TestProjectSameOfAnyProjects(t *testing.T) {
	list := slices.Collect(maps.Values(invalidProjects()))
	for _, p := range list {
		if !impl.ProjectSame(p, p) || !impl.ProjectSame(p, impl.Project{Sources: slices.Clone(p.Sources), Rules: slices.Clone(p.Rules)}) {
			t.Error("ProjectSame: an invalid project differs from itself")
		}
		if impl.ProjectSame(p, fullProject()) || impl.ProjectSame(fullProject(), p) {
			t.Error("ProjectSame: an invalid project is equal to a valid one")
		}
	}
	odd := impl.Project{Sources: []impl.File{file("b", "\n"), file("A", ""), file("b", "2")}, Rules: []impl.Rule{rule("", "''"), {Target: "b"}, rule("b", "[@'a'='b'?():<'d']")}}
	for _, p := range []impl.Project{odd, fullProject(), {Sources: manyFiles(20), Rules: manyRules(20)}} {
		for _, changed := range changedProjects(p) {
			if impl.ProjectSame(p, changed) || impl.ProjectSame(changed, p) {
				t.Errorf("ProjectSame: %v is equal to %v", p, changed)
			}
		}
	}
	swapped := impl.Project{Sources: []impl.File{odd.Sources[1], odd.Sources[0], odd.Sources[2]}, Rules: odd.Rules}
	if impl.ProjectSame(odd, swapped) || impl.ProjectSame(odd, impl.Project{Sources: odd.Sources, Rules: []impl.Rule{odd.Rules[1], odd.Rules[0], odd.Rules[2]}}) {
		t.Error("ProjectSame ignores an order")
	}
}

// checkProject checks that p is the valid project of model, which says of each path what its line has after the path.
func checkProject(t *testing.T, what string, p impl.Project, model map[string]string) {
	t.Helper()
	want := "project\n"
	for _, word := range []string{"source ", "rule "} {
		for _, path := range slices.Sorted(maps.Keys(model)) {
			if line, found := strings.CutPrefix(model[path], word); found {
				want += word + path + " " + line + "\n"
			}
		}
	}
	if got := projectText(p); got != want || !impl.ProjectValid(p) {
		t.Errorf("%s: the project is %q, not the valid %q", what, got, want)
	}
	for _, path := range append(slices.Collect(maps.Keys(model)), editPaths...) {
		body, isRule := strings.CutPrefix(model[path], "rule ")
		e, ok := impl.FindRule(p, path)
		if ok != isRule || ok && textOf(e) != body || !ok && !isZeroExpr(e) {
			t.Errorf("%s: FindRule(%q) = %v, %v", what, path, e, ok)
		}
	}
	if got := impl.ProjectPaths(p); !slices.Equal(got, slices.Sorted(maps.Keys(model))) {
		t.Errorf("%s: ProjectPaths = %q", what, got)
	}
}

func modelOfProject(p impl.Project) map[string]string {
	model := map[string]string{}
	for _, f := range p.Sources {
		model[f.Path] = "source " + f.Text
	}
	for _, r := range p.Rules {
		model[r.Target] = "rule " + textOf(r.Body)
	}
	return model
}

// checkEdit checks the result of an edit that gives a path a line, or removes it where the line is empty, if there may be this edit.
func checkEdit(t *testing.T, what string, p impl.Project, path string, line string, may bool, got impl.Project, ok bool) {
	t.Helper()
	if ok != may || !ok && !isZero(got) {
		t.Errorf("%s of %q in %q = %q, %v", what, path, projectText(p), projectText(got), ok)
	}
	if ok {
		model := modelOfProject(p)
		model[path] = line
		if line == "" {
			delete(model, path)
		}
		checkProject(t, what, got, model)
	}
}

func TestEditsChangeOnlyWhatTheyName(t *testing.T) {
	for _, p := range smallProjects() {
		model := modelOfProject(p)
		checkProject(t, "a small project", p, model)
		for _, path := range editPaths {
			isSource, isTarget := strings.HasPrefix(model[path], "source "), strings.HasPrefix(model[path], "rule ")
			for _, text := range []string{"", "x y", strings.Repeat("z", 60)} {
				got, ok := impl.SetSource(p, file(path, text))
				checkEdit(t, "SetSource", p, path, "source "+text, !isTarget, got, ok)
			}
			for _, body := range []string{"''", "(@'a'@<'ba')", textOf(join20())} {
				got, ok := impl.SetRule(p, rule(path, body))
				checkEdit(t, "SetRule", p, path, "rule "+body, !isSource, got, ok)
			}
			got, ok := impl.RemoveSource(p, path)
			checkEdit(t, "RemoveSource", p, path, "", isSource, got, ok)
			got, ok = impl.RemoveRule(p, path)
			checkEdit(t, "RemoveRule", p, path, "", isTarget, got, ok)
		}
	}
}

func TestEditsAtTheLimits(t *testing.T) {
	full := fullProject()
	got, ok := impl.SetSource(full, file("z", ""))
	checkEdit(t, "SetSource", full, "z", "source ", false, got, ok)
	got, ok = impl.SetRule(full, rule("z", "''"))
	checkEdit(t, "SetRule", full, "z", "rule ''", false, got, ok)
	for _, f := range full.Sources {
		got, ok = impl.SetSource(full, file(f.Path, "new"))
		checkEdit(t, "SetSource", full, f.Path, "source new", true, got, ok)
		less, ok := impl.RemoveSource(full, f.Path)
		checkEdit(t, "RemoveSource", full, f.Path, "", true, less, ok)
		got, ok = impl.SetSource(less, file("zzzzzzzz", ""))
		checkEdit(t, "SetSource", less, "zzzzzzzz", "source ", true, got, ok)
	}
	for _, r := range full.Rules {
		got, ok = impl.SetRule(full, rule(r.Target, "'new'"))
		checkEdit(t, "SetRule", full, r.Target, "rule 'new'", true, got, ok)
		less, ok := impl.RemoveRule(full, r.Target)
		checkEdit(t, "RemoveRule", full, r.Target, "", true, less, ok)
		got, ok = impl.SetRule(less, rule("zzzzzzzz", "''"))
		checkEdit(t, "SetRule", less, "zzzzzzzz", "rule ''", true, got, ok)
	}
	for _, e := range sampleExprs()[:300] {
		got, ok = impl.SetRule(full, impl.Rule{Target: "af", Body: e})
		checkEdit(t, "SetRule", full, "af", "rule "+textOf(e), true, got, ok)
	}
}

func TestEditsWithInvalidArguments(t *testing.T) {
	for _, p := range []impl.Project{{}, fullProject(), smallProjects()[400]} {
		check := func(what string, got impl.Project, ok bool) {
			t.Helper()
			if ok || !isZero(got) {
				t.Errorf("%s in %q = %q, %v", what, projectText(p), projectText(got), ok)
			}
		}
		for _, path := range append([]string{"q", "zz"}, invalidTargets...) {
			got, ok := impl.RemoveSource(p, path)
			check("RemoveSource of no source", got, ok)
			got, ok = impl.RemoveRule(p, path)
			check("RemoveRule of no rule", got, ok)
		}
		for _, path := range invalidTargets {
			got, ok := impl.SetSource(p, file(path, "x"))
			check("SetSource of no path", got, ok)
			got, ok = impl.SetRule(p, rule(path, "'x'"))
			check("SetRule of no path", got, ok)
		}
		for _, s := range []string{"\n", "x\n", "\x7f", "\x1f", "\u00e9", strings.Repeat("x", 61)} {
			for _, path := range []string{"a", "q"} {
				got, ok := impl.SetSource(p, file(path, s))
				check("SetSource of no text", got, ok)
			}
		}
		for what, e := range invalidExprs() {
			for _, path := range []string{"ab", "q"} {
				got, ok := impl.SetRule(p, impl.Rule{Target: path, Body: e})
				check("SetRule of a body with this fault: "+what, got, ok)
			}
		}
	}
}

// Some of these edits would take away what is wrong, but the project that they start from is not valid.
func TestInvalidProjectsHaveNoResults(t *testing.T) {
	for what, p := range invalidProjects() {
		paths := []string{"a", "b", "zz"}
		for _, f := range p.Sources[:min(4, len(p.Sources))] {
			paths = append(paths, f.Path)
		}
		for _, r := range p.Rules[:min(4, len(p.Rules))] {
			paths = append(paths, r.Target)
		}
		check := func(name string, got impl.Project, ok bool) {
			t.Helper()
			if ok || !isZero(got) {
				t.Errorf("%s of a project with this fault: %s = %v, %v", name, what, got, ok)
			}
		}
		for _, path := range paths {
			got, ok := impl.SetSource(p, file(path, "x"))
			check("SetSource", got, ok)
			got, ok = impl.RemoveSource(p, path)
			check("RemoveSource", got, ok)
			got, ok = impl.SetRule(p, rule(path, "'x'"))
			check("SetRule", got, ok)
			got, ok = impl.RemoveRule(p, path)
			check("RemoveRule", got, ok)
			if e, ok := impl.FindRule(p, path); ok || !isZeroExpr(e) {
				t.Errorf("FindRule of a project with this fault: %s = %v, %v", what, e, ok)
			}
		}
		if s := impl.FormatProject(p); s != "" {
			t.Errorf("FormatProject of a project with this fault: %s = %q", what, s)
		}
		if got := impl.ProjectPaths(p); len(got) != 0 {
			t.Errorf("ProjectPaths of a project with this fault: %s = %q", what, got)
		}
	}
}

func TestFindRule(t *testing.T) {
	for _, e := range sampleExprs()[:500] {
		p := impl.Project{Sources: []impl.File{file("a", "x")}, Rules: []impl.Rule{rule("b", "'1'"), {Target: "bc", Body: e}, rule("d", "'2'")}}
		if got, ok := impl.FindRule(p, "bc"); !ok || !sameExpr(got, e) {
			t.Errorf("FindRule of %s = %v, %v", textOf(e), got, ok)
		}
		for _, target := range append([]string{"a", "c", "bcc", "x"}, invalidTargets...) {
			if got, ok := impl.FindRule(p, target); ok || !isZeroExpr(got) {
				t.Errorf("FindRule(%q) = %v, %v", target, got, ok)
			}
		}
	}
}

func TestFormatProject(t *testing.T) {
	for want, p := range map[string]impl.Project{
		"project\n":                                {},
		"project\nsource a \n":                     {Sources: []impl.File{file("a", "")}},
		"project\nsource a  \n":                    {Sources: []impl.File{file("a", " ")}},
		"project\nrule a ''\n":                     {Rules: []impl.Rule{rule("a", "''")}},
		"project\nsource a x\nrule b (@'a'@'a')\n": {Sources: []impl.File{file("a", "x")}, Rules: []impl.Rule{rule("b", "(@'a'@'a')")}},
		"project\nsource b rule a '1'\nsource c \nrule a ' '\nrule abcdefgh [@'b'='source b x'?():<#@@'a']\n": {Sources: []impl.File{file("b", "rule a '1'"), file("c", "")}, Rules: []impl.Rule{rule("a", "' '"), rule("abcdefgh", "[@'b'='source b x'?():<#@@'a']")}},
	} {
		if got := impl.FormatProject(p); got != want || projectText(p) != want {
			t.Errorf("FormatProject = %q, not %q", got, want)
		}
	}
	for _, p := range append(smallProjects(), fullProject()) {
		if got := impl.FormatProject(p); got != projectText(p) {
			t.Errorf("FormatProject = %q, not %q", got, projectText(p))
		}
	}
}

func sameRule(a, b impl.Rule) bool {
	return a.Target == b.Target && sameExpr(a.Body, b.Body)
}

func checkReadBack(t *testing.T, p impl.Project) {
	t.Helper()
	s := impl.FormatProject(p)
	got, ok := impl.ParseProject(s)
	if !ok || !slices.Equal(got.Sources, p.Sources) || !slices.EqualFunc(got.Rules, p.Rules, sameRule) || !impl.ProjectSame(got, p) {
		t.Errorf("ParseProject(%q) = %v, %v", s, got, ok)
	}
}

func TestProjectsAreReadBack(t *testing.T) {
	for _, p := range smallProjects() {
		checkReadBack(t, p)
	}
	checkReadBack(t, fullProject())
	checkReadBack(t, impl.Project{Sources: []impl.File{file("a", " "), file("b", " x "), file("c", "  "), file("zzzzzzzz", strings.Repeat("~", 60))}})
	exprs := sampleExprs()
	for i := 0; i+impl.MaxRules <= len(exprs); i += impl.MaxRules {
		p := fullProject()
		for j := range p.Rules {
			p.Rules[j].Body = exprs[i+j]
		}
		checkReadBack(t, p)
	}
}

var sourceLine = regexp.MustCompile(`^source ([a-z]{1,8}) [ -~]{0,60}$`)
var ruleLine = regexp.MustCompile(`^rule ([a-z]{1,8}) (.*)$`)

// isProjectText decides line by line whether s is the text of a valid project.
func isProjectText(s string) bool {
	lines := strings.Split(s, "\n")
	if len(lines) < 2 || lines[0] != "project" || lines[len(lines)-1] != "" {
		return false
	}
	var sources, targets []string
	for _, line := range lines[1 : len(lines)-1] {
		if m := sourceLine.FindStringSubmatch(line); m != nil && len(targets) == 0 {
			sources = append(sources, m[1])
		} else if m := ruleLine.FindStringSubmatch(line); m != nil && isText(m[2]) && !slices.Contains(sources, m[1]) {
			targets = append(targets, m[1])
		} else {
			return false
		}
	}
	return ascending(sources) && ascending(targets) && len(sources) <= 12 && len(targets) <= 10
}

func ascending(list []string) bool {
	return slices.Equal(list, slices.Compact(slices.Sorted(slices.Values(list))))
}

// checkParsed checks that parse returns the value whose text is s, exactly if isText says that there is one, and reports whether it does.
// The text of a value is what write, of the tests, and format, of the program, return.
func checkParsed[T any](t *testing.T, s string, isText func(string) bool, parse func(string) (T, bool), write, format func(T) string) bool {
	t.Helper()
	var zero T
	value, ok := parse(s)
	switch {
	case ok != isText(s):
		t.Fatalf("the text %q is parsed as %v, %v", s, value, ok)
	case ok && (write(value) != s || format(value) != s):
		t.Fatalf("the text %q is parsed as %v, whose text is %q", s, value, format(value))
	case !ok && write(value) != write(zero):
		t.Fatalf("the text %q is refused with %v", s, value)
	}
	return ok
}

// checkParseProject checks ParseProject of s, and reports whether s is the text of a project.
func checkParseProject(t *testing.T, s string) bool {
	t.Helper()
	return checkParsed(t, s, isProjectText, impl.ParseProject, projectText, impl.FormatProject)
}

// textsOfLines returns a text with some of the lines after it, in any order, the shorter texts first, until there are most of them.
func textsOfLines(first string, lines []string, most int) []string {
	list := []string{first}
	for i := 0; len(list) < most; i++ {
		for _, line := range lines {
			list = append(list, list[i]+line)
		}
	}
	return list
}

// randomTexts returns n texts of fewer than most lines.
func randomTexts(seed int64, lines []string, most, n int) []string {
	r := rand.New(rand.NewSource(seed))
	list := make([]string, n)
	for i := range list {
		for range r.Intn(most) {
			list[i] += lines[r.Intn(len(lines))]
		}
	}
	return list
}

// countAccepted returns for how many texts check is true.
func countAccepted(t *testing.T, texts []string, check func(t *testing.T, s string) bool) int {
	t.Helper()
	accepted := 0
	for _, s := range texts {
		if check(t, s) {
			accepted++
		}
	}
	return accepted
}

// All texts of up to four lines, some of which are not the lines of a project, and some without a newline.
func TestParseProjectLinesInAnyOrder(t *testing.T) {
	lines := []string{"project\n", "source a x\n", "source b \n", "source ab '1'\n", "rule a '1'\n", "rule b @'a'\n", "rule c ''\n", "rule c 'x'\n", "rule c\n", "source c\n", "\n", " ", "project", "source c ", "rule d ()"}
	accepted := 0
	for _, first := range []string{"project\n", "project", "project \n", " project\n", "\n", ""} {
		accepted += countAccepted(t, textsOfLines(first, lines, 20000), checkParseProject)
	}
	if accepted < 30 {
		t.Errorf("ParseProject accepts only %d texts", accepted)
	}
}

// changedTexts returns texts that differ from s by one byte, or by some of their lines.
func changedTexts(s string) []string {
	variants := changedBytes(s, "ax 'A@(\n\x7f\u00e9")
	lines := strings.SplitAfter(s, "\n")
	for i := range lines {
		for j := range lines {
			swapped := slices.Clone(lines)
			swapped[i], swapped[j] = swapped[j], swapped[i]
			variants = append(variants, strings.Join(swapped, ""), strings.Join(slices.Insert(slices.Clone(lines), i, lines[j]), ""), strings.Join(slices.Delete(slices.Clone(lines), min(i, j), max(i, j)), ""))
		}
	}
	return variants
}

// countParsed calls check for all changed texts of some texts, and fails if it is true, or false, for hardly any of them.
func countParsed(t *testing.T, texts []string, check func(t *testing.T, s string) bool) {
	t.Helper()
	var list []string
	for _, s := range texts {
		list = append(list, changedTexts(s)...)
	}
	accepted := countAccepted(t, list, check)
	if refused := len(list) - accepted; accepted < 1000 || refused < 1000 {
		t.Errorf("%d changed texts are accepted, and %d are refused", accepted, refused)
	}
}

func TestParseProjectChangedTexts(t *testing.T) {
	list := []string{projectText(fullProject()), projectText(impl.Project{})}
	for i, p := range smallProjects() {
		if i%40 == 0 {
			list = append(list, projectText(p))
		}
	}
	countParsed(t, list, checkParseProject)
}

func TestParseProjectInvalid(t *testing.T) {
	full := projectText(fullProject())
	for _, s := range []string{
		"", "\n", "project", "project ", "project \n", "Project\n", "projec\n", "projects\n", " project\n", "project\r\n", "project\n\n", "\nproject\n", "project\nproject\n",
		"project\nsource\n", "project\nsource \n", "project\nsource a\n", "project\nsource  x\n", "project\nsource  a x\n", "project\n source a x\n", "project\nsource a x", "project\nsource A x\n", "project\nsource a\tx\n", "project\nsource a x\r\n", "project\nsource a \u00e9\n", "project\nsource abcdefghi x\n", "project\nsource a " + strings.Repeat("x", 61) + "\n",
		"project\nrule\n", "project\nrule a\n", "project\nrule a \n", "project\nrule a b\n", "project\nrule a 'b\n", "project\nrule a  'b'\n", "project\nrule a 'b' \n", "project\nrule  a 'b'\n", "project\nrule a 'b'", "project\nrule A 'b'\n", "project\nrule a 'b'\r\n", "project\nrule abcdefghi 'b'\n", "project\nrule a <<<<<<'b'\n", "project\nrule a 'b\nc'\n",
		"project\nrule b '1'\nsource a x\n", "project\nsource a x\nrule b '1'\nsource c x\n", "project\nsource a x\nrule a '1'\n", "project\nsource b x\nsource a x\n", "project\nrule b ''\nrule a ''\n", "project\nsource a x\nsource a x\n", "project\nsource a x\nsource a y\n", "project\nrule a ''\nrule a ''\n", "project\nrule a ''\nrule a '1'\n",
		"source a x\n", "rule a ''\n", "source a x\nproject\n", "rule a ''\nproject\n", "project\nfile a x\n", "project\nSource a x\n", "project\nRULE a ''\n", "project\ntarget a ''\n", "project\na x\n", "project\nnosource a\n", "project\nnorule a\n", "project\nend\n",
		full + "rule z ''\n", strings.Replace(full, "rule aa", "source z \nrule aa", 1), full + "\n", full + full, full[:len(full)-1], full[1:],
	} {
		if checkParseProject(t, s) {
			t.Errorf("ParseProject accepts %q", s)
		}
	}
}

func TestParseProjectLongTexts(t *testing.T) {
	const n = 1000000
	for _, s := range []string{"project\n", "source a x\n", "rule a ''\n", "\n", " ", "source ", "rule ", "source a", "rule a (", "rule a '", "x", "\x00"} {
		for _, first := range []string{"project\n", "project\nsource a ", "project\nrule a ", ""} {
			if p, ok := impl.ParseProject(first + strings.Repeat(s, n)); ok || !isZero(p) {
				t.Errorf("ParseProject accepts a text with %d times %q", n, s)
			}
		}
	}
}

func TestProjectPaths(t *testing.T) {
	if got := impl.ProjectPaths(impl.Project{}); len(got) != 0 {
		t.Errorf("ProjectPaths of the empty project = %q", got)
	}
	if got := strings.Join(impl.ProjectPaths(fullProject()), " "); got != "a aa ab ac ad ae af ag ah ai aj b c d e f g h i j k l" {
		t.Errorf("ProjectPaths of a full project = %s", got)
	}
	p := impl.Project{Sources: []impl.File{file("b", ""), file("z", "")}, Rules: []impl.Rule{rule("a", "''"), rule("bb", "@'missing'"), rule("y", "''")}}
	if got := strings.Join(impl.ProjectPaths(p), " "); got != "a b bb y z" {
		t.Errorf("ProjectPaths = %s", got)
	}
}

// spoilProject overwrites a project, with its unused capacity.
func spoilProject(p impl.Project) {
	spoil(p.Sources)
	for i := range p.Rules {
		spoilExpr(p.Rules[i].Body)
	}
	spoilUnusedRules(p.Rules[:0])
}

// spoilUnusedRules overwrites the rules beyond the length of a list.
func spoilUnusedRules(list []impl.Rule) {
	for i := len(list); i < cap(list); i++ {
		list[:cap(list)][i] = impl.Rule{Target: "spoilt", Body: text("spoilt")}
	}
}

// projectResults returns the results of all functions that return a project, most of which keep nearly all of p.
func projectResults(p impl.Project) map[string]impl.Project {
	list := map[string]impl.Project{}
	keep := func(what string, got impl.Project, ok bool) {
		if ok {
			list[what] = got
		}
	}
	for _, path := range []string{"b", "c", "k", "z"} {
		got, ok := impl.SetSource(p, file(path, "new"))
		keep("SetSource of "+path, got, ok)
		got, ok = impl.RemoveSource(p, path)
		keep("RemoveSource of "+path, got, ok)
	}
	shared := join20()
	for _, target := range []string{"aa", "ad", "zz"} {
		got, ok := impl.SetRule(p, impl.Rule{Target: target, Body: shared})
		keep("SetRule of "+target, got, ok)
		got, ok = impl.RemoveRule(p, target)
		keep("RemoveRule of "+target, got, ok)
	}
	got, ok := impl.ParseProject(projectText(p))
	keep("ParseProject", got, ok)
	return list
}

// sharingProject has four rules, whose bodies share their operands, and which are a part of a longer list, like its sources.
func sharingProject() impl.Project {
	rules := manyRules(8)
	for i := range rules {
		rules[i].Body = join20()
		rules[i].Body.Kids[3] = rules[0].Body.Kids[3]
	}
	rules[1].Body = rules[0].Body
	return impl.Project{Sources: manyFiles(9)[:4], Rules: rules[:4]}
}

// wholeText writes a project with the elements beyond the lengths of its lists.
func wholeText(p impl.Project) string {
	return projectText(impl.Project{Sources: p.Sources[:cap(p.Sources)], Rules: p.Rules[:cap(p.Rules)]})
}

func TestProjectsLeaveArgumentsAlone(t *testing.T) {
	p := sharingProject()
	before := wholeText(p)
	body := join20()
	impl.ProjectValid(p)
	impl.ProjectSame(p, sharingProject())
	impl.FormatProject(p)
	impl.ProjectPaths(p)
	impl.SetRule(p, impl.Rule{Target: "ab", Body: body})
	if !sameExpr(body, join20()) || wholeText(p) != before {
		t.Fatal("a function modifies its argument")
	}
	checkProjectLeftAlone(t, p, projectResults)
	for _, r := range p.Rules {
		found, _ := impl.FindRule(p, r.Target)
		spoilExpr(found)
		if wholeText(p) != before {
			t.Fatal("the result of FindRule shares memory with its argument")
		}
	}
	set, ok := impl.SetRule(p, impl.Rule{Target: "ab", Body: body})
	spoilProject(set)
	if !ok || !sameExpr(body, join20()) {
		t.Error("the result of SetRule shares memory with the body of its argument")
	}
}

// checkProjectLeftAlone checks that the functions that return the results neither modify p nor share its memory.
func checkProjectLeftAlone(t *testing.T, p impl.Project, results func(p impl.Project) map[string]impl.Project) {
	t.Helper()
	before := wholeText(p)
	for what, got := range results(p) {
		if wholeText(p) != before {
			t.Fatalf("a function modifies its argument: %q", wholeText(p))
		}
		spoilProject(got)
		if wholeText(p) != before {
			t.Fatalf("the result of %s shares memory with its argument: %q", what, wholeText(p))
		}
	}
}

func TestProjectResultsShareNoMemory(t *testing.T) {
	p := sharingProject()
	if results := projectResults(p); len(results) != 12 {
		t.Errorf("%d functions return a project", len(results))
	}
	checkProjectsApart(t, p, projectResults)
}

// checkProjectsApart checks that neither two results nor two lists of one result share memory.
func checkProjectsApart(t *testing.T, p impl.Project, projects func(p impl.Project) map[string]impl.Project) {
	t.Helper()
	others := projects(p)
	texts := map[string]string{}
	for what, other := range others {
		texts[what] = projectText(other)
	}
	for what, got := range projects(p) {
		spoil(got.Sources[len(got.Sources):])
		spoilUnusedRules(got.Rules)
		for _, r := range got.Rules {
			spoilUnused(r.Body)
		}
		if projectText(got) != texts[what] {
			t.Fatalf("two lists of the result of %s share memory: %q", what, projectText(got))
		}
		for i := range got.Rules {
			rest := impl.Project{Sources: got.Sources, Rules: got.Rules[i+1:]}
			want := projectText(rest)
			checkOperandsApart(t, what, got.Rules[i].Body)
			spoilExpr(got.Rules[i].Body)
			if projectText(rest) != want {
				t.Errorf("two rules of the result of %s share memory: %q", what, projectText(rest))
			}
		}
		spoilProject(got)
	}
	for what, other := range others {
		if projectText(other) != texts[what] {
			t.Errorf("two results share memory, one of them of %s", what)
		}
	}
}

// checkOperandsApart checks that the operands of e share no memory, and overwrites all but the last one.
func checkOperandsApart(t *testing.T, what string, e impl.Expr) {
	t.Helper()
	for i := range e.Kids {
		rest := node(impl.ExprJoin, e.Kids[i+1:]...)
		want := textOf(rest)
		spoilExpr(e.Kids[i])
		if textOf(rest) != want {
			t.Errorf("two operands of a body in the result of %s share memory", what)
		}
	}
}

func TestFoundRulesShareNoMemory(t *testing.T) {
	p := sharingProject()
	one, _ := impl.FindRule(p, "aa")
	two, _ := impl.FindRule(p, "aa")
	other, _ := impl.FindRule(p, "ab")
	checkOperandsApart(t, "FindRule", one)
	spoilExpr(one)
	if !sameExpr(two, join20()) || !sameExpr(other, join20()) {
		t.Error("two results of FindRule share memory")
	}
	paths, again := impl.ProjectPaths(p), impl.ProjectPaths(p)
	for i := range paths[:cap(paths)] {
		paths[:cap(paths)][i] = "spoilt"
	}
	if strings.Join(again, " ") != "a aa ab ac ad b c d" {
		t.Errorf("two results of ProjectPaths share memory: %q", again)
	}
}
