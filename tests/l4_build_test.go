package tests

import (
	"fmt"
	"maps"
	"math/rand"
	"slices"
	"strings"
	"testing"

	"loop.example/buildengine/impl"
)

// project is short for the project with these lines, which must be in order.
func project(lines ...string) impl.Project {
	s := "project\n" + strings.Join(lines, "\n") + "\n"
	p, ok := impl.ParseProject(s)
	if !ok {
		panic("no project: " + s)
	}
	return p
}

// codeNames has the names of the codes by which the tests call the results.
var codeNames = []string{"invalid", "fine", "missing", "cycle", "large"}

// resultText writes a result: a text after its code, if this is BuildFine.
func resultText(code int, text string) string {
	if code == impl.BuildFine {
		return "fine " + text
	}
	if code < 0 || code >= len(codeNames) || text != "" {
		return fmt.Sprintf("code %d with the text %q", code, text)
	}
	return codeNames[code]
}

func buildText(p impl.Project, path string) string {
	return resultText(impl.BuildPath(p, path))
}

// listText writes a list, of which the elements may be any strings, or says that there is none.
func listText(list []string, ok bool) string {
	if !ok && len(list) == 0 {
		return "none"
	}
	return fmt.Sprintf("%q %v", list, ok)
}

// paths writes what listText writes for a list of paths.
func paths(words string) string {
	return listText(strings.Fields(words), true)
}

func TestBuildCodes(t *testing.T) {
	if impl.BuildInvalid != 0 || impl.BuildFine != 1 || impl.BuildMissing != 2 || impl.BuildCycle != 3 || impl.BuildLarge != 4 {
		t.Error("a code of a result has another value than in the document")
	}
}

// unknown says that the model does not know a result yet.
const unknown = -1

// outcome is a result in the model.
type outcome struct {
	code int
	text string
}

// evaluateModel evaluates a valid expression with the results that look returns for the paths that it reads.
func evaluateModel(e impl.Expr, look func(path string) outcome) outcome {
	kids := e.Kids
	if e.Kind == impl.ExprSame {
		kids = e.Kids[:2]
	}
	var operands []string
	for _, kid := range kids {
		o := evaluateModel(kid, look)
		if o.code != impl.BuildFine {
			return o
		}
		operands = append(operands, o.text)
	}
	switch {
	case e.Kind == impl.ExprRead:
		return look(operands[0])
	case e.Kind == impl.ExprSame && operands[0] == operands[1]:
		return evaluateModel(e.Kids[2], look)
	case e.Kind == impl.ExprSame:
		return evaluateModel(e.Kids[3], look)
	}
	plain := impl.Expr{Kind: e.Kind, Text: e.Text}
	for _, operand := range operands {
		plain.Kids = append(plain.Kids, text(operand))
	}
	if result, ok := freeModel(plain); ok {
		return outcome{impl.BuildFine, result}
	}
	return outcome{code: impl.BuildLarge}
}

// buildModel has the results of all paths of a project, and the direct reads of its targets.
type buildModel struct {
	results map[string]outcome
	reads   map[string][]string
}

func (m buildModel) of(path string) outcome {
	if o, found := m.results[path]; found {
		return o
	}
	return outcome{code: impl.BuildMissing}
}

// newBuildModel evaluates bodies again and again until nothing more becomes known: what is left then depends on itself.
func newBuildModel(p impl.Project) buildModel {
	m := buildModel{map[string]outcome{}, map[string][]string{}}
	for _, f := range p.Sources {
		m.results[f.Path] = outcome{impl.BuildFine, f.Text}
	}
	for _, r := range p.Rules {
		m.results[r.Target] = outcome{code: unknown}
	}
	for range p.Rules {
		for _, r := range p.Rules {
			m.results[r.Target] = evaluateModel(r.Body, m.of)
		}
	}
	for _, r := range p.Rules {
		if m.results[r.Target].code == unknown {
			m.results[r.Target] = outcome{code: impl.BuildCycle}
		}
	}
	for _, r := range p.Rules {
		m.reads[r.Target] = nil
		evaluateModel(r.Body, func(path string) outcome {
			if !slices.Contains(m.reads[r.Target], path) {
				m.reads[r.Target] = append(m.reads[r.Target], path)
			}
			return m.of(path)
		})
	}
	return m
}

// order returns the targets before, and the others that a path with a text needs, each after those that it reads.
func (m buildModel) order(path string, before []string) []string {
	reads, isTarget := m.reads[path]
	if !isTarget || slices.Contains(before, path) {
		return before
	}
	for _, read := range reads {
		before = m.order(read, before)
	}
	return append(before, path)
}

// checkBuilds compares the results of all functions for a project with those of the model, and returns the model.
func checkBuilds(t *testing.T, p impl.Project) buildModel {
	t.Helper()
	m := newBuildModel(p)
	var all, files string
	for _, path := range slices.Sorted(maps.Keys(m.results)) {
		if o := m.results[path]; o.code == impl.BuildFine {
			files += path + " " + o.text + "\n"
		}
	}
	for _, r := range p.Rules {
		all += r.Target + " " + resultText(m.of(r.Target).code, m.of(r.Target).text) + "\n"
	}
	if got := allText(impl.BuildAll(p)); got != all {
		t.Errorf("BuildAll = %q, not %q, in %q", got, all, projectText(p))
	}
	if got := filesText(impl.ResultFiles(p)); got != files {
		t.Errorf("ResultFiles = %q, not %q, in %q", got, files, projectText(p))
	}
	for _, path := range append(slices.Sorted(maps.Keys(m.results)), "none", "") {
		checkPath(t, p, m, path)
	}
	return m
}

func allText(list []impl.Built) string {
	s := ""
	for _, b := range list {
		s += b.Path + " " + resultText(b.Code, b.Text) + "\n"
	}
	return s
}

func filesText(list []impl.File) string {
	s := ""
	for _, f := range list {
		s += f.Path + " " + f.Text + "\n"
	}
	return s
}

func checkPath(t *testing.T, p impl.Project, m buildModel, path string) {
	t.Helper()
	compare := func(what, got, want string) {
		t.Helper()
		if got != want {
			t.Errorf("%s of %q = %s, not %s, in %q", what, path, got, want, projectText(p))
		}
	}
	result := m.of(path)
	compare("BuildPath", buildText(p, path), resultText(result.code, result.text))
	reads, isTarget := m.reads[path]
	compare("DirectReads", listText(impl.DirectReads(p, path)), listText(reads, isTarget))
	var all, order []string
	fine := result.code == impl.BuildFine
	if fine {
		order = m.order(path, nil)
		for _, target := range order {
			all = append(all, m.reads[target]...)
		}
		slices.Sort(all)
	}
	compare("AllReads", listText(impl.AllReads(p, path)), listText(slices.Compact(all), fine))
	compare("BuildOrder", listText(impl.BuildOrder(p, path)), listText(order, fine))
}

var x60 = strings.Repeat("x", 60)

// bodyProject has a body as the rule of the target t, next to targets with every code.
func bodyProject(body string) impl.Project {
	return project("source a bb", "source e ", "source k t", "source long "+x60, "source m 1", "source n m", "source r r",
		"rule back @'t'", "rule big (@'long''y')", "rule lost @'none'", "rule one '1'", "rule self @'self'", "rule t "+body, "rule two (@'one'@'m'@'one')")
}

func TestBuildPathOfBodies(t *testing.T) {
	for body, want := range map[string]string{
		"'a b'": "fine a b", "''": "fine ", "()": "fine ", "@'a'": "fine bb", "(@'a')": "fine bb", "@'e'": "fine ", "@'one'": "fine 1", "@'two'": "fine 111", "(@'a''-'@'two')": "fine bb-111",
		"<@'a'": "fine b", ">@'a'": "fine b", ">>>@'a'": "fine ", "<@'e'": "fine ", ">@'e'": "fine ", "#@'e'": "fine 0", "#@'a'": "fine 2", "#@'long'": "fine 60", "##@'long'": "fine 2",
		"@@'n'": "fine 1", "@(@'n')": "fine 1", "@<'mx'": "fine 1", "@>'xm'": "fine 1", "@('o''ne')": "fine 1", "@@@@'r'": "fine r",

		"@'none'": "missing", "@'lost'": "missing", "@@'a'": "missing", "@@'lost'": "missing", "@@'one'": "missing", "@''": "missing", "@()": "missing", "@@'e'": "missing", "@'1'": "missing", "@#'m'": "missing", "@'M'": "missing", "@'m '": "missing", "@' m'": "missing", "@'abcdefghi'": "missing", "@'~!'": "missing", "@@'long'": "missing",

		"@'t'": "cycle", "@'self'": "cycle", "@'back'": "cycle", "@@'k'": "cycle", "@('t')": "cycle", "('x'@'t')": "cycle", "#@'t'": "cycle", "<@'t'": "cycle", ">@'back'": "cycle", "@@'t'": "cycle", "[@'t'='a'?'b':'b']": "cycle", "['a'=@'t'?'b':'b']": "cycle",

		"(@'long')": "fine " + x60, "(@'long''')": "fine " + x60, "(''@'long'@'e')": "fine " + x60, "(>@'long''y')": "fine " + x60[1:] + "y", "(@'long''y')": "large", "('y'@'long')": "large", "(@'long'@'long'@'long'@'long')": "large", "((@'long')@'m')": "large", "@'big'": "large", "@@'big'": "large", "<(@'long''y')": "large", ">(@'long''y')": "large", "#(@'long''y')": "large", "@(@'long''y')": "large", "('a'#(@'long''y'))": "large", "[(@'long''y')='a'?'b':'c']": "large", "['a'=(@'long''y')?'b':'c']": "large",
	} {
		p := bodyProject(body)
		if got := buildText(p, "t"); got != want {
			t.Errorf("BuildPath of %s = %s, not %s", body, got, want)
		}
		checkBuilds(t, p)
	}
}

// The first code other than BuildFine, from left to right, is that of the expression, and a join is large only if all of its operands are fine.
func TestBuildPathOfTheFirstFault(t *testing.T) {
	for body, want := range map[string]string{
		"(@'none'@'t')": "missing", "(@'t'@'none')": "cycle", "(@'none'@'big')": "missing", "(@'big'@'none')": "large", "(@'t'@'big')": "cycle", "(@'big'@'t')": "large", "(@'a'@'lost'@'self'@'big')": "missing",
		"(@'long'@'long'@'none')": "missing", "(@'long''y'@'t')": "cycle", "(@'long''y'@'big')": "large", "((@'long''y')@'none')": "large", "(@'none'(@'long''y'))": "missing", "((@'long''y')@'t')": "large",
		"[@'none'=@'t'?'a':'b']": "missing", "[@'t'=@'none'?'a':'b']": "cycle", "[@'big'=@'t'?'a':'b']": "large", "[@'none'=@'none'?'a':'b']": "missing", "[@'none'='a'?@'t':@'t']": "missing", "['a'=@'none'?@'t':@'t']": "missing",
		"(@(@'none'@'t')@'big')": "missing", "@(@'t'@'none')": "cycle", "[(@'a'@'big')=@'none'?'a':'b']": "large",
	} {
		p := bodyProject(body)
		if got := buildText(p, "t"); got != want {
			t.Errorf("BuildPath of %s = %s, not %s", body, got, want)
		}
		checkBuilds(t, p)
	}
}

// Neither the result nor the reads depend on an operand of a comparison that is not needed.
func TestBuildPathOfComparisons(t *testing.T) {
	for _, bad := range []string{"@'none'", "@'lost'", "@''", "@'No path'", "@'t'", "@'self'", "@'back'", "@'big'", "(@'long''y')", "#@@'t'"} {
		for body, reads := range map[string]string{
			"[@'m'='1'?@'one':" + bad + "]":                 "m one",
			"[@'m'='2'?" + bad + ":@'one']":                 "m one",
			"[@'m'=@'one'?'1':" + bad + "]":                 "m one",
			"['x'=''?" + bad + ":@'m']":                     "m",
			"['a'='a'?['a'='b'?" + bad + ":'1']:'q']":       "",
			"['a'='a'?@['a'='a'?'m':'none']:(" + bad + ")]": "m",
		} {
			p := bodyProject(body)
			if got := buildText(p, "t"); got != "fine 1" {
				t.Errorf("BuildPath of %s = %s", body, got)
			}
			if got := listText(impl.DirectReads(p, "t")); got != paths(reads) {
				t.Errorf("DirectReads of %s = %s", body, got)
			}
			if got := listText(impl.AllReads(p, "t")); got != paths(reads) {
				t.Errorf("AllReads of %s = %s", body, got)
			}
			checkBuilds(t, p)
		}
		p := bodyProject("[@'m'='1'?" + bad + ":'1']")
		if got := buildText(p, "t"); strings.HasPrefix(got, "fine") {
			t.Errorf("BuildPath does not need the operand %s: %s", bad, got)
		}
		checkBuilds(t, p)
	}
}

func TestBuildsOfTheDocument(t *testing.T) {
	p := project("source a bb", "rule b @<@'a'", "rule c @'d'")
	if got := allText(impl.BuildAll(p)); got != "b cycle\nc missing\n" {
		t.Errorf("BuildAll = %q", got)
	}
	if got := listText(impl.DirectReads(p, "b")); got != paths("a b") {
		t.Errorf("DirectReads of b = %s", got)
	}
	if got := listText(impl.DirectReads(p, "c")); got != paths("d") {
		t.Errorf("DirectReads of c = %s", got)
	}
	if got := filesText(impl.ResultFiles(p)); got != "a bb\n" {
		t.Errorf("ResultFiles = %q", got)
	}
	checkBuilds(t, p)
	for mode, want := range map[string]string{"fast": "mode x", "slow": "mode x y"} {
		p := project("source mode "+mode, "source x 1", "source y 2", "rule d [@'mode'='fast'?@'x':(@'x'@'y')]")
		if got := listText(impl.DirectReads(p, "d")); got != paths(want) {
			t.Errorf("DirectReads with the mode %s = %s", mode, got)
		}
		checkBuilds(t, p)
	}
	if got := buildText(project("source a x", "rule b (@'a'@'a')"), "b"); got != "fine xx" {
		t.Errorf("BuildPath = %s", got)
	}
}

func TestDirectReads(t *testing.T) {
	for body, want := range map[string][]string{
		"'a'": {}, "()": {}, "@'a'": {"a"}, "(@'m'@'a'@'m'@'a')": {"m", "a"}, "(@'e'(@'a'@'m')@'e')": {"e", "a", "m"},
		"@@'n'": {"n", "m"}, "(@'m'@@'n')": {"m", "n"}, "@@@@'r'": {"r"}, "(@@'r'@'a')": {"r", "a"}, "[@'m'=@'a'?@'e':@'n']": {"m", "a", "n"},
		// The target two reads one and m too, but what it reads first is not what t reads first.
		"@'two'": {"two"}, "(@'two'@'m'@'one')": {"two", "m", "one"}, "(@'m'@'two'@'one')": {"m", "two", "one"},
		// What has no text is read as well, and nothing is read after it.
		"@'none'": {"none"}, "(@'a'@'none'@'m')": {"a", "none"}, "(@'a'@'t'@'m')": {"a", "t"}, "(@'a'@'back'@'m')": {"a", "back"}, "(@'lost'@'m')": {"lost"}, "(@'big'@'m')": {"big"}, "(@'self'@'m')": {"self"}, "@@'none'": {"none"}, "[@'none'=@'a'?@'m':@'e']": {"none"}, "(@'a'(@'long''y')@'m')": {"a", "long"},
		// So is what is not a path.
		"@''": {""}, "(@'a'@'No path'@'m')": {"a", "No path"}, "@@'e'": {"e", ""}, "@@'m'": {"m", "1"}, "@#@'a'": {"a", "2"}, "@@'long'": {"long", x60},
	} {
		p := bodyProject(body)
		if got, ok := impl.DirectReads(p, "t"); !ok || !slices.Equal(got, want) {
			t.Errorf("DirectReads of %s = %q, %v", body, got, ok)
		}
		checkBuilds(t, p)
	}
}

// Projects in which the target t reads itself through others, or does not.
func TestCycles(t *testing.T) {
	for _, c := range []struct {
		lines string
		want  string
	}{
		{"rule t @'t'", "cycle"},
		{"rule s @'t'|rule t @'s'", "cycle"},
		{"rule a @'b'|rule b @'c'|rule c @'d'|rule d @'e'|rule e @'f'|rule f @'g'|rule g @'h'|rule h @'i'|rule i @'t'|rule t @'a'", "cycle"},
		{"rule a @'b'|rule b @'c'|rule c @'d'|rule d @'e'|rule e @'f'|rule f @'g'|rule g @'h'|rule h @'i'|rule i 'x'|rule t @'a'", "fine x"},
		{"rule r @'s'|rule s @'r'|rule t @'r'", "cycle"},
		{"rule r '1'|rule s (@'r'@'r')|rule t (@'r'@'s'@'r')", "fine 1111"},
		{"source m 1|rule s [@'m'='1'?'x':@'t']|rule t @'s'", "fine x"},
		{"source m 2|rule s [@'m'='1'?'x':@'t']|rule t @'s'", "cycle"},
		{"source m s|rule s @'m'|rule t @@'m'", "fine s"},
		{"source m t|rule s @'m'|rule t @@'s'", "cycle"},
		{"rule r @'t'|rule s 'x'|rule t @'s'", "fine x"},
		{"rule r (@'none'@'t')|rule s (@'t'@'none')|rule t (@'r'@'s')", "missing"},
		{"rule r (@'none'@'t')|rule s (@'t'@'none')|rule t (@'s'@'r')", "cycle"},
	} {
		p := project(strings.Split(c.lines, "|")...)
		if got := buildText(p, "t"); got != c.want {
			t.Errorf("BuildPath of t = %s, not %s, in %q", got, c.want, c.lines)
		}
		checkBuilds(t, p)
	}
}

func TestBuildOrderAndAllReads(t *testing.T) {
	p := project("source a 1", "source z b", "rule b (@'d'@'c'@'d')", "rule c (@'e'@'a')", "rule d @'c'", "rule e 'x'", "rule f (@@'z'@'e')", "rule g ['x'=@'e'?@'a':@'f']", "rule h @'i'", "rule i @'h'", "rule y (@'b'@'h')")
	for path, want := range map[string][2]string{
		"a": {"", ""}, "z": {"", ""}, "e": {"e", ""}, "c": {"e c", "a e"}, "d": {"e c d", "a c e"}, "b": {"e c d b", "a c d e"},
		"f": {"e c d b f", "a b c d e z"}, "g": {"e g", "a e"},
	} {
		if got := listText(impl.BuildOrder(p, path)); got != paths(want[0]) {
			t.Errorf("BuildOrder of %s = %s", path, got)
		}
		if got := listText(impl.AllReads(p, path)); got != paths(want[1]) {
			t.Errorf("AllReads of %s = %s", path, got)
		}
	}
	for _, path := range []string{"h", "i", "y", "none", "", "A", "b "} {
		if got := listText(impl.BuildOrder(p, path)); got != "none" {
			t.Errorf("BuildOrder of %q = %s", path, got)
		}
		if got := listText(impl.AllReads(p, path)); got != "none" {
			t.Errorf("AllReads of %q = %s", path, got)
		}
	}
	checkBuilds(t, p)
}

// If a target were built whenever it is read, these builds would take longer than anyone waits.
func TestTargetsAreBuiltAtMostOnce(t *testing.T) {
	lines := []string{"source a b"}
	for target := 'b'; target <= 'k'; target++ {
		four := strings.Repeat("@'"+string(target-1)+"'", 4)
		lines = append(lines, fmt.Sprintf("rule %c <((%s)(%s))", target, four, four))
	}
	p := project(lines...)
	if got := buildText(p, "k"); got != "fine b" {
		t.Errorf("BuildPath = %s", got)
	}
	if got := listText(impl.BuildOrder(p, "k")); got != paths("b c d e f g h i j k") {
		t.Errorf("BuildOrder = %s", got)
	}
	if got := listText(impl.AllReads(p, "k")); got != paths("a b c d e f g h i j") {
		t.Errorf("AllReads = %s", got)
	}
	checkBuilds(t, p)
}

func TestBuildsAtTheLimits(t *testing.T) {
	p := fullProject()
	if got := impl.BuildAll(p); len(got) != impl.MaxRules {
		t.Errorf("BuildAll returns %d results", len(got))
	}
	if got := impl.ResultFiles(p); len(got) != impl.MaxFiles+impl.MaxRules {
		t.Errorf("ResultFiles returns %d files", len(got))
	}
	checkBuilds(t, p)
	checkBuilds(t, impl.Project{})
	checkBuilds(t, impl.Project{Sources: manyFiles(impl.MaxFiles)})
	for i, p := range smallProjects() {
		if i%3 == 0 {
			checkBuilds(t, p)
		}
	}
}

func TestBuildsOfSourcesAndOfNoPaths(t *testing.T) {
	for _, p := range []impl.Project{{}, fullProject(), bodyProject("@'a'")} {
		for _, f := range p.Sources {
			if got := buildText(p, f.Path); got != "fine "+f.Text {
				t.Errorf("BuildPath of the source %s = %s", f.Path, got)
			}
			if got := listText(impl.DirectReads(p, f.Path)); got != "none" {
				t.Errorf("DirectReads of the source %s = %s", f.Path, got)
			}
		}
		for _, path := range append([]string{"none", "zz", "t ", x60}, invalidTargets...) {
			if got := buildText(p, path); got != "missing" {
				t.Errorf("BuildPath(%q) = %s", path, got)
			}
			checkPath(t, p, newBuildModel(p), path)
		}
	}
}

func TestBuildsOfInvalidProjects(t *testing.T) {
	for what, p := range invalidProjects() {
		list := []string{"", "a", "b", "c", "d", "aa", "zzz", "none"}
		for _, f := range p.Sources[:min(3, len(p.Sources))] {
			list = append(list, f.Path)
		}
		for _, r := range p.Rules[:min(3, len(p.Rules))] {
			list = append(list, r.Target)
		}
		for _, path := range list {
			if got := buildText(p, path); got != "invalid" {
				t.Errorf("BuildPath(%q) in a project with this fault: %s = %s", path, what, got)
			}
			for name, f := range map[string]func(impl.Project, string) ([]string, bool){"DirectReads": impl.DirectReads, "AllReads": impl.AllReads, "BuildOrder": impl.BuildOrder} {
				if got := listText(f(p, path)); got != "none" {
					t.Errorf("%s(%q) in a project with this fault: %s = %s", name, path, what, got)
				}
			}
		}
		if got := impl.BuildAll(p); len(got) != 0 {
			t.Errorf("BuildAll of a project with this fault: %s = %v", what, got)
		}
		if got := impl.ResultFiles(p); len(got) != 0 {
			t.Errorf("ResultFiles of a project with this fault: %s = %v", what, got)
		}
	}
}

// randomPath returns one of the paths that the random projects may have, or rarely another text.
func randomPath(r *rand.Rand) string {
	if r.Intn(12) == 0 {
		return []string{"", "none", "B", "a b"}[r.Intn(4)]
	}
	return string(rune('a' + r.Intn(12)))
}

// randomBody returns an expression of at most this depth that reads files, mostly by their names.
func randomBody(r *rand.Rand, depth int) impl.Expr {
	kind := impl.ExprText + r.Intn(7)
	operands := 1
	switch {
	case depth == 1 || kind == impl.ExprText:
		return text(randomPath(r))
	case depth == 2 || r.Intn(2) == 0:
		return read(randomPath(r))
	case kind == impl.ExprJoin:
		operands = r.Intn(impl.MaxJoin + 1)
	case kind == impl.ExprSame:
		operands = 4
	}
	e := node(kind)
	for range operands {
		e.Kids = append(e.Kids, randomBody(r, depth-1))
	}
	return e
}

// randomProject returns a project whose rules read its paths, mostly.
func randomProject(r *rand.Rand) impl.Project {
	var p impl.Project
	targets := 1 + r.Intn(10)
	for path := 'a'; path <= 'l'; path++ {
		if int('l'-path) >= targets {
			p.Sources = append(p.Sources, file(string(path), []string{randomPath(r), strings.Repeat("a", 29+r.Intn(32))}[r.Intn(2)]))
			continue
		}
		body := randomBody(r, 1+r.Intn(6))
		for nodes, _ := size(body); nodes > impl.MaxNodes; nodes, _ = size(body) {
			body = randomBody(r, 4)
		}
		p.Rules = append(p.Rules, impl.Rule{Target: string(path), Body: body})
	}
	return p
}

func TestBuildsAgainstModel(t *testing.T) {
	r := rand.New(rand.NewSource(4))
	found := map[int]int{}
	long := 0
	for range 6000 {
		p := randomProject(r)
		m := checkBuilds(t, p)
		for _, rule := range p.Rules {
			found[m.of(rule.Target).code]++
			if m.of(rule.Target).code == impl.BuildFine && len(m.order(rule.Target, nil)) > 2 {
				long++
			}
		}
		if t.Failed() {
			return
		}
	}
	for code := impl.BuildFine; code <= impl.BuildLarge; code++ {
		if found[code] < 100 {
			t.Errorf("only %d targets have the code %d", found[code], code)
		}
	}
	if long < 200 {
		t.Errorf("only %d targets are built from several others", long)
	}
}

// A target keeps its result in the project that has, as sources, nothing but what it reads.
func TestResultsAreThoseOfBodiesWithTheirReads(t *testing.T) {
	r := rand.New(rand.NewSource(44))
	checked := 0
	for range 3000 {
		p := randomProject(r)
		for _, built := range impl.BuildAll(p) {
			if built.Code != impl.BuildFine {
				continue
			}
			body, _ := impl.FindRule(p, built.Path)
			reads, _ := impl.DirectReads(p, built.Path)
			alone := impl.Project{Rules: []impl.Rule{{Target: built.Path, Body: body}}}
			for _, path := range slices.Sorted(slices.Values(reads)) {
				_, text := impl.BuildPath(p, path)
				alone.Sources = append(alone.Sources, file(path, text))
			}
			if got := buildText(alone, built.Path); got != "fine "+built.Text {
				t.Fatalf("with its reads alone, %s has the result %s, not %q: %q", built.Path, got, built.Text, projectText(p))
			}
			checked += len(reads)
		}
	}
	if checked < 2000 {
		t.Errorf("the targets have only %d reads", checked)
	}
}

// buildResults writes the results of all functions.
func buildResults(p impl.Project) string {
	s := allText(impl.BuildAll(p)) + filesText(impl.ResultFiles(p))
	for _, path := range append(impl.ProjectPaths(p), "none") {
		s += buildText(p, path) + listText(impl.DirectReads(p, path)) + listText(impl.AllReads(p, path)) + listText(impl.BuildOrder(p, path)) + "\n"
	}
	return s
}

// spoilStrings overwrites a list of strings, with its unused capacity.
func spoilStrings(list []string) {
	for i := range list[:cap(list)] {
		list[:cap(list)][i] = "spoilt"
	}
}

func TestBuildsShareNoMemory(t *testing.T) {
	r := rand.New(rand.NewSource(400))
	for range 200 {
		p := randomProject(r)
		p.Sources, p.Rules = append(p.Sources, manyFiles(3)...)[:len(p.Sources)], append(p.Rules, manyRules(3)...)[:len(p.Rules)]
		before, want := wholeText(p), buildResults(p)
		all, again := impl.BuildAll(p), impl.BuildAll(p)
		spoil(impl.ResultFiles(p))
		for i := range all[:cap(all)] {
			all[:cap(all)][i] = impl.Built{Path: "spoilt"}
		}
		for _, path := range impl.ProjectPaths(p) {
			for _, f := range []func(impl.Project, string) ([]string, bool){impl.DirectReads, impl.AllReads, impl.BuildOrder} {
				one, ok := f(p, path)
				two, _ := f(p, path)
				text := listText(two, ok)
				spoilStrings(one)
				if listText(two, ok) != text {
					t.Fatalf("two lists for the path %s share memory", path)
				}
			}
		}
		if wholeText(p) != before {
			t.Fatalf("a function modifies its argument: %q", wholeText(p))
		}
		if got := buildResults(p); got != want || !strings.HasPrefix(want, allText(again)) {
			t.Fatalf("the results are %q at first and then %q", want, got)
		}
	}
}
