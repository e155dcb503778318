package tests

import (
	"fmt"
	"math/rand"
	"slices"
	"strings"
	"testing"

	"loop.example/buildengine/impl"
)

// unfold returns lines in which each | stands for a newline, and a newline after them.
func unfold(lines string) string {
	if lines == "" {
		return ""
	}
	return strings.ReplaceAll(lines, "|", "\n") + "\n"
}

// projectOf is short for the valid project whose text has these lines after its first one, in which each | stands for a newline.
func projectOf(lines string) impl.Project {
	p, ok := impl.ParseProject("project\n" + unfold(lines))
	if !ok {
		panic("no project: " + lines)
	}
	return p
}

// storeOf is short for the valid store with this text, in which each | stands for a newline.
func storeOf(lines string) []impl.Entry {
	list, ok := impl.ParseStore(unfold(lines))
	if !ok {
		panic("no store: " + lines)
	}
	return list
}

// updateText writes what Update returns.
func updateText(code int, text string, store []impl.Entry, ran []string) string {
	return fmt.Sprintf("%s\nran %q\n%s", resultText(code, text), ran, storeText(store))
}

// updateAllText writes what UpdateAll returns.
func updateAllText(built []impl.Built, store []impl.Entry, ran []string) string {
	return fmt.Sprintf("%sran %q\n%s", allText(built), ran, storeText(store))
}

// engineModel is a build with a store, word by word as the document says. A target whose build has begun has the result BuildCycle until another one is known.
type engineModel struct {
	p       impl.Project
	entries map[string]impl.Entry
	results map[string]outcome
	ran     []string
	// reused has the targets that were not computed.
	reused []string
}

func newEngineModel(p impl.Project, store []impl.Entry) *engineModel {
	m := &engineModel{p: p, entries: modelOfStore(store), results: map[string]outcome{}}
	for _, f := range p.Sources {
		m.results[f.Path] = outcome{impl.BuildFine, f.Text}
	}
	return m
}

func (m *engineModel) build(path string) outcome {
	i := slices.IndexFunc(m.p.Rules, func(r impl.Rule) bool { return r.Target == path })
	if _, known := m.results[path]; !known && i >= 0 {
		m.results[path] = outcome{code: impl.BuildCycle}
		m.results[path] = m.buildTarget(m.p.Rules[i])
	} else if !known {
		return outcome{code: impl.BuildMissing}
	}
	return m.results[path]
}

func (m *engineModel) buildTarget(r impl.Rule) outcome {
	e, found := m.entries[r.Target]
	changed := func(f impl.File) bool { return m.build(f.Path) != outcome{impl.BuildFine, f.Text} }
	if found && e.Body == textOf(r.Body) && !slices.ContainsFunc(e.Reads, changed) {
		m.reused = append(m.reused, r.Target)
		return outcome{impl.BuildFine, e.Text}
	}
	var reads []impl.File
	o := evaluateModel(r.Body, func(path string) outcome {
		o := m.build(path)
		if _, again := impl.FindFile(reads, path); !again {
			reads = append(reads, file(path, o.text))
		}
		return o
	})
	m.ran = append(m.ran, r.Target)
	delete(m.entries, r.Target)
	if o.code == impl.BuildFine && len(reads) <= 12 && len(m.entries) < 20 {
		m.entries[r.Target] = entry(r.Target, textOf(r.Body), o.text, reads...)
	}
	return o
}

func (m *engineModel) store() []impl.Entry {
	var list []impl.Entry
	for _, e := range m.entries {
		list = append(list, e)
	}
	slices.SortFunc(list, func(a, b impl.Entry) int { return strings.Compare(a.Target, b.Target) })
	return list
}

// checkUpdate compares Update with the model, and returns the store and the model.
func checkUpdate(t *testing.T, p impl.Project, store []impl.Entry, path string) ([]impl.Entry, *engineModel) {
	t.Helper()
	m := newEngineModel(p, store)
	o := m.build(path)
	want := updateText(o.code, o.text, m.store(), m.ran)
	code, text, next, ran := impl.Update(p, store, path)
	if got := updateText(code, text, next, ran); got != want || !impl.StoreValid(next) {
		t.Fatalf("Update of %q = %s, not %s, in %q with the store %q", path, got, want, projectText(p), storeText(store))
	}
	return next, m
}

// checkUpdateAll compares UpdateAll with the model, and returns the store and the model.
func checkUpdateAll(t *testing.T, p impl.Project, store []impl.Entry) ([]impl.Entry, *engineModel) {
	t.Helper()
	m := newEngineModel(p, store)
	var built []impl.Built
	for _, r := range p.Rules {
		o := m.build(r.Target)
		built = append(built, impl.Built{Path: r.Target, Code: o.code, Text: o.text})
	}
	want := updateAllText(built, m.store(), m.ran)
	all, next, ran := impl.UpdateAll(p, store)
	if got := updateAllText(all, next, ran); got != want || !impl.StoreValid(next) {
		t.Fatalf("UpdateAll = %s, not %s, in %q with the store %q", got, want, projectText(p), storeText(store))
	}
	return next, m
}

// currentModel decides whether a valid entry can be reused in a project whose results are those of m.
func currentModel(p impl.Project, m buildModel, e impl.Entry) bool {
	hasRule := slices.ContainsFunc(p.Rules, func(r impl.Rule) bool { return r.Target == e.Target && textOf(r.Body) == e.Body })
	return hasRule && !slices.ContainsFunc(e.Reads, func(f impl.File) bool { return m.of(f.Path) != outcome{impl.BuildFine, f.Text} })
}

// checkCurrent compares EntryCurrent, StaleTargets and PruneStore with the model, and returns the targets that are not stale.
func checkCurrent(t *testing.T, p impl.Project, store []impl.Entry) map[string]bool {
	t.Helper()
	m := newBuildModel(p)
	var kept []impl.Entry
	current := map[string]bool{}
	for _, e := range store {
		want := currentModel(p, m, e)
		if got := impl.EntryCurrent(p, e); got != want {
			t.Fatalf("EntryCurrent of %q = %v in %q", e, got, projectText(p))
		}
		if want {
			kept = append(kept, e)
			current[e.Target] = true
		}
	}
	var stale []string
	for _, r := range p.Rules {
		if !current[r.Target] {
			stale = append(stale, r.Target)
		}
	}
	if got := impl.StaleTargets(p, store); !slices.Equal(got, stale) {
		t.Fatalf("StaleTargets = %q, not %q, in %q with the store %q", got, stale, projectText(p), storeText(store))
	}
	if got, ok := impl.PruneStore(p, store); !ok || !sameStore(got, kept) {
		t.Fatalf("PruneStore = %q, %v, not %q, in %q with the store %q", storeText(got), ok, storeText(kept), projectText(p), storeText(store))
	}
	return current
}

// allOrder returns the targets before, and the others that the build of a path needs, each after those that it reads, whether or not they have a text.
func (m buildModel) allOrder(path string, before []string, met map[string]bool) []string {
	reads, isTarget := m.reads[path]
	if !isTarget || met[path] {
		return before
	}
	met[path] = true
	for _, read := range reads {
		before = m.allOrder(read, before, met)
	}
	return append(before, path)
}

// checkHonest checks what the document promises of an update of the paths in a single build, which computes the targets ran of an honest store and leaves the store next.
func checkHonest(t *testing.T, p impl.Project, store []impl.Entry, paths []string, ran []string, next []impl.Entry) {
	t.Helper()
	m, met := newBuildModel(p), map[string]bool{}
	current := checkCurrent(t, p, store)
	var order, want []string
	for _, path := range paths {
		order = m.allOrder(path, order, met)
	}
	for _, target := range order {
		if !current[target] {
			want = append(want, target)
		}
	}
	if !slices.Equal(ran, want) {
		t.Fatalf("the update of %q computes %q, not %q, in %q with the store %q", paths, ran, want, projectText(p), storeText(store))
	}
	for _, e := range next {
		if !honestModel(e) {
			t.Fatalf("the update of %q in %q leaves the entry %q, which is not honest", paths, projectText(p), e)
		}
	}
	if !impl.StoreHonest(next) {
		t.Fatalf("StoreHonest is false after the update of %q in %q: %q", paths, projectText(p), storeText(next))
	}
}

// checkHonestUpdate checks Update with an honest store, and returns the store.
func checkHonestUpdate(t *testing.T, p impl.Project, store []impl.Entry, path string) ([]impl.Entry, *engineModel) {
	t.Helper()
	next, m := checkUpdate(t, p, store, path)
	code, text, _, _ := impl.Update(p, store, path)
	if got, want := resultText(code, text), buildText(p, path); got != want {
		t.Fatalf("Update of %q has the result %s, but BuildPath %s, in %q with the store %q", path, got, want, projectText(p), storeText(store))
	}
	checkHonest(t, p, store, []string{path}, m.ran, next)
	return next, m
}

// checkHonestUpdateAll checks UpdateAll with an honest store, and returns the store.
func checkHonestUpdateAll(t *testing.T, p impl.Project, store []impl.Entry) ([]impl.Entry, *engineModel) {
	t.Helper()
	next, m := checkUpdateAll(t, p, store)
	built, _, _ := impl.UpdateAll(p, store)
	if got, want := allText(built), allText(impl.BuildAll(p)); got != want {
		t.Fatalf("UpdateAll has the results %s, but BuildAll %s, in %q with the store %q", got, want, projectText(p), storeText(store))
	}
	var targets []string
	for _, r := range p.Rules {
		targets = append(targets, r.Target)
	}
	checkHonest(t, p, store, targets, m.ran, next)
	return next, m
}

// updateCase is a project and a store, in which each | stands for a newline, and what an update of path returns and leaves. The store is left as it is where next is "same".
type updateCase struct {
	what, project, store, path, result, ran, next string
}

func (c updateCase) check(t *testing.T, honest bool) {
	t.Helper()
	p, store := project(strings.Split(c.project, "|")...), storeOf(c.store)
	if c.next == "same" {
		c.next = c.store
	}
	if impl.StoreHonest(store) != honest {
		t.Fatalf("%s: StoreHonest = %v", c.what, !honest)
	}
	want := fmt.Sprintf("%s\nran %q\n%s", c.result, strings.Fields(c.ran), storeText(storeOf(c.next)))
	if got := updateText(impl.Update(p, store, c.path)); got != want {
		t.Errorf("%s: Update of %s = %s, not %s", c.what, c.path, got, want)
	}
	checkCurrent(t, p, store)
	update, updateAll := checkUpdate, checkUpdateAll
	if honest {
		update, updateAll = checkHonestUpdate, checkHonestUpdateAll
	}
	updateAll(t, p, store)
	for _, path := range append(impl.ProjectPaths(p), "none", "", "A") {
		update(t, p, store, path)
	}
}

// The project of most cases, and the entries of its targets c and d.
const (
	plainProject = "source a xy|source b 1|rule c <@'a'|rule d (@'c'@'b')"
	cEntry       = "entry c <@'a'|read a xy|text x"
	dEntry       = "entry d (@'c'@'b')|read c x|read b 1|text x1"
)

func TestUpdateWithHonestStores(t *testing.T) {
	full := cEntry + "|" + dEntry
	other := strings.Replace(full, "a xy", "a xz", 1)
	for _, c := range []updateCase{
		{"empty store", plainProject, "", "d", "fine x1", "c d", full},
		{"empty store, inner target", plainProject, "", "c", "fine x", "c", cEntry},
		{"nothing has changed", plainProject, full, "d", "fine x1", "", "same"},
		{"source", plainProject, full, "a", "fine xy", "", "same"},
		{"source, empty store", plainProject, "", "b", "fine 1", "", ""},
		{"neither source nor target", plainProject, full, "none", "missing", "", "same"},
		{"only the inner entry", plainProject, cEntry, "d", "fine x1", "d", full},
		{"only the outer entry", plainProject, dEntry, "d", "fine x1", "c", full},
		{"the inner target alone does not concern the outer entry", plainProject, other, "c", "fine x", "c", full},
		{"computed again with the same text", plainProject, other, "d", "fine x1", "c", full},
		{"computed again with another text", strings.Replace(plainProject, "a xy", "a y", 1), full, "d", "fine y1", "c d", "entry c <@'a'|read a y|text y|entry d (@'c'@'b')|read c y|read b 1|text y1"},
		{"second read has changed", strings.Replace(plainProject, "b 1", "b 2", 1), full, "d", "fine x2", "d", cEntry + "|" + strings.ReplaceAll(dEntry, "1", "2")},
		{"second read has become empty", strings.Replace(plainProject, "b 1", "b ", 1), full, "d", "fine x", "d", cEntry + "|" + strings.ReplaceAll(dEntry, "1", "")},

		{"another body", strings.Replace(plainProject, "(@'c'@'b')", "(@'b'@'c')", 1), full, "d", "fine 1x", "d", cEntry + "|entry d (@'b'@'c')|read b 1|read c x|text 1x"},
		{"another body with the same reads and text", strings.Replace(plainProject, "(@'c'@'b')", "((@'c')@'b')", 1), full, "d", "fine x1", "d", strings.Replace(full, "(@'c'@'b')", "((@'c')@'b')", 1)},
		{"another body of the inner target", strings.Replace(plainProject, "<@'a'", "<<@'a'", 1), full, "d", "fine x1", "c", strings.Replace(full, "<@'a'", "<<@'a'", 1)},
		{"another body, which does not read the inner target", strings.Replace(plainProject, "(@'c'@'b')", "@'b'", 1), other, "d", "fine 1", "d", strings.Replace(cEntry, "xy", "xz", 1) + "|entry d @'b'|read b 1|text 1"},

		{"read is no longer there", "source b 1|rule c <@'a'|rule d (@'c'@'b')", full, "d", "missing", "c d", ""},
		{"second read is no longer there", "source a xy|rule c <@'a'|rule d (@'c'@'b')", full, "d", "missing", "d", cEntry},
		{"empty read is no longer there", "rule d @'a'", "entry d @'a'|read a |text ", "d", "missing", "d", ""},
		{"empty read has a code", "source l " + x60 + "|rule a (@'l''y')|rule d @'a'", "entry d @'a'|read a |text ", "d", "large", "a d", ""},
		{"target has become a source", "source b 1|source c x|rule d (@'c'@'b')", full, "d", "fine x1", "", "same"},
		{"target has become a source, updated itself", "source c z", full, "c", "fine z", "", "same"},
		{"source has become a target with the same text", "source a xy|rule b '1'|rule c <@'a'|rule d (@'c'@'b')", full, "d", "fine x1", "b", "entry b '1'|text 1|" + full},
		{"entries without rules", "source a xy", full, "d", "missing", "", "same"},
		{"entries without rules are kept", "source a 1|rule e @'a'", "entry c 'x'|text x|entry g ''|text ", "e", "fine 1", "e", "entry c 'x'|text x|entry e @'a'|read a 1|text 1|entry g ''|text "},

		{"fails without an entry", "rule c @'a'|rule d @'c'", "", "d", "missing", "c d", ""},
		{"still fails", "rule c @'a'|rule d @'c'|rule e 'x'", "entry e 'x'|text x", "d", "missing", "c d", "same"},
		{"too large", "source l " + x60 + "|rule d (@'l'@'l')", "entry d (@'l'@'l')|read l x|text xx", "d", "large", "d", ""},
		{"no path is read", "source l 1|rule d @@'l'", "entry d @@'l'|read l a|read a x|text x", "d", "missing", "d", ""},
		{"failing targets around one that is fine", "source a y|source b 1|rule c <@'a'|rule d (@'c'@'b')|rule e (@'d'@'none')", full + "|entry e (@'d'@'none')|read d x1|read none |text x1", "e", "missing", "c d e", "entry c <@'a'|read a y|text y|entry d (@'c'@'b')|read c y|read b 1|text y1"},

		{"cycle through bodies", "rule c @'d'|rule d @'c'", "", "d", "cycle", "c d", ""},
		{"cycle through the reads of entries", "rule c @'d'|rule d @'c'", "entry c @'d'|read d x|text x|entry d @'c'|read c x|text x", "d", "cycle", "c d", ""},
		{"cycle through the reads of an entry and a body", "rule c @'d'|rule d @'c'", "entry d @'c'|read c x|text x", "d", "cycle", "c d", ""},
		{"cycle through a body and the reads of an entry", "rule c @'d'|rule d @'c'", "entry d @'c'|read c x|text x", "c", "cycle", "d c", ""},
		{"a cycle that is read in an entry and by the body", "rule c @'d'|rule d [@'c'='x'?'y':'z']", "entry c @'d'|read d y|text y", "c", "cycle", "d c", ""},
		{"target reads itself", "source k d|rule d @@'k'", "entry d @@'k'|read k c|read c x|text x", "d", "cycle", "d", ""},
		{"cycle is no longer there", "source m 1|rule c [@'m'='1'?'x':@'d']|rule d @'c'", "entry c [@'m'='1'?'x':@'d']|read m 2|read d y|text y|entry d @'c'|read c x|text x", "d", "fine x", "c", "entry c [@'m'='1'?'x':@'d']|read m 1|text x|entry d @'c'|read c x|text x"},
	} {
		c.check(t, true)
	}
}

// The first read of d decides which other one it has. The one that it no longer has is not built, even if it cannot be.
func TestUpdateOfReadsThatNoLongerHappen(t *testing.T) {
	const body = "[@'m'='1'?@'p':@'q']"
	const rules = "|rule d " + body + "|rule p @'a'|rule q @'b'"
	const pEntry, qEntry = "entry p @'a'|read a old|text old", "entry q @'b'|read b old|text old"
	one, two := "entry d "+body+"|read m 1|read p old|text old", "entry d "+body+"|read m 2|read q old|text old"
	for _, c := range []updateCase{
		{"same first read, stale second read", "source a new|source b new|source m 1" + rules, one + "|" + pEntry + "|" + qEntry, "d", "fine new", "p d", strings.ReplaceAll(one+"|"+pEntry, "old", "new") + "|" + qEntry},
		{"other first read, both stale", "source a new|source b new|source m 2" + rules, one + "|" + pEntry + "|" + qEntry, "d", "fine new", "q d", strings.ReplaceAll(two, "old", "new") + "|" + pEntry + "|" + strings.ReplaceAll(qEntry, "old", "new")},
		{"other first read, the former read is missing", "source b old|source m 2" + rules, one + "|" + pEntry + "|" + qEntry, "d", "fine old", "d", two + "|" + pEntry + "|" + qEntry},
		{"other first read, no entries of the others", "source a old|source b old|source m 2" + rules, one, "d", "fine old", "q d", two + "|" + qEntry},
		{"other first read, same text", "source a old|source b old|source m 1" + rules, two + "|" + pEntry, "d", "fine old", "d", one + "|" + pEntry},
		{"other first read, the new read is missing", "source a old|source m 2" + rules, one + "|" + pEntry + "|" + qEntry, "d", "missing", "q d", pEntry},
	} {
		c.check(t, true)
	}
}

// Entries that are valid, but not honest, are followed as well, to the letter.
func TestUpdateWithOtherStores(t *testing.T) {
	for _, c := range []updateCase{
		{"another text", "source a x|rule d @'a'", "entry d @'a'|read a x|text wrong", "d", "fine wrong", "", "same"},
		{"another text that is read", "source a x|rule d @'a'|rule e (@'d')", "entry d @'a'|read a x|text wrong", "e", "fine wrong", "e", "entry d @'a'|read a x|text wrong|entry e (@'d')|read d wrong|text wrong"},
		{"no reads, but there is one", "source a x|rule d @'a'", "entry d @'a'|text y", "d", "fine y", "", "same"},
		{"no reads of a target that fails", "rule d @'none'", "entry d @'none'|text y", "d", "fine y", "", "same"},
		{"no reads of a target that reads itself", "rule d @'d'", "entry d @'d'|text y", "d", "fine y", "", "same"},
		{"no reads of a large target", "source l " + x60 + "|rule d (@'l'@'l')", "entry d (@'l'@'l')|text y", "d", "fine y", "", "same"},
		{"a text that changes after an honest one", "source a y|rule d @'a'|rule e @'d'", "entry d @'a'|read a x|text x|entry e @'d'|read d y|text wrong", "e", "fine wrong", "d", "entry d @'a'|read a y|text y|entry e @'d'|read d y|text wrong"},

		{"more reads, all of them current", "source a x|source b 1|rule d 'y'", "entry d 'y'|read b 1|read a x|text y", "d", "fine y", "", "same"},
		{"more reads, the last one has changed", "source a x|source b 1|rule d 'y'", "entry d 'y'|read b 1|read a z|text y", "d", "fine y", "d", "entry d 'y'|text y"},
		{"more reads, the last one is missing and empty", "source a x|rule d 'y'", "entry d 'y'|read a x|read none |text y", "d", "fine y", "d", "entry d 'y'|text y"},
		{"reads of an entry are built", "rule d 'y'|rule p '1'|rule q '2'", "entry d 'y'|read q 2|read p 1|text y", "d", "fine y", "q p", "entry d 'y'|read q 2|read p 1|text y|entry p '1'|text 1|entry q '2'|text 2"},
		{"reads of an entry are built up to the first change", "rule d 'y'|rule p '1'|rule q '2'|rule r '3'", "entry d 'y'|read p 1|read q 1|read r 3|text y", "d", "fine y", "p q d", "entry d 'y'|text y|entry p '1'|text 1|entry q '2'|text 2"},
		{"reads of an entry are built up to the first one that fails", "rule d 'y'|rule p @'none'|rule q '2'", "entry d 'y'|read p |read q 2|text y", "d", "fine y", "p d", "entry d 'y'|text y"},
		{"what the entry and the body read is built once", "rule d (@'q'@'p')|rule p '1'|rule q '2'", "entry d (@'q'@'p')|read p 1|read q x|text y", "d", "fine 21", "p q d", "entry d (@'q'@'p')|read q 2|read p 1|text 21|entry p '1'|text 1|entry q '2'|text 2"},
		{"reads of an entry with another body are not built", "rule d 'y'|rule p '1'", "entry d 'z'|read p 1|text y", "d", "fine y", "d", "entry d 'y'|text y"},
		{"reads of the entry of a source are not built", "source d x|rule p '1'", "entry d 'x'|read p 1|text y", "d", "fine x", "", "same"},
		{"reads of an entry without a rule are not built", "rule p '1'", "entry d 'x'|read p 1|text x", "d", "missing", "", "same"},

		{"the build has begun during the reads of the entry", "rule c 'x'|rule d @'c'", "entry c 'x'|read d x|text x", "c", "fine x", "d c", "entry c 'x'|text x"},
		{"the build has begun, both have entries", "rule c 'x'|rule d 'y'", "entry c 'x'|read d y|text x|entry d 'y'|read c x|text y", "c", "fine x", "d", "entry c 'x'|read d y|text x|entry d 'y'|text y"},
		{"the build has begun, but no text of it is recorded", "rule c 'x'|rule d 'y'", "entry c 'x'|read d y|text x|entry d 'y'|read c |text y", "c", "fine x", "d", "entry c 'x'|read d y|text x|entry d 'y'|text y"},
		{"the result of a build is kept, even that of a cycle", "rule c [@'m'='1'?'x':@'d']|rule d @'c'|rule m '1'", "entry c [@'m'='1'?'x':@'d']|read d x|text x", "c", "fine x", "d m c", "entry c [@'m'='1'?'x':@'d']|read m 1|text x|entry m '1'|text 1"},
	} {
		c.check(t, false)
	}
}

// In one build, a target that has a cycle while an entry is verified keeps it, although a build of its own would have a text.
func TestUpdateAllIsASingleBuild(t *testing.T) {
	for _, c := range []struct{ project, store, want string }{
		{"rule c 'x'|rule d @'c'", "entry c 'x'|read d x|text x", "c fine x\nd cycle\nran [\"d\" \"c\"]\nentry c 'x'\ntext x\n"},
		{"rule c 'x'|rule d @'c'", "", "c fine x\nd fine x\nran [\"c\" \"d\"]\nentry c 'x'\ntext x\nentry d @'c'\nread c x\ntext x\n"},
		{"rule a (@'c'@'b')|rule b @'c'|rule c 'x'", "", "a fine xx\nb fine x\nc fine x\nran [\"c\" \"b\" \"a\"]\nentry a (@'c'@'b')\nread c x\nread b x\ntext xx\nentry b @'c'\nread c x\ntext x\nentry c 'x'\ntext x\n"},
		{"rule a @'b'|rule b @'c'|rule c @'a'|rule d @'none'|rule e 'y'", "entry e 'y'|text y", "a cycle\nb cycle\nc cycle\nd missing\ne fine y\nran [\"c\" \"b\" \"a\" \"d\"]\nentry e 'y'\ntext y\n"},
		{"source a x", "entry d 'y'|text y", "ran []\nentry d 'y'\ntext y\n"},
	} {
		p, store := project(strings.Split(c.project, "|")...), storeOf(c.store)
		if got := updateAllText(impl.UpdateAll(p, store)); got != c.want {
			t.Errorf("UpdateAll = %s, not %s, in %q with the store %q", got, c.want, c.project, c.store)
		}
		checkUpdateAll(t, p, store)
	}
}

func TestEngineOfTheDocument(t *testing.T) {
	// The example of the chapter: d reads only c, which is computed again with the same text.
	p := project("source a xy", "rule c <@'a'", "rule d @'c'")
	_, _, store, ran := impl.Update(p, nil, "d")
	if fmt.Sprint(ran) != "[c d]" {
		t.Errorf("the first update computes %q", ran)
	}
	p, _ = impl.SetSource(p, file("a", "xz"))
	if got, want := updateText(impl.Update(p, store, "d")), "fine x\nran [\"c\"]\n"+storeText(storeOf("entry c <@'a'|read a xz|text x|entry d @'c'|read c x|text x")); got != want {
		t.Errorf("the update after the change = %s, not %s", got, want)
	}
	// The updates of the script in the chapter about commands.
	p = project(strings.Split(plainProject, "|")...)
	_, _, store, ran = impl.Update(p, nil, "d")
	if fmt.Sprint(ran) != "[c d]" {
		t.Errorf("the first update computes %q", ran)
	}
	p, _ = impl.SetSource(p, file("a", "xz"))
	if got := impl.StaleTargets(p, store); fmt.Sprint(got) != "[c]" {
		t.Errorf("StaleTargets = %q", got)
	}
	_, _, store, ran = impl.Update(p, store, "d")
	if got := impl.StaleTargets(p, store); fmt.Sprint(ran) != "[c]" || len(got) != 0 {
		t.Errorf("the update computes %q, and StaleTargets = %q", ran, got)
	}
	p, _ = impl.RemoveSource(p, "b")
	if got, want := updateText(impl.Update(p, store, "d")), "missing\nran [\"d\"]\nentry c <@'a'\nread a xz\ntext x\n"; got != want {
		t.Errorf("the update without b = %s, not %s", got, want)
	}
}

func TestUpdateOfAFullStore(t *testing.T) {
	y, z := entry("y", "'x'", "x"), entry("z", "@'y'", "x", file("y", "x"))
	old := entry("z", "@'y'", "w", file("y", "w"))
	p := project("rule y 'x'", "rule z @'y'")
	for others, want := range map[int][]impl.Entry{18: {y, z}, 19: {y}, 20: nil} {
		list := manyEntries(others)
		if next, _ := checkHonestUpdate(t, p, list, "z"); !sameStore(next, append(list, want...)) {
			t.Errorf("with %d other entries, the store becomes %q", others, storeText(next))
		}
	}
	// While y is computed, the old entry of z is still there, and afterwards there is room for the new one.
	full := append(manyEntries(19), old)
	next, m := checkHonestUpdate(t, p, full, "z")
	if !sameStore(next, append(manyEntries(19), z)) || !slices.Equal(m.ran, []string{"y", "z"}) {
		t.Errorf("a full store becomes %q", storeText(next))
	}
	if again, m := checkHonestUpdate(t, p, next, "z"); !sameStore(again, next) || !slices.Equal(m.ran, []string{"y"}) {
		t.Errorf("a full store becomes %q, and %q are computed", storeText(again), m.ran)
	}
	// An entry is removed even if the new one is not put, and a failing target makes room.
	for _, c := range []struct{ lines, store, want string }{
		{"rule b @'none'|rule c 'x'", "entry b @'none'|read none |text ", "entry c 'x'|text x"},
		{"rule b 'x'|rule c @'none'", "entry c @'none'|read none |text ", ""},
		{"rule b 'x'|rule c 'y'", "entry b 'old'|text old", "entry b 'x'|text x"},
		{"rule b 'x'|rule c 'y'", "entry c 'old'|text old", "entry c 'y'|text y"},
		{"rule b 'x'|rule c 'y'", "entry b 'x'|text x", "entry b 'x'|text x"},
		// While c is computed, b still has the entry with its former body.
		{"rule b @'c'|rule c 'x'", "entry b 'old'|text old", "entry b @'c'|read c x|text x"},
	} {
		store := append(manyEntries(19), storeOf(c.store)...)
		next, _ := checkHonestUpdateAll(t, project(strings.Split(c.lines, "|")...), store)
		if want := append(manyEntries(19), storeOf(c.want)...); !sameStore(next, want) {
			t.Errorf("in %q, the store with %q has %q left", c.lines, c.store, storeText(next[19:]))
		}
	}
	checkHonestUpdateAll(t, fullProject(), manyEntries(20))
	checkHonestUpdateAll(t, fullProject(), nil)
}

// A target with more reads than an entry may have is computed in each update, and has no entry afterwards.
func TestUpdateOfTargetsWithManyReads(t *testing.T) {
	for body, kept := range map[string]bool{"(@@@@'a'@@@@'e'@@@@'i')": true, "(@@@@'a'@@@@'e'@@@@'i'@'m')": false, "(@'m'@@@@'a'@@@@'e'@@@@'i')": false} {
		p := chainProject(body)
		old := []impl.Entry{entry("t", body, "x", file("a", "old"))}
		for _, store := range [][]impl.Entry{nil, old, {entry("t", "'old'", "old")}} {
			next, m := checkUpdate(t, p, store, "t")
			_, has := impl.FindEntry(next, "t")
			if has != kept || m.build("t").code != impl.BuildFine || !slices.Contains(m.ran, "t") || !impl.StoreHonest(next) {
				t.Errorf("the update of the target with the body %s computes %q and leaves %q", body, m.ran, storeText(next))
			}
			if _, m := checkHonestUpdate(t, p, next, "t"); slices.Contains(m.ran, "t") == kept {
				t.Errorf("the second update of the target with the body %s computes %q", body, m.ran)
			}
		}
	}
}

// If a target were built whenever it is read, or the reads of its entry whenever it is, these updates would take longer than anyone waits.
func TestUpdateBuildsTargetsAtMostOnce(t *testing.T) {
	lines := []string{"source a b"}
	var current, stale []impl.Entry
	for target := 'b'; target <= 'k'; target++ {
		four := strings.Repeat("@'"+string(target-1)+"'", 4)
		body := fmt.Sprintf("<((%s)(%s))", four, four)
		lines = append(lines, fmt.Sprintf("rule %c %s", target, body))
		current = append(current, entry(string(target), body, "b", file(string(target-1), "b")))
		stale = append(stale, entry(string(target), body, "c", file(string(target-1), "c")))
	}
	p := project(lines...)
	for _, store := range [][]impl.Entry{nil, stale} {
		next, m := checkHonestUpdate(t, p, store, "k")
		if !sameStore(next, current) || fmt.Sprint(m.ran) != "[b c d e f g h i j k]" {
			t.Errorf("Update computes %q and leaves %q", m.ran, storeText(next))
		}
	}
	if next, m := checkHonestUpdate(t, p, current, "k"); !sameStore(next, current) || len(m.ran) != 0 {
		t.Errorf("the second update computes %q", m.ran)
	}
	// Only the first target is stale, and it has the same text again.
	current[0].Reads[0].Text = "bc"
	if _, m := checkHonestUpdate(t, p, current, "k"); fmt.Sprint(m.ran) != "[b]" {
		t.Errorf("the update after a change computes %q", m.ran)
	}
}

// randomEdit returns p with one random change, if there may be this one.
func randomEdit(r *rand.Rand, p impl.Project) impl.Project {
	path := string(rune('a' + r.Intn(12)))
	f := file(path, []string{randomPath(r), strings.Repeat("a", r.Intn(61))}[r.Intn(2)])
	body := randomBody(r, 4)
	for nodes, _ := size(body); nodes > impl.MaxNodes; nodes, _ = size(body) {
		body = randomBody(r, 3)
	}
	edited, ok := p, false
	switch r.Intn(8) {
	case 0:
		edited, ok = impl.RemoveSource(p, path)
	case 1:
		edited, ok = impl.RemoveRule(p, path)
	case 2, 3, 4:
		edited, ok = impl.SetRule(p, impl.Rule{Target: path, Body: body})
	default:
		edited, ok = impl.SetSource(p, f)
	}
	if !ok {
		return p
	}
	return edited
}

// engineCounts counts what happens in random updates, so that a test can tell whether it has seen enough.
type engineCounts struct {
	reused, ran, failed, kept, unread int
}

func (n *engineCounts) add(m *engineModel, store []impl.Entry) {
	n.reused += len(m.reused)
	n.ran += len(m.ran)
	for _, target := range m.ran {
		if m.results[target].code != impl.BuildFine {
			n.failed++
		}
	}
	// Of the entries that are kept, some have reads that were computed again, and of the stale ones, some have reads that were not built.
	for _, e := range store {
		for _, f := range e.Reads {
			if slices.Contains(m.reused, e.Target) && slices.Contains(m.ran, f.Path) {
				n.kept++
			}
			if _, built := m.results[f.Path]; slices.Contains(m.ran, e.Target) && !built {
				n.unread++
			}
		}
	}
}

func (n *engineCounts) check(t *testing.T) {
	t.Helper()
	if n.reused < 3000 || n.ran < 3000 || n.failed < 500 || n.kept < 100 || n.unread < 100 {
		t.Errorf("the updates are too much alike: %+v", *n)
	}
}

// Updates after random edits, each with the store of the one before, from which some entries are removed now and then, and to which others are added at the start.
func TestUpdatesAfterEdits(t *testing.T) {
	r := rand.New(rand.NewSource(6))
	var counts engineCounts
	for range 600 {
		p := randomProject(r)
		store := manyEntries(max(0, r.Intn(60)-39))
		for range 12 {
			before := store
			var m *engineModel
			if r.Intn(3) == 0 {
				store, m = checkHonestUpdateAll(t, p, store)
			} else {
				store, m = checkHonestUpdate(t, p, store, randomPath(r))
			}
			counts.add(m, before)
			if r.Intn(6) == 0 {
				store = slices.DeleteFunc(store, func(impl.Entry) bool { return r.Intn(3) == 0 })
			}
			for range r.Intn(3) {
				p = randomEdit(r, p)
			}
		}
	}
	counts.check(t)
}

// After an update, only the targets that fail, or whose entries do not fit, are computed again.
func TestSecondUpdatesComputeNothing(t *testing.T) {
	r := rand.New(rand.NewSource(61))
	fine := 0
	for range 1500 {
		p := randomProject(r)
		_, store, _ := impl.UpdateAll(p, nil)
		for _, built := range impl.BuildAll(p) {
			_, _, next, ran := impl.Update(p, store, built.Path)
			if built.Code == impl.BuildFine && (len(ran) != 0 || !sameStore(next, store)) {
				t.Fatalf("the update of %s computes %q once more in %q", built.Path, ran, projectText(p))
			}
			if built.Code != impl.BuildFine && !slices.Contains(ran, built.Path) {
				t.Fatalf("the update of %s, which fails, computes only %q in %q", built.Path, ran, projectText(p))
			}
			if built.Code == impl.BuildFine {
				fine++
			}
			// A store that one target needs is that of its clean build.
			_, _, needed, ran := impl.Update(p, nil, built.Path)
			if order, ok := impl.BuildOrder(p, built.Path); ok && (!slices.Equal(ran, order) || len(needed) != len(order)) {
				t.Fatalf("the update of %s with an empty store computes %q, not %q, in %q", built.Path, ran, order, projectText(p))
			}
			for _, e := range needed {
				if made, ok := impl.MakeEntry(p, e.Target); !ok || !sameEntry(made, e) {
					t.Fatalf("the update of %s leaves %q, not %q", built.Path, e, made)
				}
			}
		}
	}
	if fine < 3000 {
		t.Errorf("only %d targets are fine", fine)
	}
}

// randomStore returns a valid store for a project, of which few entries are honest.
func randomStore(r *rand.Rand, p impl.Project) []impl.Entry {
	m := newBuildModel(p)
	var list []impl.Entry
	for _, rule := range p.Rules {
		e, ok := entryModel(p, m, rule.Target)
		if !ok || r.Intn(2) == 0 {
			e = entry(rule.Target, textOf(rule.Body), randomPath(r))
			for _, i := range r.Perm(12)[:r.Intn(4)] {
				if path := string(rune('a' + i)); path != rule.Target {
					e.Reads = append(e.Reads, file(path, m.of(path).text))
				}
			}
		}
		if r.Intn(4) == 0 {
			changed := changedEntries(e)
			e = changed[r.Intn(len(changed))]
		}
		if impl.EntryValid(e) && r.Intn(6) > 0 {
			list = append(list, e)
		}
	}
	list = append(list, manyEntries(max(0, r.Intn(60)-39))...)
	slices.SortFunc(list, func(a, b impl.Entry) int { return strings.Compare(a.Target, b.Target) })
	return slices.CompactFunc(list, func(a, b impl.Entry) bool { return a.Target == b.Target })[:min(20, len(list))]
}

func TestUpdatesWithRandomStores(t *testing.T) {
	r := rand.New(rand.NewSource(62))
	var counts engineCounts
	cycles, honest := 0, 0
	for range 5000 {
		p := randomProject(r)
		store := randomStore(r, p)
		if impl.StoreHonest(store) {
			honest++
		}
		for range r.Intn(3) {
			p = randomEdit(r, p)
		}
		checkCurrent(t, p, store)
		_, m := checkUpdate(t, p, store, randomPath(r))
		counts.add(m, store)
		_, m = checkUpdateAll(t, p, store)
		counts.add(m, store)
		for _, built := range impl.BuildAll(p) {
			if built.Code == impl.BuildFine && m.results[built.Path].code == impl.BuildCycle {
				cycles++
			}
		}
	}
	counts.check(t)
	if cycles < 50 || honest > 1000 {
		t.Errorf("only %d targets have a cycle through entries alone, or too many stores are honest: %d", cycles, honest)
	}
}

func TestEntryCurrent(t *testing.T) {
	p := project("source a x", "source e ", "source l "+x60, "rule big (@'l''y')", "rule c @'a'", "rule d (@'c'@'a')", "rule lost @'none'", "rule self @'self'")
	for _, c := range []struct {
		want bool
		e    impl.Entry
	}{
		{true, entry("c", "@'a'", "x", file("a", "x"))}, {true, entry("d", "(@'c'@'a')", "xx", file("c", "x"), file("a", "x"))}, {true, entry("c", "@'a'", "x", file("e", ""))},
		// The text, and which reads there are, do not matter.
		{true, entry("c", "@'a'", "y", file("a", "x"))}, {true, entry("c", "@'a'", "x")}, {true, entry("self", "@'self'", "")}, {true, entry("lost", "@'none'", "q")}, {true, entry("c", "@'a'", "x", file("l", x60), file("d", "xx"), file("a", "x"))},
		// Another body.
		{false, entry("c", "(@'a')", "x", file("a", "x"))}, {false, entry("c", "'x'", "x")}, {false, entry("d", "@'a'", "x", file("a", "x"))},
		// No rule.
		{false, entry("a", "@'c'", "x", file("c", "x"))}, {false, entry("e", "''", "")}, {false, entry("f", "@'a'", "x", file("a", "x"))},
		// A read with another text or none.
		{false, entry("c", "@'a'", "x", file("a", ""))}, {false, entry("c", "@'a'", "x", file("a", "xx"))}, {false, entry("d", "(@'c'@'a')", "xx", file("c", "x"), file("a", "y"))}, {false, entry("d", "(@'c'@'a')", "xx", file("c", "y"), file("a", "x"))}, {false, entry("c", "@'a'", "x", file("none", ""))}, {false, entry("c", "@'a'", "x", file("a", "x"), file("none", ""))},
		{false, entry("c", "@'a'", "x", file("big", ""))}, {false, entry("c", "@'a'", "x", file("lost", ""))}, {false, entry("c", "@'a'", "x", file("self", ""))},
	} {
		if got := impl.EntryCurrent(p, c.e); got != c.want || currentModel(p, newBuildModel(p), c.e) != c.want {
			t.Errorf("EntryCurrent of %q = %v", c.e, got)
		}
		checkCurrent(t, p, []impl.Entry{c.e})
	}
	for _, list := range smallStores() {
		checkCurrent(t, project("source x 1", "source y read x", "rule a @'y'", "rule ab (@'x'' ')", "rule b (@'x'' ')", "rule ba @'y'"), list)
		checkCurrent(t, project("source b ", "source x ", "source y read x", "rule a @'y'", "rule ab ''", "rule ba @'y'"), list)
	}
}

// What the results of an update and of a clean build have in common is what EntryCurrent says: an entry that is current is reused.
func TestStaleTargetsAreComputed(t *testing.T) {
	r := rand.New(rand.NewSource(63))
	stale, current := 0, 0
	for range 1500 {
		p := randomProject(r)
		_, store, _ := impl.UpdateAll(p, nil)
		for range 1 + r.Intn(3) {
			p = randomEdit(r, p)
		}
		_, _, ran := impl.UpdateAll(p, store)
		want := impl.StaleTargets(p, store)
		if got := slices.Sorted(slices.Values(ran)); !slices.Equal(got, want) {
			t.Fatalf("UpdateAll computes %q, but StaleTargets = %q, in %q", got, want, projectText(p))
		}
		// The entries that are not current make no difference.
		pruned, ok := impl.PruneStore(p, store)
		if _, _, again := impl.UpdateAll(p, pruned); !ok || !slices.Equal(again, ran) {
			t.Fatalf("with the entries of PruneStore, UpdateAll computes %q, not %q", again, ran)
		}
		stale += len(want)
		current += len(pruned)
	}
	if stale < 1000 || current < 1000 {
		t.Errorf("only %d targets are stale, or %d are not", stale, current)
	}
}

// checkNoEngine checks that all functions say that a project or a store is not valid.
func checkNoEngine(t *testing.T, what string, p impl.Project, store []impl.Entry) {
	t.Helper()
	for _, path := range []string{"", "a", "b", "c", "d", "zzz", "none"} {
		if code, text, next, ran := impl.Update(p, store, path); code != impl.BuildInvalid || text != "" || len(next) != 0 || len(ran) != 0 {
			t.Errorf("%s: Update of %q = %d, %q, %q, %q", what, path, code, text, next, ran)
		}
	}
	if built, next, ran := impl.UpdateAll(p, store); len(built) != 0 || len(next) != 0 || len(ran) != 0 {
		t.Errorf("%s: UpdateAll = %v, %q, %q", what, built, next, ran)
	}
	if stale := impl.StaleTargets(p, store); len(stale) != 0 {
		t.Errorf("%s: StaleTargets = %q", what, stale)
	}
	if next, ok := impl.PruneStore(p, store); ok || len(next) != 0 {
		t.Errorf("%s: PruneStore = %q, %v", what, next, ok)
	}
}

func TestEngineWithInvalidArguments(t *testing.T) {
	plain := project(strings.Split(plainProject, "|")...)
	entries := storeOf(cEntry + "|" + dEntry)
	for what, p := range invalidProjects() {
		checkNoEngine(t, "project: "+what, p, nil)
		checkNoEngine(t, "project: "+what, p, entries)
		for _, r := range p.Rules[:min(3, len(p.Rules))] {
			for _, e := range []impl.Entry{entry(r.Target, "''", ""), entry(r.Target, impl.FormatExpr(r.Body), "")} {
				if impl.EntryCurrent(p, e) {
					t.Errorf("EntryCurrent of %q is true in a project with this fault: %s", e, what)
				}
			}
		}
	}
	for what, list := range invalidStores() {
		for _, p := range []impl.Project{plain, {}, project("source a x", "source b ", "rule c ''")} {
			checkNoEngine(t, "store: "+what, p, list)
		}
	}
	for what, e := range invalidEntries() {
		p := impl.Project{Sources: []impl.File{file("a", "x"), file("b", ""), file("d", "")}}
		for _, target := range []string{"c", "f", "zz"} {
			if body, ok := impl.ParseExpr(e.Body); ok {
				p.Rules = append(p.Rules, impl.Rule{Target: target, Body: body})
			}
		}
		if !impl.ProjectValid(p) || impl.EntryCurrent(p, e) || impl.EntryCurrent(plain, e) {
			t.Errorf("EntryCurrent accepts an entry with this fault: %s", what)
		}
	}
	// Paths that are no paths are missing, and leave the store as it is.
	for _, path := range append([]string{"none", "zz", "t ", x60}, invalidTargets...) {
		if got, want := updateText(impl.Update(plain, entries, path)), "missing\nran []\n"+storeText(entries); got != want {
			t.Errorf("Update of %q = %s, not %s", path, got, want)
		}
	}
	checkHonestUpdateAll(t, impl.Project{}, nil)
	checkHonestUpdateAll(t, impl.Project{}, manyEntries(20))
	checkHonestUpdate(t, impl.Project{}, nil, "a")
}

// sharingEngine is a project whose sources share memory with the reads of the entries in sharingStore, some of which it can reuse.
func sharingEngine(list []impl.Entry) impl.Project {
	return impl.Project{Sources: list[0].Reads, Rules: []impl.Rule{rule("p", "''"), rule("q", "(@'d'@'c'@'b')"), rule("s", "''"), rule("z", "(@'q'@'p'@'e')")}}
}

// engineStores returns the stores that the functions of the engine return for a store.
func engineStores(list []impl.Entry) map[string][]impl.Entry {
	p := sharingEngine(list)
	results := map[string][]impl.Entry{}
	for _, path := range []string{"a", "p", "q", "z", "none"} {
		_, _, results["Update of "+path], _ = impl.Update(p, list, path)
	}
	_, results["UpdateAll"], _ = impl.UpdateAll(p, list)
	results["PruneStore"], _ = impl.PruneStore(p, list)
	return results
}

func TestEngineSharesNoMemory(t *testing.T) {
	list := sharingStore()
	if got := updateAllText(impl.UpdateAll(sharingEngine(list), list)); !strings.HasPrefix(got, "p fine p\nq fine xxxxxx\ns fine s\nz fine xxxxxxpxxxx\nran [\"q\" \"z\"]\n") {
		t.Errorf("UpdateAll = %s", got)
	}
	checkArgumentsApart(t, list, engineStores)
	checkStoresApart(t, list, engineStores)
	p := sharingEngine(list)
	p.Rules = slices.Grow(p.Rules, 3)
	before, entries := wholeText(p), wholeStoreText(list)
	results := func() ([]impl.Built, []string) {
		built, _, all := impl.UpdateAll(p, list)
		_, _, _, ran := impl.Update(p, list, "z")
		impl.EntryCurrent(p, list[1])
		return built, slices.Concat(all, []string{"-"}, ran, []string{"-"}, impl.StaleTargets(p, list))
	}
	builtBefore, listsBefore := results()
	built, _, all := impl.UpdateAll(p, list)
	_, _, _, ran := impl.Update(p, list, "z")
	spoilStrings(all)
	spoilStrings(ran)
	spoilStrings(impl.StaleTargets(p, list))
	for i := range built[:cap(built)] {
		built[:cap(built)][i] = impl.Built{Path: "spoilt"}
	}
	builtAfter, listsAfter := results()
	if !slices.Equal(builtAfter, builtBefore) || !slices.Equal(listsAfter, listsBefore) {
		t.Errorf("the results are %v, %q at first and then %v, %q", builtBefore, listsBefore, builtAfter, listsAfter)
	}
	if wholeText(p) != before || wholeStoreText(list) != entries {
		t.Errorf("a function modifies its arguments: %q, %q", wholeText(p), wholeStoreText(list))
	}
}
