package tests

import (
	"fmt"
	"maps"
	"math/rand"
	"slices"
	"strings"
	"testing"

	"loop.example/buildengine/impl"
)

// reasonText writes what ReasonOf returns, in the words of the chapter about commands.
func reasonText(number int, path string) string {
	words := map[int]string{impl.ReasonNone: "none", impl.ReasonCurrent: "current", impl.ReasonNew: "new", impl.ReasonRule: "rule", impl.ReasonRead: "read"}
	return strings.TrimSuffix(words[number]+" "+path, " ")
}

func TestReasonNumbers(t *testing.T) {
	numbers := []int{impl.ReasonNone, impl.ReasonCurrent, impl.ReasonNew, impl.ReasonRule, impl.ReasonRead}
	if fmt.Sprint(numbers) != "[0 1 2 3 4]" {
		t.Errorf("the reasons have the numbers %v", numbers)
	}
}

// reasonModel returns the reason of a target in a valid project whose results are those of m, with a valid store.
func reasonModel(p impl.Project, m buildModel, store []impl.Entry, target string) string {
	i := slices.IndexFunc(p.Rules, func(r impl.Rule) bool { return r.Target == target })
	e, found := modelOfStore(store)[target]
	switch {
	case i < 0:
		return "none"
	case !found:
		return "new"
	case e.Body != textOf(p.Rules[i].Body):
		return "rule"
	}
	for _, f := range e.Reads {
		if m.of(f.Path) != (outcome{impl.BuildFine, f.Text}) {
			return "read " + f.Path
		}
	}
	return "current"
}

// checkReasons compares ReasonOf with the model for all paths, and with StaleTargets for all targets. It returns how often each reason applies to a target.
func checkReasons(t *testing.T, p impl.Project, store []impl.Entry) map[string]int {
	t.Helper()
	m := newBuildModel(p)
	counts := map[string]int{}
	var stale []string
	targets := slices.Concat(impl.ProjectPaths(p), slices.Sorted(maps.Keys(modelOfStore(store))), []string{"", "none", "A", x60})
	for _, target := range targets {
		want := reasonModel(p, m, store, target)
		if got := reasonText(impl.ReasonOf(p, store, target)); got != want {
			t.Fatalf("ReasonOf of %q = %s, not %s, in %q with the store %q", target, got, want, projectText(p), storeText(store))
		}
		if want != "none" && want != "current" && !slices.Contains(stale, target) {
			stale = append(stale, target)
		}
	}
	for _, r := range p.Rules {
		word, _, _ := strings.Cut(reasonModel(p, m, store, r.Target), " ")
		counts[word]++
	}
	if got := impl.StaleTargets(p, store); !slices.Equal(got, stale) {
		t.Fatalf("StaleTargets = %q, but the targets with a reason to be computed are %q, in %q with the store %q", got, stale, projectText(p), storeText(store))
	}
	return counts
}

// checkPlan compares PlanUpdate with the model of chapter 6, and returns whether there is a plan.
func checkPlan(t *testing.T, p impl.Project, store []impl.Entry, path string) bool {
	t.Helper()
	m := newEngineModel(p, store)
	var want []string
	fine := m.build(path).code == impl.BuildFine
	if fine {
		want = m.ran
	}
	if got, ok := impl.PlanUpdate(p, store, path); ok != fine || !slices.Equal(got, want) {
		t.Fatalf("PlanUpdate of %q = %q, %v, not %q, %v, in %q with the store %q", path, got, ok, want, fine, projectText(p), storeText(store))
	}
	if _, _, _, ran := impl.Update(p, store, path); fine && !slices.Equal(ran, want) {
		t.Fatalf("Update of %q computes %q, not %q, in %q with the store %q", path, ran, want, projectText(p), storeText(store))
	}
	return fine
}

// readsAny reports whether an entry has one of the paths among its reads.
func readsAny(e impl.Entry, list []string) bool {
	return slices.ContainsFunc(e.Reads, func(f impl.File) bool { return slices.Contains(list, f.Path) })
}

// dirtyModel looks through the whole store again and again until nothing more becomes dirty.
func dirtyModel(store []impl.Entry, changed []string) []string {
	var dirty []string
	for range store {
		for _, e := range store {
			if readsAny(e, slices.Concat(changed, dirty)) && !slices.Contains(dirty, e.Target) {
				dirty = append(dirty, e.Target)
			}
		}
	}
	slices.Sort(dirty)
	return dirty
}

// checkDirty compares DirtyTargets with the model for a valid store and at most MaxEntries paths, and returns the targets.
func checkDirty(t *testing.T, store []impl.Entry, changed []string) []string {
	t.Helper()
	want := dirtyModel(store, changed)
	if got := impl.DirtyTargets(store, changed); !slices.Equal(got, want) {
		t.Fatalf("DirtyTargets of %q = %q, not %q, in %q", changed, got, want, storeText(store))
	}
	return want
}

// storePaths returns the targets and the reads of a store, and some strings that are neither.
func storePaths(store []impl.Entry) []string {
	list := []string{"", "none", "A", "a ", x60}
	for _, e := range store {
		list = append(append(list, e.Target), pathsOf(e)...)
	}
	slices.Sort(list)
	return slices.Compact(list)
}

// checkReaders compares ReadersOf with the store for all of its paths, and DirtyTargets of one path each with the model.
func checkReaders(t *testing.T, store []impl.Entry) {
	t.Helper()
	for _, path := range storePaths(store) {
		var want []string
		for _, e := range store {
			if slices.Contains(pathsOf(e), path) {
				want = append(want, e.Target)
			}
		}
		if got := impl.ReadersOf(store, path); !slices.Equal(got, want) {
			t.Fatalf("ReadersOf of %q = %q, not %q, in %q", path, got, want, storeText(store))
		}
		checkDirty(t, store, []string{path})
	}
}

// checkExplain compares all functions that explain a store with their models.
func checkExplain(t *testing.T, p impl.Project, store []impl.Entry) {
	t.Helper()
	checkReasons(t, p, store)
	for _, path := range append(impl.ProjectPaths(p), "none", "", "A") {
		checkPlan(t, p, store, path)
	}
	checkReaders(t, store)
}

// compareModel returns the paths at which the reads of two entries differ.
func compareModel(a, b impl.Entry) []string {
	var list []string
	for _, e := range []impl.Entry{a, b} {
		for _, f := range e.Reads {
			if !slices.Contains(a.Reads, f) || !slices.Contains(b.Reads, f) {
				list = append(list, f.Path)
			}
		}
	}
	slices.Sort(list)
	return slices.Compact(list)
}

// checkCompare compares CompareEntries with the model for two valid entries of one target, and returns the paths.
func checkCompare(t *testing.T, a, b impl.Entry) []string {
	t.Helper()
	want := compareModel(a, b)
	for _, pair := range [][2]impl.Entry{{a, b}, {b, a}} {
		if got := impl.CompareEntries(pair[0], pair[1]); !slices.Equal(got, want) {
			t.Fatalf("CompareEntries of %q = %q, not %q", storeText(pair[:]), got, want)
		}
	}
	return want
}

func TestExplainOfTheDocument(t *testing.T) {
	// The example of the chapter: only a has changed, and the entry reads b before a.
	p := project("source a x", "source b y", "rule d (@'b'@'a')")
	_, store, _ := impl.UpdateAll(p, nil)
	p, _ = impl.SetSource(p, file("a", "z"))
	if got := reasonText(impl.ReasonOf(p, store, "d")); got != "read a" {
		t.Errorf("ReasonOf = %s", got)
	}
	// The script in the chapter about commands.
	p = project(strings.Split(plainProject, "|")...)
	_, _, store, _ = impl.Update(p, nil, "d")
	p, _ = impl.SetSource(p, file("a", "xz"))
	if got := reasonText(impl.ReasonOf(p, store, "c")); got != "read a" {
		t.Errorf("ReasonOf of c = %s", got)
	}
	if got := reasonText(impl.ReasonOf(p, store, "d")); got != "current" {
		t.Errorf("ReasonOf of d = %s", got)
	}
	if got := listText(impl.PlanUpdate(p, store, "d")); got != paths("c") {
		t.Errorf("PlanUpdate of d = %s", got)
	}
}

func TestReasonOf(t *testing.T) {
	full := cEntry + "|" + dEntry
	for _, c := range []struct{ what, project, store, target, want string }{
		{"no entry", plainProject, "", "d", "new"},
		{"no entry among others", plainProject, cEntry, "d", "new"},
		{"no entry, and its reads have none either", plainProject, dEntry, "c", "new"},
		{"no entry, but those of similar targets", plainProject, "entry cd @'a'|read a xy|text xy|entry dd 'x'|text x", "d", "new"},
		{"no entry of a target that fails", "rule d @'none'", "", "d", "new"},
		{"nothing has changed", plainProject, full, "d", "current"},
		{"nothing has changed, its reads have no entries", plainProject, dEntry, "d", "current"},
		{"an inner target will be computed, but with the same text", strings.Replace(plainProject, "a xy", "a x", 1), full, "d", "current"},
		{"no reads", "rule d 'x'", "entry d 'x'|text x", "d", "current"},
		{"another text without a changed read", "rule d 'x'", "entry d 'x'|text wrong", "d", "current"},

		{"a source", plainProject, full, "a", "none"},
		{"a source that has the entry of a target", "source b 1|source d x1", full, "d", "none"},
		{"an entry, but no rule", "source a xy", full, "c", "none"},
		{"neither", plainProject, full, "none", "none"},
		{"no paths", plainProject, full, "", "none"},
		{"empty project", "", full, "d", "none"},

		{"another body", strings.Replace(plainProject, "(@'c'@'b')", "(@'b'@'c')", 1), full, "d", "rule"},
		{"another body with the same reads and text", strings.Replace(plainProject, "(@'c'@'b')", "((@'c')@'b')", 1), full, "d", "rule"},
		{"another body before a changed read", "source a y|source b 2|rule c <@'a'|rule d (@'b'@'c')", full, "d", "rule"},
		{"another body, and it fails", strings.Replace(plainProject, "(@'c'@'b')", "@'none'", 1), full, "d", "rule"},
		{"another body of a read", strings.Replace(plainProject, "<@'a'", "<<@'a'", 1), full, "d", "current"},
		{"another body of a read, which has another text", strings.Replace(plainProject, "<@'a'", ">@'a'", 1), full, "d", "read c"},

		{"a source", strings.Replace(plainProject, "b 1", "b 2", 1), full, "d", "read b"},
		{"a source through a target", strings.Replace(plainProject, "a xy", "a y", 1), full, "d", "read c"},
		{"a source has become empty", strings.Replace(plainProject, "b 1", "b ", 1), full, "d", "read b"},
		{"a space more", strings.Replace(plainProject, "b 1", "b 1 ", 1), full, "d", "read b"},
		{"both reads", strings.NewReplacer("a xy", "a y", "b 1", "b 2").Replace(plainProject), full, "d", "read c"},
		{"both reads, in another order", "source a y|source b 2|rule d (@'b'@'a')", "entry d (@'b'@'a')|read b 1|read a x|text 1x", "d", "read b"},
		{"the second and the third one of four", "source a 1|source b 2|source c 3|source e 4|rule d (@'e'@'b'@'c'@'a')", "entry d (@'e'@'b'@'c'@'a')|read e 4|read b |read c |read a 1|text 41", "d", "read b"},
		{"a source is no longer there", "source a xy|rule c <@'a'|rule d (@'c'@'b')", full, "d", "read b"},
		{"an empty source is no longer there", "rule d @'a'", "entry d @'a'|read a |text ", "d", "read a"},
		{"a read fails, and a later one has another text", "source b 2|rule c <@'a'|rule d (@'c'@'b')", full, "d", "read c"},
		{"a read has another text, and a later one fails", "source a y|rule c <@'a'|rule d (@'c'@'b')", full, "d", "read c"},
		{"a later read fails", "source b 1|rule c 'x'|rule d (@'c'@'e')|rule e @'none'", "entry d (@'c'@'e')|read c x|read e |text x", "d", "read e"},
		{"a read is too large", "source l " + x60 + "|rule a (@'l''y')|rule d @'a'", "entry d @'a'|read a |text ", "d", "read a"},
		{"a target has become a source with another text", "source b 1|source c y|rule d (@'c'@'b')", full, "d", "read c"},
		{"a target has become a source with the same text", "source b 1|source c x|rule d (@'c'@'b')", full, "d", "current"},
		{"a read that does not happen", "source a 1|rule d 'x'", "entry d 'x'|read a 2|text x", "d", "read a"},
		{"a read that does not happen is no longer there", "rule d 'x'", "entry d 'x'|read a |text x", "d", "read a"},

		{"a cycle", "rule c @'d'|rule d @'c'", "entry c @'d'|read d x|text x|entry d @'c'|read c x|text x", "d", "read c"},
		{"a cycle with empty texts", "rule c @'d'|rule d @'c'", "entry c @'d'|read d |text |entry d @'c'|read c |text ", "c", "read d"},
		{"a cycle through a read without an entry", "rule c @'d'|rule d @'c'", "entry d @'c'|read c |text ", "d", "read c"},
		{"reads itself through its body", "rule d @'d'", "entry d @'d'|text x", "d", "current"},
		{"reads a target that reads itself", "rule c @'c'|rule d @'c'", "entry d @'c'|read c |text ", "d", "read c"},
		{"entries that read each other, but not the bodies", "rule c 'x'|rule d 'y'", "entry c 'x'|read d y|text x|entry d 'y'|read c x|text y", "d", "current"},
		{"entries that read each other, but not the bodies, one text has changed", "rule c 'x'|rule d 'y'", "entry c 'x'|read d x|text x|entry d 'y'|read c x|text y", "c", "read d"},
	} {
		p, store := projectOf(c.project), storeOf(c.store)
		if got := reasonText(impl.ReasonOf(p, store, c.target)); got != c.want {
			t.Errorf("%s: ReasonOf of %s = %s, not %s", c.what, c.target, got, c.want)
		}
		checkExplain(t, p, store)
	}
}

// Each of twelve reads may be the first one that has changed, alone or before another one.
func TestReasonOfEveryRead(t *testing.T) {
	e := fullEntry()
	for i, first := range e.Reads {
		for _, later := range e.Reads[i:] {
			for _, lost := range []bool{false, true} {
				p := impl.Project{Rules: []impl.Rule{rule(e.Target, e.Body)}}
				for _, f := range e.Reads {
					changed := f == first || f == later
					if changed {
						f.Text = "new"
					}
					if !changed || !lost {
						p.Sources = append(p.Sources, f)
					}
				}
				slices.SortFunc(p.Sources, func(a, b impl.File) int { return strings.Compare(a.Path, b.Path) })
				if got := reasonText(impl.ReasonOf(p, []impl.Entry{e}, e.Target)); got != "read "+first.Path {
					t.Errorf("ReasonOf = %s after changes of %s and %s", got, first.Path, later.Path)
				}
				checkReasons(t, p, []impl.Entry{e})
			}
		}
	}
}

// Each version of the project has a target that reads the other one, and the store has the entry of each from the version in which it does.
const (
	versionsRules = "|rule c [@'m'='1'?@'d':'x']|rule d [@'m'='1'?'y':@'c']"
	versionsStore = "entry c [@'m'='1'?@'d':'x']|read m 1|read d y|text y|entry d [@'m'='1'?'y':@'c']|read m 2|read c x|text x"
)

func TestCycleAmongEntriesOfDifferentVersions(t *testing.T) {
	store := storeOf(versionsStore)
	if !impl.StoreHonest(store) {
		t.Fatal("the entries are not honest")
	}
	for mode, c := range map[string]struct{ reasonC, reasonD, planC, planD string }{
		"m 1": {"current", "read m", "d", "d"},
		"m 2": {"read m", "current", "c", "c"},
		"m 3": {"read m", "read m", "c", "c d"},
	} {
		p := project(strings.Split("source "+mode+versionsRules, "|")...)
		for target, want := range map[string]string{"c": c.reasonC, "d": c.reasonD} {
			if got := reasonText(impl.ReasonOf(p, store, target)); got != want {
				t.Errorf("with %s, ReasonOf of %s = %s, not %s", mode, target, got, want)
			}
		}
		for target, want := range map[string]string{"c": c.planC, "d": c.planD} {
			if got := listText(impl.PlanUpdate(p, store, target)); got != paths(want) {
				t.Errorf("with %s, PlanUpdate of %s = %s, not %s", mode, target, got, want)
			}
		}
		checkReasons(t, p, store)
	}
	for _, c := range []struct{ changed, want string }{{"m", "c d"}, {"c", "c d"}, {"d", "c d"}, {"", ""}, {"x", ""}} {
		if got := impl.DirtyTargets(store, strings.Fields(c.changed)); !slices.Equal(got, strings.Fields(c.want)) {
			t.Errorf("DirtyTargets of %s = %q", c.changed, got)
		}
	}
	for path, want := range map[string]string{"m": "c d", "c": "d", "d": "c"} {
		if got := impl.ReadersOf(store, path); !slices.Equal(got, strings.Fields(want)) {
			t.Errorf("ReadersOf of %s = %q", path, got)
		}
	}
}

func TestPlanUpdate(t *testing.T) {
	full := cEntry + "|" + dEntry
	for _, c := range []struct{ what, project, store, path, want string }{
		{"empty store", plainProject, "", "d", "c d"},
		{"empty store, inner target", plainProject, "", "c", "c"},
		{"nothing has changed", plainProject, full, "d", ""},
		{"a source", plainProject, full, "a", ""},
		{"a source, empty store", plainProject, "", "b", ""},
		{"the same text again", strings.Replace(plainProject, "a xy", "a xz", 1), full, "d", "c"},
		{"another text", strings.Replace(plainProject, "a xy", "a y", 1), full, "d", "c d"},
		{"another text, inner target", strings.Replace(plainProject, "a xy", "a y", 1), full, "c", "c"},
		{"another body", strings.Replace(plainProject, "(@'c'@'b')", "(@'b'@'c')", 1), full, "d", "d"},
		{"only the outer entry", plainProject, dEntry, "d", "c"},
		{"in the order of their ends", "rule a (@'c'@'b')|rule b @'c'|rule c 'x'", "", "a", "c b a"},
		{"what a stale entry reads is built", "rule d 'y'|rule p '1'|rule q '2'", "entry d 'y'|read p 1|read q 1|text y", "d", "p q d"},
		{"what a reused entry reads is built", "rule d 'y'|rule p '1'|rule q '2'", "entry d 'y'|read q 2|read p 1|text y", "d", "q p"},
		{"wrong text", "source a x|rule d @'a'", "entry d @'a'|read a x|text wrong", "d", ""},
		{"fails without reading it", "rule c @'none'|rule d 'x'", "", "d", "d"},
		{"an entry without reads of a target that fails", "rule d @'none'", "entry d @'none'|text y", "d", ""},
		{"a read of the entry fails, but the body does not read it", "rule d 'y'|rule p @'none'", "entry d 'y'|read p |text y", "d", "p d"},

		{"missing", plainProject, full, "none", "no"},
		{"no path", plainProject, full, "", "no"},
		{"fails", "rule c @'none'|rule d (@'e'@'c')|rule e 'x'", "", "d", "no"},
		{"fails with an entry", "rule c <@'a'|rule d (@'c'@'b')", full, "d", "no"},
		{"cycle", "rule c @'d'|rule d @'c'", "", "d", "no"},
		{"cycle with entries", "rule c @'d'|rule d @'c'", "entry c @'d'|read d x|text x|entry d @'c'|read c x|text x", "d", "no"},
		{"too large", "source l " + x60 + "|rule d (@'l''y')", "", "d", "no"},
	} {
		p, store := project(strings.Split(c.project, "|")...), storeOf(c.store)
		want := paths(c.want)
		if c.want == "no" {
			want = listText(nil, false)
		}
		if got := listText(impl.PlanUpdate(p, store, c.path)); got != want {
			t.Errorf("%s: PlanUpdate of %s = %s, not %s", c.what, c.path, got, want)
		}
		checkExplain(t, p, store)
	}
}

func TestReadersOf(t *testing.T) {
	store := storeOf("entry a 'x'|read c 1|read b 2|text x|entry b 'x'|text x|entry bb 'x'|read b |read a 3|read x |text x|entry c 'x'|read b 2|text x")
	for path, want := range map[string]string{"a": "bb", "b": "a bb c", "c": "a", "x": "bb", "bb": "", "none": "", "": "", "B": "", "b ": ""} {
		if got := impl.ReadersOf(store, path); !slices.Equal(got, strings.Fields(want)) {
			t.Errorf("ReadersOf of %q = %q, not %q", path, got, want)
		}
	}
	var all []string
	for _, e := range manyEntries(20) {
		all = append(all, e.Target)
	}
	if got := impl.ReadersOf(manyEntries(20), "z"); !slices.Equal(got, all) {
		t.Errorf("ReadersOf in a full store = %q", got)
	}
	if got := impl.DirtyTargets(manyEntries(20), []string{"z"}); !slices.Equal(got, all) {
		t.Errorf("DirtyTargets in a full store = %q", got)
	}
	for _, e := range validEntries() {
		checkReaders(t, []impl.Entry{e})
	}
	for _, list := range append(smallStores(), manyEntries(20)) {
		checkReaders(t, list)
	}
}

// linkedStore returns a store in which each entry has the reads that follow its target in the line.
func linkedStore(lines ...string) []impl.Entry {
	var store []impl.Entry
	for _, line := range lines {
		words := strings.Fields(line)
		e := entry(words[0], "''", "")
		for _, path := range words[1:] {
			e.Reads = append(e.Reads, file(path, ""))
		}
		store = append(store, e)
	}
	return store
}

func TestDirtyTargets(t *testing.T) {
	for _, c := range []struct{ store, changed, want string }{
		{"", "a", ""},
		{"d a|e d|f b", "a", "d e"}, {"d a|e d|f b", "b", "f"}, {"d a|e d|f b", "a b", "d e f"}, {"d a|e d|f b", "b a", "d e f"}, {"d a|e d|f b", "", ""}, {"d a|e d|f b", "none", ""},
		// A target is not dirty because it is one of the changed paths, but those that read it are.
		{"d a|e d|f b", "d", "e"}, {"d a|e d|f b", "e", ""}, {"d a|e d|f b", "f", ""}, {"d a|e d|f b", "d a", "d e"}, {"d a|e d|f b", "d e f", "e"},
		// Targets before and after those that they read.
		{"a z|b a|c b|d c", "z", "a b c d"}, {"a b|b c|c d|d z", "z", "a b c d"}, {"a c|b z|c b|d a", "z", "a b c d"}, {"a b|b c|c d|d z", "c", "a b"}, {"a b|b c|c d|d z", "a", ""},
		// Any of the reads counts, and the same path may be read often.
		{"a x y z|b", "y", "a"}, {"a x y z|b", "z", "a"}, {"a z|b z|c a b", "z", "a b c"}, {"a z|b z|c d|e d", "z", "a b"}, {"a z|b a z|c b a z", "z", "a b c"},
		// Cycles: with a changed path behind them, without one, and with one of their own.
		{"a b|b a", "", ""}, {"a b|b a", "z", ""}, {"a b z|b a", "z", "a b"}, {"a b|b a", "a", "a b"}, {"a b|b c|c a z|d a", "z", "a b c d"}, {"a b|b c|c a|d z", "z", "d"}, {"a b|b a|c d|d c z", "z", "c d"}, {"a b c|b a c|c a b", "b", "a b c"},
		// What is no path is read by no entry.
		{"d a|e d", "A", ""}, {"aa a|b aa", "a", "aa b"}, {"aa b|b x", "a", ""}, {"d a|e d", "a a a", "d e"},
	} {
		var store []impl.Entry
		if c.store != "" {
			store = linkedStore(strings.Split(c.store, "|")...)
		}
		changed := strings.Fields(c.changed)
		if got := impl.DirtyTargets(store, changed); !slices.Equal(got, strings.Fields(c.want)) {
			t.Errorf("DirtyTargets of %q = %q, not %q, with the reads %s", changed, got, c.want, c.store)
		}
		checkDirty(t, store, changed)
		checkDirty(t, store, append(changed, "", "a b", " ", "\xff", x60))
		checkReaders(t, store)
	}
}

func TestDirtyTargetsAtTheLimits(t *testing.T) {
	store := linkedStore("d a", "e d")
	for n := range 30 {
		for _, others := range []string{"none", "a", "", "A"} {
			changed := append(slices.Repeat([]string{others}, n), "a")
			want := "[d e]"
			if n+1 > 20 {
				want = "[]"
			}
			if got := impl.DirtyTargets(store, changed); fmt.Sprint(got) != want {
				t.Errorf("DirtyTargets with %d times %q before a = %q", n, others, got)
			}
		}
	}
	if got := impl.DirtyTargets(store, slices.Repeat([]string{"a"}, 100000)); len(got) != 0 {
		t.Errorf("DirtyTargets of very many paths = %q", got)
	}
	// Chains of 20 targets in both directions, a chain around, and targets that all read one another.
	var up, down, around, each []string
	for i := range 20 {
		next := string(rune('a' + (i+1)%20))
		up = append(up, string(rune('a'+i))+" "+string(rune('a'+i+1)))
		down = append(down, string(rune('b'+i))+" "+string(rune('a'+i)))
		around = append(around, string(rune('a'+i))+" "+next)
		line := string(rune('a' + i))
		for j := range 12 {
			line += " " + string(rune('a'+(i+1+j)%20))
		}
		each = append(each, line)
	}
	for _, lines := range [][]string{up, down, around, each} {
		store := linkedStore(lines...)
		if !impl.StoreValid(store) {
			t.Fatalf("the store is not valid: %q", lines)
		}
		checkReaders(t, store)
		targets := make([]string, 20)
		for i, e := range store {
			targets[i] = e.Target
		}
		if got := checkDirty(t, store, targets); len(got) < 19 {
			t.Errorf("only %q are dirty after changes of all targets", got)
		}
	}
	for from, lines := range map[string][]string{"u": up, "a": down, "b": around, "c": each} {
		if got := impl.DirtyTargets(linkedStore(lines...), []string{from}); len(got) != 20 {
			t.Errorf("only %q are dirty after a change of %s", got, from)
		}
	}
}

func TestDirtyTargetsOfRandomStores(t *testing.T) {
	r := rand.New(rand.NewSource(7))
	some := 0
	for range 3000 {
		var lines []string
		letters := 2 + r.Intn(24)
		for i := range min(20, letters) {
			line := string(rune('a' + i))
			for _, j := range r.Perm(letters)[:r.Intn(min(4, letters))] {
				if j != i {
					line += " " + string(rune('a'+j))
				}
			}
			if r.Intn(5) > 0 {
				lines = append(lines, line)
			}
		}
		store := linkedStore(lines...)
		var changed []string
		for range r.Intn(4) {
			changed = append(changed, string(rune('a'+r.Intn(letters))))
		}
		if got := checkDirty(t, store, changed); len(got) > 0 && len(got) < len(store) {
			some++
		}
		checkReaders(t, store)
	}
	if some < 1000 {
		t.Errorf("in only %d stores, some targets are dirty and others are not", some)
	}
}

func TestCompareEntries(t *testing.T) {
	for _, c := range []struct {
		a, b []impl.File
		want string
	}{
		{nil, nil, ""},
		{[]impl.File{file("a", "x")}, nil, "a"},
		{[]impl.File{file("a", "")}, nil, "a"},
		{[]impl.File{file("a", "x")}, []impl.File{file("a", "x")}, ""},
		{[]impl.File{file("a", "x")}, []impl.File{file("a", "y")}, "a"},
		{[]impl.File{file("a", "x")}, []impl.File{file("a", "")}, "a"},
		{[]impl.File{file("a", "x")}, []impl.File{file("a", "x ")}, "a"},
		{[]impl.File{file("a", "x")}, []impl.File{file("b", "x")}, "a b"},
		{[]impl.File{file("b", "x")}, []impl.File{file("a", "x")}, "a b"},
		{[]impl.File{file("a", "x"), file("b", "y")}, []impl.File{file("a", "y"), file("b", "x")}, "a b"},
		// The order of the reads does not matter.
		{[]impl.File{file("a", "x"), file("b", "y")}, []impl.File{file("b", "y"), file("a", "x")}, ""},
		{[]impl.File{file("c", "1"), file("a", "x"), file("b", "y")}, []impl.File{file("b", "y"), file("a", "x"), file("c", "1")}, ""},
		{[]impl.File{file("b", "y"), file("a", "x")}, []impl.File{file("a", "z"), file("b", "y")}, "a"},
		{[]impl.File{file("c", "1"), file("b", "y"), file("a", "x")}, []impl.File{file("b", "y")}, "a c"},
		{[]impl.File{file("z", "1"), file("b", "y")}, []impl.File{file("e", ""), file("b", "y"), file("a", "x")}, "a e z"},
		{[]impl.File{file("aa", "1"), file("b", "y")}, []impl.File{file("ab", ""), file("a", "x")}, "a aa ab b"},
	} {
		a, b := entry("d", "'x'", "x", c.a...), entry("d", "'x'", "x", c.b...)
		// Bodies and texts do not matter.
		for _, other := range []impl.Entry{b, entry("d", "'y'", "x", c.b...), entry("d", "'x'", "", c.b...), entry("d", "(@'a'@'b')", "1", c.b...)} {
			if got := impl.CompareEntries(a, other); !slices.Equal(got, strings.Fields(c.want)) {
				t.Errorf("CompareEntries of %q = %q, not %q", storeText([]impl.Entry{a, other}), got, c.want)
			}
			checkCompare(t, a, other)
		}
		elsewhere := entry("f", "'x'", "x", c.b...)
		if got := impl.CompareEntries(a, elsewhere); len(got) != 0 {
			t.Errorf("CompareEntries of entries with different targets = %q", got)
		}
	}
	for _, a := range validEntries() {
		for _, b := range validEntries() {
			if a.Target == b.Target {
				checkCompare(t, a, b)
			} else if got := impl.CompareEntries(a, b); len(got) != 0 {
				t.Errorf("CompareEntries of entries of %s and %s = %q", a.Target, b.Target, got)
			}
		}
	}
}

// Two entries may have 24 paths between them.
func TestCompareEntriesAtTheLimits(t *testing.T) {
	files := manyFiles(24)
	want := make([]string, 24)
	for i, f := range files {
		want[i] = f.Path
	}
	slices.Sort(want)
	random := rand.New(rand.NewSource(70))
	random.Shuffle(len(files), func(i, j int) { files[i], files[j] = files[j], files[i] })
	a, b := entry("zz", "''", "", files[:12]...), entry("zz", "''", "", files[12:]...)
	if got := checkCompare(t, a, b); !slices.Equal(got, want) {
		t.Errorf("two entries with 12 reads each differ at %q", got)
	}
	if got := checkCompare(t, a, a); len(got) != 0 {
		t.Errorf("an entry differs from itself at %q", got)
	}
	thirteen := entry("zz", "''", "", files[:13]...)
	if got := append(impl.CompareEntries(thirteen, b), impl.CompareEntries(b, thirteen)...); len(got) != 0 {
		t.Errorf("CompareEntries accepts 13 reads: %q", got)
	}
}

func TestCompareEntriesOfChangedEntries(t *testing.T) {
	none, some := 0, 0
	for _, e := range append(validEntries(), randomEntries(71, 100)...) {
		for _, changed := range changedEntries(e) {
			if changed.Target != e.Target || !impl.EntryValid(changed) {
				if got := append(impl.CompareEntries(e, changed), impl.CompareEntries(changed, e)...); len(got) != 0 {
					t.Fatalf("CompareEntries of %q and %q = %q", e, changed, got)
				}
				none++
			} else if len(checkCompare(t, e, changed)) > 0 {
				some++
			}
		}
	}
	if none < 200 || some < 500 {
		t.Errorf("only %d pairs cannot be compared, or %d differ", none, some)
	}
}

// The reads of the entries before and after an edit differ at the path that ReasonOf names, if the target still reads it.
func TestReasonsAfterEdits(t *testing.T) {
	r := rand.New(rand.NewSource(72))
	counts := map[string]int{}
	fine, compared := 0, 0
	for range 1500 {
		p := randomProject(r)
		_, store, _ := impl.UpdateAll(p, nil)
		for range 1 + r.Intn(3) {
			p = randomEdit(r, p)
		}
		for reason, n := range checkReasons(t, p, store) {
			counts[reason] += n
		}
		for _, path := range append(impl.ProjectPaths(p), randomPath(r)) {
			if checkPlan(t, p, store, path) {
				fine++
			}
		}
		checkReaders(t, store)
		for _, e := range store {
			reason, path := impl.ReasonOf(p, store, e.Target)
			made, ok := impl.MakeEntry(p, e.Target)
			if !ok {
				continue
			}
			differ := checkCompare(t, e, made)
			if reason == impl.ReasonCurrent && len(differ) != 0 {
				t.Fatalf("the entry of %s is current, but the reads %q differ from those of a new one in %q", e.Target, differ, projectText(p))
			}
			// The reads before the first changed one are the same ones, in the same order, and then this one is read again.
			if reason == impl.ReasonRead && !slices.Contains(differ, path) {
				t.Fatalf("ReasonOf of %s names %s, but only %q differ from a new entry in %q", e.Target, path, differ, projectText(p))
			}
			compared++
		}
	}
	for _, reason := range []string{"current", "new", "rule", "read"} {
		if counts[reason] < 300 {
			t.Errorf("the reason %s applies only %d times", reason, counts[reason])
		}
	}
	if fine < 3000 || compared < 3000 {
		t.Errorf("only %d paths can be updated, or %d entries compared", fine, compared)
	}
}

func TestReasonsWithRandomStores(t *testing.T) {
	r := rand.New(rand.NewSource(73))
	counts := map[string]int{}
	for range 2500 {
		p := randomProject(r)
		store := randomStore(r, p)
		for range r.Intn(3) {
			p = randomEdit(r, p)
		}
		for reason, n := range checkReasons(t, p, store) {
			counts[reason] += n
		}
		checkPlan(t, p, store, randomPath(r))
		checkReaders(t, store)
		checkDirty(t, store, []string{randomPath(r), randomPath(r), randomPath(r)})
	}
	for _, reason := range []string{"current", "new", "rule", "read"} {
		if counts[reason] < 300 {
			t.Errorf("the reason %s applies only %d times", reason, counts[reason])
		}
	}
}

// editSources returns p with some random changes of its sources only.
func editSources(r *rand.Rand, p impl.Project) impl.Project {
	for range 1 + r.Intn(3) {
		path := string(rune('a' + r.Intn(14)))
		edited, ok := impl.SetSource(p, file(path, []string{randomPath(r), strings.Repeat("a", r.Intn(61))}[r.Intn(2)]))
		if r.Intn(4) == 0 {
			edited, ok = impl.RemoveSource(p, path)
		}
		if ok {
			p = edited
		}
	}
	return p
}

// withoutReaders returns a store without the entry of target, if there is one, and those that read it directly or indirectly.
func withoutReaders(store []impl.Entry, target string) []impl.Entry {
	readers := append(dirtyModel(store, []string{target}), target)
	return slices.DeleteFunc(store, func(e impl.Entry) bool { return slices.Contains(readers, e.Target) })
}

// The second half of the promise: if all entries of an honest store can be reused, a change of sources makes only dirty targets stale.
// The store has an entry of each target that its entries read, because nothing else tells what such a target reads itself.
func TestOnlyDirtyTargetsBecomeStale(t *testing.T) {
	r := rand.New(rand.NewSource(74))
	became, spared, clean, several := 0, 0, 0, 0
	for range 8000 {
		p := randomProject(r)
		for _, rule := range p.Rules {
			// The first character is often the same after a change.
			if shorter, ok := impl.SetRule(p, impl.Rule{Target: rule.Target, Body: node(impl.ExprFirst, rule.Body)}); ok && r.Intn(2) == 0 {
				p = shorter
			}
		}
		_, store, _ := impl.UpdateAll(p, nil)
		if r.Intn(2) == 0 {
			p = randomEdit(r, p)
			_, store, _ = impl.UpdateAll(p, store)
			store, _ = impl.PruneStore(p, store)
		}
		for range r.Intn(3) {
			store = withoutReaders(store, randomPath(r))
		}
		for _, e := range store {
			if reason, _ := impl.ReasonOf(p, store, e.Target); reason != impl.ReasonCurrent || !honestModel(e) {
				t.Fatalf("%q is not honest or not current in %q", e, projectText(p))
			}
		}
		q := editSources(r, p)
		changed := impl.ChangedFiles(p.Sources, q.Sources)
		dirty := checkDirty(t, store, changed)
		stale := impl.StaleTargets(q, store)
		for _, e := range store {
			isDirty, isStale := slices.Contains(dirty, e.Target), slices.Contains(stale, e.Target)
			switch {
			case isStale && !isDirty:
				t.Fatalf("%s becomes stale, but only %q are dirty, with the store %q, in %q after %q", e.Target, dirty, storeText(store), projectText(q), projectText(p))
			case isStale && !readsAny(e, changed):
				several++
			case isStale:
				became++
			case isDirty:
				spared++
			default:
				clean++
			}
		}
	}
	if became < 500 || several < 150 || spared < 40 || clean < 10000 {
		t.Errorf("only %d and %d targets become stale, %d are dirty, but not stale, or %d are neither", became, several, spared, clean)
	}
}

// Where an entry between a source and a target is missing, nothing in the store says that the one reads the other.
func TestDirtyTargetsBehindMissingEntries(t *testing.T) {
	p := project("source a x", "rule c @'a'", "rule d @'c'")
	_, store, _ := impl.UpdateAll(p, nil)
	q, _ := impl.SetSource(p, file("a", "y"))
	for dropped, want := range map[string]string{"none": "[c d] [c d]", "c": "[] [c d]", "d": "[c] [c d]"} {
		list := slices.DeleteFunc(slices.Clone(store), func(e impl.Entry) bool { return e.Target == dropped })
		if got := fmt.Sprint(impl.DirtyTargets(list, []string{"a"}), impl.StaleTargets(q, list)); got != want {
			t.Errorf("without the entry of %s, the dirty and the stale targets are %s, not %s", dropped, got, want)
		}
	}
}

// checkNoReasons checks that the functions say that a project or a store is not valid.
func checkNoReasons(t *testing.T, what string, p impl.Project, store []impl.Entry) {
	t.Helper()
	for _, path := range []string{"", "a", "b", "c", "d", "t", "zzz", "none"} {
		if number, read := impl.ReasonOf(p, store, path); number != impl.ReasonNone || read != "" {
			t.Errorf("%s: ReasonOf of %q = %d, %q", what, path, number, read)
		}
		if plan, ok := impl.PlanUpdate(p, store, path); ok || len(plan) != 0 {
			t.Errorf("%s: PlanUpdate of %q = %q, %v", what, path, plan, ok)
		}
	}
}

func TestExplainWithInvalidArguments(t *testing.T) {
	plain := project(strings.Split(plainProject, "|")...)
	entries := storeOf(cEntry + "|" + dEntry)
	for what, p := range invalidProjects() {
		checkNoReasons(t, "project: "+what, p, nil)
		checkNoReasons(t, "project: "+what, p, entries)
	}
	for what, list := range invalidStores() {
		for _, p := range []impl.Project{plain, {}, project("source a x", "source b ", "rule c ''")} {
			checkNoReasons(t, "store: "+what, p, list)
		}
		for _, path := range []string{"a", "b", "c", "d", "x", "y", "z", "", "none"} {
			if got := append(impl.ReadersOf(list, path), impl.DirtyTargets(list, []string{path})...); len(got) != 0 {
				t.Errorf("store: %s: ReadersOf or DirtyTargets of %q = %q", what, path, got)
			}
		}
		if got := impl.DirtyTargets(list, nil); len(got) != 0 {
			t.Errorf("store: %s: DirtyTargets = %q", what, got)
		}
	}
	for what, e := range invalidEntries() {
		other := entry(e.Target, "''", "", file("a", "other"), file("k", ""))
		same := entry(e.Target, "''", "")
		if got := slices.Concat(impl.CompareEntries(e, other), impl.CompareEntries(other, e), impl.CompareEntries(e, same), impl.CompareEntries(e, e)); len(got) != 0 {
			t.Errorf("CompareEntries of an entry with this fault = %q: %s", got, what)
		}
	}
	for _, target := range append([]string{"none", "a", "b", "zz", "t ", x60}, invalidTargets...) {
		if number, read := impl.ReasonOf(plain, entries, target); number != impl.ReasonNone || read != "" {
			t.Errorf("ReasonOf of %q = %d, %q", target, number, read)
		}
		if got := append(impl.ReadersOf(entries, "zz"+target), impl.DirtyTargets(entries, []string{"zz" + target})...); len(got) != 0 {
			t.Errorf("ReadersOf or DirtyTargets of %q = %q", "zz"+target, got)
		}
	}
}

func TestExplainSharesNoMemory(t *testing.T) {
	list := sharingStore()
	p := sharingEngine(list)
	p.Rules = slices.Grow(p.Rules, 3)
	changed := []string{"c", "q", "a", "d"}[:2]
	before, entries, more := wholeText(p), wholeStoreText(list), slices.Clone(changed[:4])
	other := fullEntry()
	other.Target = "q"
	lists := func() [][]string {
		reason, path := impl.ReasonOf(p, list, "q")
		plan, _ := impl.PlanUpdate(p, list, "z")
		return [][]string{
			plan, impl.ReadersOf(list, "c"), impl.ReadersOf(list, "c"), impl.DirtyTargets(list, changed), impl.CompareEntries(list[1], other), impl.CompareEntries(other, list[1]),
			{reasonText(reason, path)},
		}
	}
	want := lists()
	for i, got := range lists() {
		if len(want[i]) == 0 {
			t.Errorf("list %d is empty", i)
		}
		spoilStrings(got)
	}
	for i, got := range lists() {
		if !slices.Equal(got, want[i]) {
			t.Errorf("list %d is %q at first and then %q", i, want[i], got)
		}
	}
	if wholeText(p) != before || wholeStoreText(list) != entries || !slices.Equal(changed[:4], more) || !sameEntry(other, entry("q", fullEntry().Body, fullEntry().Text, fullEntry().Reads...)) {
		t.Errorf("a function modifies its arguments: %q, %q, %q, %q", wholeText(p), wholeStoreText(list), changed[:4], other)
	}
}
