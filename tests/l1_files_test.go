package tests

import (
	"maps"
	"regexp"
	"slices"
	"strings"
	"testing"

	"loop.example/buildengine/impl"
)

// file is short for the literal of a file.
func file(path, text string) impl.File {
	return impl.File{Path: path, Text: text}
}

// manyFiles returns n files whose paths are a, b, c and so on, and whose texts all have different lengths.
func manyFiles(n int) []impl.File {
	var list []impl.File
	for i := range n {
		list = append(list, file(string(rune('a'+i)), strings.Repeat("x", i)))
	}
	return list
}

// smallLists returns all valid lists with some of four paths, each with one of two texts.
func smallLists() [][]impl.File {
	lists := [][]impl.File{nil}
	for _, path := range []string{"a", "ab", "b", "ba"} {
		for _, list := range slices.Clone(lists) {
			for _, text := range []string{"", "x y"} {
				lists = append(lists, append(slices.Clone(list), file(path, text)))
			}
		}
	}
	return lists
}

// invalidLists returns lists that are not valid, by what is wrong with them.
func invalidLists() map[string][]impl.File {
	return map[string][]impl.File{
		"13 files":             manyFiles(impl.MaxFiles + 1),
		"descending":           {file("b", ""), file("a", "")},
		"descending at end":    {file("a", ""), file("c", ""), file("b", "")},
		"prefix after":         {file("ab", ""), file("a", "")},
		"twice":                {file("a", "x"), file("a", "y")},
		"same file twice":      {file("a", "x"), file("a", "x")},
		"empty path":           {file("", "x")},
		"path of 9":            {file("abcdefghi", "x")},
		"upper case":           {file("A", "x")},
		"digit":                {file("a1", "x")},
		"path with space":      {file("a b", "x")},
		"text of 61":           {file("a", strings.Repeat("x", impl.MaxText+1))},
		"text with newline":    {file("a", "x\n")},
		"text with tab":        {file("a", "\t")},
		"text with DEL":        {file("a", "\x7f")},
		"text not ASCII":       {file("a", "\u00e9")},
		"bad text at end":      {file("a", ""), file("b", "\x00")},
		"bad path at end":      {file("a", ""), file("b.c", "")},
		"path with newline":    {file("a\n", "")},
		"path not ASCII":       {file("\u00e9", "")},
		"path with high bytes": {file("\xff", "")},
	}
}

// modelOf returns the texts of a list by their paths.
func modelOf(list []impl.File) map[string]string {
	model := map[string]string{}
	for _, f := range list {
		model[f.Path] = f.Text
	}
	return model
}

func TestPathValidBytes(t *testing.T) {
	for b := range 256 {
		lower := b >= 'a' && b <= 'z'
		for _, p := range []string{string([]byte{byte(b)}), string([]byte{byte(b), 'a'}), string([]byte{'a', 'a', byte(b)}), string([]byte{'a', 'a', 'a', 'a', 'a', 'a', 'a', byte(b)})} {
			if impl.PathValid(p) != lower {
				t.Errorf("PathValid(%q) = %v", p, !lower)
			}
		}
	}
}

func TestPathValidLengths(t *testing.T) {
	for n := range 300 {
		if got := impl.PathValid(strings.Repeat("z", n)); got != (n >= 1 && n <= 8) {
			t.Errorf("PathValid of %d letters = %v", n, got)
		}
	}
}

func TestTextValidBytes(t *testing.T) {
	for b := range 256 {
		printable := b >= 32 && b <= 126
		for _, s := range []string{string([]byte{byte(b)}), string([]byte{byte(b), ' '}), strings.Repeat("~", 59) + string([]byte{byte(b)})} {
			if impl.TextValid(s) != printable {
				t.Errorf("TextValid(%q) = %v", s, !printable)
			}
		}
	}
}

func TestTextValidLengths(t *testing.T) {
	for n := range 400 {
		if got := impl.TextValid(strings.Repeat(" ", n)); got != (n <= 60) {
			t.Errorf("TextValid of %d spaces = %v", n, got)
		}
	}
}

func TestFilesValid(t *testing.T) {
	for n := range impl.MaxFiles + 3 {
		if got := impl.FilesValid(manyFiles(n)); got != (n <= 12) {
			t.Errorf("FilesValid of %d files = %v", n, got)
		}
	}
	valid := []impl.File{file("a", " "), file("aa", strings.Repeat("~", 60)), file("ab", ""), file("abcdefgh", "'"), file("b", "a")}
	if !impl.FilesValid(valid) || !impl.FilesValid([]impl.File{}) {
		t.Error("FilesValid refuses a valid list")
	}
	for _, list := range smallLists() {
		if !impl.FilesValid(list) {
			t.Errorf("FilesValid refuses %q", list)
		}
	}
	for what, list := range invalidLists() {
		if impl.FilesValid(list) {
			t.Errorf("FilesValid accepts a list with this fault: %s", what)
		}
	}
}

func TestFindFileInAnyList(t *testing.T) {
	list := append(manyFiles(20), file("zz", "1"), file("b", "later"), file("", "empty"), file("A\n", "odd"), file("zz", "2"), file("y", "b\n"))
	for path, want := range map[string]string{"a": "", "b": "x", "t": strings.Repeat("x", 19), "zz": "1", "": "empty", "A\n": "odd", "y": "b\n"} {
		if text, ok := impl.FindFile(list, path); !ok || text != want {
			t.Errorf("FindFile(%q) = %q, %v", path, text, ok)
		}
	}
	for _, path := range []string{"x", "zzz", "Zz", "A", "a ", "later", "bb", "\x00"} {
		if text, ok := impl.FindFile(list, path); ok || text != "" {
			t.Errorf("FindFile(%q) = %q, %v", path, text, ok)
		}
	}
	for _, path := range []string{"", "a"} {
		if text, ok := impl.FindFile(nil, path); ok || text != "" {
			t.Errorf("FindFile(nil, %q) = %q, %v", path, text, ok)
		}
	}
}

// checkFiles reports whether list is the valid list of model, as FindFile and FilesValid see it.
func checkFiles(t *testing.T, what string, list []impl.File, model map[string]string) {
	t.Helper()
	if !impl.FilesValid(list) || !maps.Equal(modelOf(list), model) {
		t.Errorf("%s: the list is %q, not the valid one of %q", what, list, model)
	}
	for _, path := range []string{"a", "aa", "ab", "b", "ba", "z"} {
		text, ok := impl.FindFile(list, path)
		want, has := model[path]
		if ok != has || text != want {
			t.Errorf("%s: FindFile(%q) = %q, %v", what, path, text, ok)
		}
	}
}

func TestFilesThatArePutAreFound(t *testing.T) {
	for _, list := range smallLists() {
		for _, f := range []impl.File{file("a", "1"), file("aa", ""), file("ab", "x y"), file("b", ""), file("ba", " "), file("z", strings.Repeat("z", 60))} {
			model := modelOf(list)
			model[f.Path] = f.Text
			more, ok := impl.PutFile(list, f)
			if !ok {
				t.Errorf("PutFile(%q, %q) returns false", list, f)
			}
			checkFiles(t, "PutFile", more, model)
		}
	}
}

func TestFilesThatAreRemovedAreNotFound(t *testing.T) {
	for _, list := range smallLists() {
		for _, path := range []string{"a", "aa", "ab", "b", "ba", "z"} {
			model := modelOf(list)
			_, has := model[path]
			delete(model, path)
			less, ok := impl.RemoveFile(list, path)
			if ok != has || !ok && len(less) != 0 {
				t.Errorf("RemoveFile(%q, %q) = %q, %v", list, path, less, ok)
			}
			if ok {
				checkFiles(t, "RemoveFile", less, model)
			}
		}
	}
}

func TestRemoveFileUndoesPutFile(t *testing.T) {
	for _, list := range smallLists() {
		for _, path := range []string{"aa", "az", "c"} {
			more, ok := impl.PutFile(list, file(path, "new"))
			less, found := impl.RemoveFile(more, path)
			if !ok || !found || !impl.FilesSame(list, less) {
				t.Errorf("putting %q and removing it makes %q of %q", path, less, list)
			}
		}
	}
}

func TestPutFileAtTheLimit(t *testing.T) {
	full := manyFiles(impl.MaxFiles)
	if more, ok := impl.PutFile(full, file("z", "")); ok || len(more) != 0 {
		t.Errorf("PutFile adds a file to a full list: %q", more)
	}
	for _, path := range []string{"a", "f", "l"} {
		model := modelOf(full)
		model[path] = "new"
		same, ok := impl.PutFile(full, file(path, "new"))
		if !ok || len(same) != impl.MaxFiles {
			t.Errorf("PutFile replacing %q in a full list = %q, %v", path, same, ok)
		}
		checkFiles(t, "PutFile", same, model)
	}
	last, ok := impl.PutFile(full[:11], file("zzzzzzzz", ""))
	if !ok || !impl.FilesSame(last[:11], full[:11]) || len(last) != 12 || last[11] != file("zzzzzzzz", "") {
		t.Errorf("PutFile of the last possible file = %q, %v", last, ok)
	}
	less, ok := impl.RemoveFile(full, "a")
	if !ok || !impl.FilesSame(less, full[1:]) {
		t.Errorf("RemoveFile from a full list = %q, %v", less, ok)
	}
}

func TestPutFileInvalid(t *testing.T) {
	list := []impl.File{file("a", "x"), file("c", "y")}
	for _, f := range []impl.File{file("", "x"), file("B", "x"), file("abcdefghi", "x"), file("b ", "x"), file("b", "\n"), file("b", strings.Repeat("x", 61)), file("a", "\x7f"), file("c", "\u00e9")} {
		if more, ok := impl.PutFile(list, f); ok || len(more) != 0 {
			t.Errorf("PutFile of %q = %q, %v", f, more, ok)
		}
		if more, ok := impl.PutFile(nil, f); ok || len(more) != 0 {
			t.Errorf("PutFile of %q into no files = %q, %v", f, more, ok)
		}
	}
	for what, bad := range invalidLists() {
		if more, ok := impl.PutFile(bad, file("a", "x")); ok || len(more) != 0 {
			t.Errorf("PutFile into a list with this fault: %s = %q, %v", what, more, ok)
		}
	}
}

// Replacing the file at fault would make the result valid, but the list is not.
func TestPutFileDoesNotMendAList(t *testing.T) {
	for _, bad := range [][]impl.File{{file("a", "\n")}, {file("a", "x"), file("a", "y")}, {file("b", ""), file("a", "")}} {
		if more, ok := impl.PutFile(bad, file("a", "fine")); ok || len(more) != 0 {
			t.Errorf("PutFile into %q = %q, %v", bad, more, ok)
		}
	}
}

func TestRemoveFileInvalid(t *testing.T) {
	for what, bad := range invalidLists() {
		for _, f := range bad {
			if less, ok := impl.RemoveFile(bad, f.Path); ok || len(less) != 0 {
				t.Errorf("RemoveFile of %q from a list with this fault: %s = %q, %v", f.Path, what, less, ok)
			}
		}
	}
	for _, path := range []string{"", "A", "b", "aa", "a ", "abcdefghi"} {
		if less, ok := impl.RemoveFile([]impl.File{file("a", "x")}, path); ok || len(less) != 0 {
			t.Errorf("RemoveFile of %q = %q, %v", path, less, ok)
		}
		if less, ok := impl.RemoveFile(nil, path); ok || len(less) != 0 {
			t.Errorf("RemoveFile of %q from no files = %q, %v", path, less, ok)
		}
	}
}

func TestFilesSame(t *testing.T) {
	lists := smallLists()
	for i, a := range lists {
		for j, b := range lists {
			if impl.FilesSame(a, slices.Clone(b)) != (i == j) {
				t.Errorf("FilesSame(%q, %q) = %v", a, b, i != j)
			}
		}
	}
	odd := []impl.File{file("b", "\n"), file("A", ""), file("b", "2")}
	if !impl.FilesSame(odd, slices.Clone(odd)) || impl.FilesSame(odd, []impl.File{odd[1], odd[0], odd[2]}) || impl.FilesSame(odd, odd[:2]) || impl.FilesSame(odd[:2], odd) {
		t.Error("FilesSame is wrong for lists that are not valid")
	}
	if !impl.FilesSame(nil, []impl.File{}) || !impl.FilesSame(manyFiles(40), manyFiles(40)) {
		t.Error("FilesSame is wrong for empty or long lists")
	}
}

func TestFormatFiles(t *testing.T) {
	for _, c := range []struct {
		list []impl.File
		want string
	}{
		{nil, ""},
		{[]impl.File{file("a", "x y"), file("b", "")}, "a x y\nb \n"},
		{[]impl.File{file("a", "")}, "a \n"},
		{[]impl.File{file("a", " "), file("abcdefgh", "  b  ")}, "a  \nabcdefgh   b  \n"},
	} {
		if got := impl.FormatFiles(c.list); got != c.want {
			t.Errorf("FormatFiles(%q) = %q", c.list, got)
		}
	}
	for what, list := range invalidLists() {
		if got := impl.FormatFiles(list); got != "" {
			t.Errorf("FormatFiles of a list with this fault: %s = %q", what, got)
		}
	}
}

func TestParseFilesReadsFormatFiles(t *testing.T) {
	lists := append(smallLists(), manyFiles(impl.MaxFiles), []impl.File{file("a", " "), file("b", " x"), file("c", "x "), file("zzzzzzzz", strings.Repeat("~", 60))})
	for _, list := range lists {
		got, ok := impl.ParseFiles(impl.FormatFiles(list))
		if !ok || !impl.FilesSame(got, list) {
			t.Errorf("ParseFiles(%q) = %q, %v", impl.FormatFiles(list), got, ok)
		}
	}
}

func TestParseFilesInvalid(t *testing.T) {
	long := impl.FormatFiles(manyFiles(impl.MaxFiles))
	for _, text := range []string{
		"a", "a\n", "a ", "a x", "\n", " \n", " x\n", "a x\n\n", "\na x\n", "a x\nb", "a x\nb y", "a x\nb\n",
		"b 1\na 2\n", "a 1\na 1\n", "a 1\na 2\n", "ab \na \n", "A x\n", "a1 x\n", "abcdefghi x\n", "\u00e9 x\n",
		"a \x7f\n", "a \x1f\n", "a \u00e9\n", "a x\r\n", "a x\x00\n", "a\tx\n", "a " + strings.Repeat("x", 61) + "\n",
		long + "m \n", long + "\n", long + "m", long[:len(long)-1], strings.Repeat("a x\n", 10000), strings.Repeat("\n", 10000),
	} {
		if list, ok := impl.ParseFiles(text); ok || len(list) != 0 {
			t.Errorf("ParseFiles(%q) = %q, %v", text, list, ok)
		}
	}
}

// Every text of a few bytes is either refused or the text of the result, and it is the text of a list if its lines are.
func TestParseFilesShortTexts(t *testing.T) {
	lines := regexp.MustCompile(`^([a-z]{1,8} [ -~]{0,60}\n)*$`)
	texts := []string{""}
	for first := 0; first < len(texts); first++ {
		text := texts[first]
		list, ok := impl.ParseFiles(text)
		ascending := slices.IsSortedFunc(list, func(a, b impl.File) int { return strings.Compare(a.Path, b.Path) })
		if ok && (!ascending || impl.FormatFiles(list) != text) || !ok && len(list) != 0 {
			t.Fatalf("ParseFiles(%q) = %q, %v", text, list, ok)
		}
		var paths []string
		for line := range strings.Lines(text) {
			path, _, _ := strings.Cut(line, " ")
			paths = append(paths, path)
		}
		distinct := slices.Compact(slices.Sorted(slices.Values(paths)))
		if want := lines.MatchString(text) && slices.Equal(distinct, paths); ok != want {
			t.Fatalf("ParseFiles(%q) = %q, %v", text, list, ok)
		}
		if len(text) < 7 {
			for _, c := range "abA \n" {
				texts = append(texts, text+string(c))
			}
		}
	}
}

func TestChangedFiles(t *testing.T) {
	lists := smallLists()
	for _, a := range lists {
		for _, b := range lists {
			var want []string
			for _, path := range []string{"a", "ab", "b", "ba"} {
				left, inLeft := modelOf(a)[path]
				right, inRight := modelOf(b)[path]
				if inLeft != inRight || left != right {
					want = append(want, path)
				}
			}
			if got := impl.ChangedFiles(a, b); !slices.Equal(got, want) {
				t.Errorf("ChangedFiles(%q, %q) = %q", a, b, got)
			}
		}
	}
	apart := []impl.File{file("abcdefgh", ""), file("n", ""), file("z", "")}
	if got := impl.ChangedFiles(manyFiles(impl.MaxFiles), apart); strings.Join(got, " ") != "a abcdefgh b c d e f g h i j k l n z" {
		t.Errorf("ChangedFiles of lists without a common path = %q", got)
	}
}

func TestChangedFilesInvalid(t *testing.T) {
	fine := []impl.File{file("a", "x"), file("q", "y")}
	for what, bad := range invalidLists() {
		for _, other := range [][]impl.File{nil, fine, bad} {
			if len(impl.ChangedFiles(bad, other)) != 0 || len(impl.ChangedFiles(other, bad)) != 0 {
				t.Errorf("ChangedFiles returns paths for a list with this fault: %s", what)
			}
		}
	}
}

// spoil overwrites a result, with its unused capacity.
func spoil(list []impl.File) {
	list = list[:cap(list)]
	for i := range list {
		list[i] = file("spoilt", "spoilt")
	}
}

func TestFilesLeaveArgumentsAlone(t *testing.T) {
	memory := manyFiles(9)
	before := slices.Clone(memory)
	// The files beyond the length of the argument must stay as they are, too.
	list := memory[:4]
	check := func(what string) {
		t.Helper()
		if !slices.Equal(memory, before) {
			t.Fatalf("%s modifies its argument: %q", what, memory)
		}
	}
	for _, f := range []impl.File{file("a", "new"), file("aa", "new"), file("d", "new"), file("dd", "new"), file("A", "")} {
		more, _ := impl.PutFile(list, f)
		again, _ := impl.PutFile(list, f)
		copied := slices.Clone(again)
		spoil(more)
		check("PutFile")
		if !slices.Equal(again, copied) {
			t.Errorf("two results of PutFile share memory: %q", again)
		}
	}
	for _, path := range []string{"a", "b", "d", "z"} {
		less, _ := impl.RemoveFile(list, path)
		again, _ := impl.RemoveFile(list, path)
		copied := slices.Clone(again)
		spoil(less)
		check("RemoveFile")
		if !slices.Equal(again, copied) {
			t.Errorf("two results of RemoveFile share memory: %q", again)
		}
	}
	impl.FilesValid(list)
	impl.FindFile(list, "c")
	impl.FilesSame(list, memory)
	impl.FormatFiles(list)
	impl.ChangedFiles(list, memory[2:5])
	check("a function without files as its result")
}
