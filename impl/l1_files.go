package impl

import (
	"cmp"
	"iter"
	"maps"
	"slices"
	"strings"
)

// File is a file with its path and its text.
type File struct {
	Path string
	Text string
}

// Limits of files.
const (
	MaxPath  = 8
	MaxText  = 60
	MaxFiles = 12
)

// PathValid reports whether p is a path.
func PathValid(p string) bool {
	return len(p) >= 1 && len(p) <= MaxPath && bytesBetween(p, 'a', 'z')
}

// TextValid reports whether t is a text.
func TextValid(t string) bool {
	return len(t) <= MaxText && bytesBetween(t, ' ', '~')
}

// bytesBetween reports whether no byte of s is less than low or greater than high.
func bytesBetween(s string, low byte, high byte) bool {
	for i := range len(s) {
		if s[i] < low || s[i] > high {
			return false
		}
	}
	return true
}

// FilesValid reports whether list is a valid list of files.
func FilesValid(list []File) bool {
	if len(list) > MaxFiles {
		return false
	}
	for i, f := range list {
		if !PathValid(f.Path) || !TextValid(f.Text) {
			return false
		}
		if i > 0 && list[i-1].Path >= f.Path {
			return false
		}
	}
	return true
}

// FindFile returns the text of the file with a path.
func FindFile(list []File, path string) (string, bool) {
	// A map would not do here: the list may have a path twice, and the first file counts.
	for _, f := range list {
		if f.Path == path {
			return f.Text, true
		}
	}
	return "", false
}

// fileMap holds the text of each file of a valid list by its path.
type fileMap map[string]string

func newFileMap(list []File) fileMap {
	m := make(fileMap, len(list))
	for _, f := range list {
		m.put(f)
	}
	return m
}

func (m fileMap) put(f File) {
	m[f.Path] = f.Text
}

// remove reports whether there was a file with this path.
func (m fileMap) remove(path string) bool {
	_, found := m[path]
	delete(m, path)
	return found
}

// files returns the files in the order of their paths.
func (m fileMap) files() []File {
	list := make([]File, 0, len(m))
	for _, path := range slices.Sorted(maps.Keys(m)) {
		list = append(list, File{Path: path, Text: m[path]})
	}
	return list
}

// PutFile adds a file to a list, or replaces the one with its path.
func PutFile(list []File, f File) ([]File, bool) {
	if !FilesValid(list) {
		return nil, false
	}
	m := newFileMap(list)
	m.put(f)
	result := m.files()
	if !FilesValid(result) {
		return nil, false
	}
	return result, true
}

// RemoveFile removes the file with a path from a list.
func RemoveFile(list []File, path string) ([]File, bool) {
	if !FilesValid(list) {
		return nil, false
	}
	m := newFileMap(list)
	if !m.remove(path) {
		return nil, false
	}
	return m.files(), true
}

// FilesSame reports whether a and b are equal.
func FilesSame(a []File, b []File) bool {
	return slices.Equal(a, b)
}

// FormatFiles returns the text of a list of files.
func FormatFiles(list []File) string {
	if !FilesValid(list) {
		return ""
	}
	var text strings.Builder
	for _, f := range list {
		text.WriteString(f.Path)
		text.WriteByte(' ')
		text.WriteString(f.Text)
		text.WriteByte('\n')
	}
	return text.String()
}

// ParseFiles parses the text of a list of files.
func ParseFiles(text string) ([]File, bool) {
	var list []File
	for text != "" {
		line, rest, ended := strings.Cut(text, "\n")
		f, ok := parseFile(line)
		// Counting here keeps a long text from becoming a long list first.
		if !ended || !ok || len(list) == MaxFiles {
			return nil, false
		}
		list = append(list, f)
		text = rest
	}
	if !FilesValid(list) {
		return nil, false
	}
	return list, true
}

// parseFile parses a path, a space and a text, neither of which need be valid.
func parseFile(line string) (File, bool) {
	// No path contains a space, so the first one is the separator.
	path, text, found := strings.Cut(line, " ")
	return File{Path: path, Text: text}, found
}

// ChangedFiles returns the paths at which two lists of files differ.
func ChangedFiles(a []File, b []File) []string {
	if !FilesValid(a) || !FilesValid(b) {
		return nil
	}
	var paths []string
	for left, right := range merge(a, b, filePath) {
		if left != right {
			paths = append(paths, cmp.Or(left.Path, right.Path))
		}
	}
	return paths
}

func filePath(f File) string {
	return f.Path
}

// merge yields, for each key of two lists that are ascending by their keys, the elements with this key, in ascending order.
// Where a list has none, the zero value stands for it, which differs from every element if no key is empty.
func merge[T any](a []T, b []T, key func(T) string) iter.Seq2[T, T] {
	return func(yield func(T, T) bool) {
		i, j := 0, 0
		for i < len(a) || j < len(b) {
			order := compareFirst(a[i:], b[j:], key)
			var left, right T
			if order <= 0 {
				left = a[i]
				i++
			}
			if order >= 0 {
				right = b[j]
				j++
			}
			if !yield(left, right) {
				return
			}
		}
	}
}

// compareFirst compares the keys of the first elements of two lists, of which an empty one comes last.
func compareFirst[T any](a []T, b []T, key func(T) string) int {
	if len(a) == 0 {
		return 1
	}
	if len(b) == 0 {
		return -1
	}
	return strings.Compare(key(a[0]), key(b[0]))
}
