package tests

import (
	"fmt"
	"math/rand"
	"regexp"
	"slices"
	"strconv"
	"strings"
	"testing"

	"loop.example/buildengine/impl"
)

// node is short for the literal of an expression without a text.
func node(kind int, kids ...impl.Expr) impl.Expr {
	return impl.Expr{Kind: kind, Kids: kids}
}

// text is short for the literal of an ExprText.
func text(s string) impl.Expr {
	return impl.Expr{Kind: impl.ExprText, Text: s}
}

// read is short for the literal of an ExprRead of a named path.
func read(path string) impl.Expr {
	return node(impl.ExprRead, text(path))
}

// nest puts e below n operators of a kind.
func nest(kind int, n int, e impl.Expr) impl.Expr {
	for range n {
		e = node(kind, e)
	}
	return e
}

// texts returns n expressions without operands.
func texts(n int) []impl.Expr {
	var list []impl.Expr
	for i := range n {
		list = append(list, text(strings.Repeat("x", i%4)))
	}
	return list
}

// loop returns an expression that contains itself.
func loop(kind int) impl.Expr {
	kids := make([]impl.Expr, 1)
	kids[0] = impl.Expr{Kind: kind, Kids: kids}
	return kids[0]
}

// join20 has 20 nodes: itself, three joins of four texts, and a join of three.
func join20() impl.Expr {
	four := node(impl.ExprJoin, texts(4)...)
	return node(impl.ExprJoin, four, four, four, node(impl.ExprJoin, texts(3)...))
}

// markOf and marksAfter say how the text of a kind is written.
var markOf = map[int]string{1: "'", 2: "@", 3: "(", 4: "[", 5: "<", 6: ">", 7: "#"}
var marksAfter = []string{"=", "?", ":", "]"}

// textOf writes an expression as the table of the document says.
func textOf(e impl.Expr) string {
	s := markOf[e.Kind] + e.Text
	for i, kid := range e.Kids {
		s += textOf(kid)
		if e.Kind == impl.ExprSame {
			s += marksAfter[i]
		}
	}
	switch e.Kind {
	case impl.ExprText:
		s += "'"
	case impl.ExprJoin:
		s += ")"
	}
	return s
}

// copyExpr returns a copy that shares no memory with e.
func copyExpr(e impl.Expr) impl.Expr {
	kids := make([]impl.Expr, 0, len(e.Kids))
	for _, kid := range e.Kids {
		kids = append(kids, copyExpr(kid))
	}
	return impl.Expr{Kind: e.Kind, Text: e.Text, Kids: kids}
}

// size returns the number of nodes and the depth of an expression.
func size(e impl.Expr) (int, int) {
	nodes, depth := 1, 1
	for _, kid := range e.Kids {
		n, d := size(kid)
		nodes += n
		depth = max(depth, 1+d)
	}
	return nodes, depth
}

// randomExpr returns an expression of at most this depth, with the right number of operands everywhere.
func randomExpr(r *rand.Rand, depth int) impl.Expr {
	if depth == 1 || r.Intn(4) == 0 {
		words := []string{"", "a", "b", "ab", "mode", "12", "[a=b?c:d]", "@x", "(<>#)", " ", strings.Repeat("y", 20), strings.Repeat("~", 60), "X.y"}
		return text(words[r.Intn(len(words))])
	}
	kind := 2 + r.Intn(6)
	operands := 1
	switch kind {
	case impl.ExprJoin:
		operands = r.Intn(impl.MaxJoin + 1)
	case impl.ExprSame:
		operands = 4
	}
	e := node(kind)
	for range operands {
		e.Kids = append(e.Kids, randomExpr(r, depth-1))
	}
	return e
}

// withoutReads returns e with each ExprRead replaced by its operand.
func withoutReads(e impl.Expr) impl.Expr {
	if e.Kind == impl.ExprRead {
		return withoutReads(e.Kids[0])
	}
	e.Kids = slices.Clone(e.Kids)
	for i := range e.Kids {
		e.Kids[i] = withoutReads(e.Kids[i])
	}
	return e
}

// sampleExprs returns valid expressions: some of every kind and at the limits, and random ones.
func sampleExprs() []impl.Expr {
	list := []impl.Expr{
		text(""), text(" "), text("a b"), text(strings.Repeat("~", 60)), text("(@<>#[=?:])"),
		read("a"), read(""), read("A b"), node(impl.ExprRead, read("a")), node(impl.ExprJoin), join20(),
		node(impl.ExprJoin, texts(1)...), node(impl.ExprJoin, texts(4)...), node(impl.ExprSame, texts(4)...),
		node(impl.ExprSame, read("mode"), text("fast"), read("x"), node(impl.ExprJoin, read("x"), read("y"))),
		nest(impl.ExprRead, 5, text("a")), nest(impl.ExprFirst, 5, text("a")), nest(impl.ExprJoin, 5, text("a")), nest(impl.ExprJoin, 5, node(impl.ExprJoin)),
		node(impl.ExprSame, texts(3)[0], node(impl.ExprSame, texts(4)...), node(impl.ExprSame, texts(4)...), node(impl.ExprCount, node(impl.ExprRest, text("abc")))),
	}
	r := rand.New(rand.NewSource(2))
	for len(list) < 3000 {
		e := randomExpr(r, 1+r.Intn(7))
		if nodes, depth := size(e); nodes <= 20 && depth <= 6 {
			list = append(list, e)
		}
	}
	return list
}

// invalidExprs returns expressions that are not valid, by what is wrong with them.
func invalidExprs() map[string]impl.Expr {
	a := text("a")
	four := node(impl.ExprJoin, texts(4)...)
	list := map[string]impl.Expr{
		"zero value":         {},
		"kind 0 with a text": {Text: "a"},
		"kind 0 operand":     node(0, a),
		"kind 8":             node(8, a),
		"kind 8 no operand":  node(8),
		"kind 8 four":        node(8, texts(4)...),
		"negative kind":      node(-1, a),
		"large kind":         node(1<<40+1, a),
		"operand of kind 0":  node(impl.ExprJoin, a, impl.Expr{}),
		"operand of kind 9":  node(impl.ExprRead, node(9)),
		"apostrophe":         text("a'b"),
		"only apostrophe":    text("'"),
		"apostrophe at end":  text(strings.Repeat("x", 59) + "'"),
		"deep apostrophe":    node(impl.ExprJoin, a, read("'")),
		"text of 61":         text(strings.Repeat("x", 61)),
		"newline":            text("\n"),
		"DEL":                text("a\x7f"),
		"not ASCII":          text("\u00e9"),
		"deep bad text":      node(impl.ExprSame, a, a, a, text("\t")),
		"21 nodes":           node(impl.ExprJoin, four, four, four, four),
		"20 nodes and one":   node(impl.ExprFirst, join20()),
		"depth 7":            nest(impl.ExprFirst, 6, a),
		"depth 7 of joins":   nest(impl.ExprJoin, 6, node(impl.ExprJoin)),
		"depth 7 at the end": node(impl.ExprJoin, a, a, nest(impl.ExprRead, 5, a)),
		"very deep":          nest(impl.ExprRead, 100000, a),
		"very wide":          node(impl.ExprJoin, texts(1000000)...),
		"join of itself":     loop(impl.ExprJoin),
		"read of itself":     loop(impl.ExprRead),
	}
	for kind := impl.ExprRead; kind <= impl.ExprCount; kind++ {
		kids := texts(1)
		if kind == impl.ExprSame {
			kids = texts(4)
		}
		list[fmt.Sprint("a Text in kind ", kind)] = impl.Expr{Kind: kind, Text: "a", Kids: kids}
		list[fmt.Sprint("a space in kind ", kind)] = impl.Expr{Kind: kind, Text: " ", Kids: kids}
	}
	for kind := impl.ExprText; kind <= impl.ExprCount; kind++ {
		for n := range 8 {
			if !operandsFit(kind, n) {
				list[fmt.Sprint(n, " operands in kind ", kind)] = node(kind, texts(n)...)
				list[fmt.Sprint(n, " operands in kind ", kind, " below")] = node(impl.ExprJoin, a, node(kind, texts(n)...))
			}
		}
	}
	return list
}

func operandsFit(kind int, n int) bool {
	switch kind {
	case impl.ExprText:
		return n == 0
	case impl.ExprJoin:
		return n <= 4
	case impl.ExprSame:
		return n == 4
	}
	return n == 1
}

func TestExprValid(t *testing.T) {
	for _, e := range sampleExprs() {
		if !impl.ExprValid(e) {
			t.Errorf("ExprValid refuses %s", textOf(e))
		}
	}
	for what, e := range invalidExprs() {
		if impl.ExprValid(e) {
			t.Errorf("ExprValid accepts an expression with this fault: %s", what)
		}
	}
}

func TestExprValidNumbersOfOperands(t *testing.T) {
	for kind := -2; kind < 12; kind++ {
		for n := range 8 {
			want := kind >= 1 && kind <= 7 && operandsFit(kind, n)
			if got := impl.ExprValid(node(kind, texts(n)...)); got != want {
				t.Errorf("ExprValid of kind %d with %d operands = %v", kind, n, got)
			}
		}
	}
}

func TestExprValidTexts(t *testing.T) {
	for b := range 256 {
		want := b >= 32 && b <= 126 && b != '\''
		for _, s := range []string{string([]byte{byte(b)}), "a" + string([]byte{byte(b)}) + "a", strings.Repeat("a", 59) + string([]byte{byte(b)})} {
			if impl.ExprValid(text(s)) != want || impl.ExprValid(read(s)) != want {
				t.Errorf("ExprValid of the text %q = %v", s, !want)
			}
		}
	}
	for n := range 70 {
		if got := impl.ExprValid(text(strings.Repeat("a", n))); got != (n <= 60) {
			t.Errorf("ExprValid of a text of %d letters = %v", n, got)
		}
	}
}

func TestExprValidSizes(t *testing.T) {
	r := rand.New(rand.NewSource(20))
	met := map[[2]int]bool{}
	for range 20000 {
		e := randomExpr(r, 1+r.Intn(8))
		nodes, depth := size(e)
		met[[2]int{nodes, depth}] = true
		if got := impl.ExprValid(e); got != (nodes <= 20 && depth <= 6) {
			t.Fatalf("ExprValid of %d nodes and depth %d = %v", nodes, depth, got)
		}
	}
	for depth := 4; depth <= 6; depth++ {
		if !met[[2]int{20, depth}] || !met[[2]int{21, depth}] {
			t.Errorf("no expression of depth %d at the limit of the nodes was tried", depth)
		}
	}
	for kind := impl.ExprRead; kind <= impl.ExprCount; kind++ {
		for n := range 12 {
			if kind != impl.ExprSame && impl.ExprValid(nest(kind, n, text("a"))) != (n <= 5) {
				t.Errorf("ExprValid of %d operators of kind %d is wrong", n, kind)
			}
		}
	}
}

// changedExprs returns expressions that differ from e in one field of one node.
func changedExprs(e impl.Expr) []impl.Expr {
	list := []impl.Expr{{Kind: e.Kind + 1, Text: e.Text, Kids: e.Kids}, {Kind: -e.Kind - 1, Text: e.Text, Kids: e.Kids}, {Kind: e.Kind, Text: e.Text + " ", Kids: e.Kids}}
	list = append(list, impl.Expr{Kind: e.Kind, Text: e.Text, Kids: append(slices.Clone(e.Kids), impl.Expr{})})
	if len(e.Kids) > 0 {
		list = append(list, impl.Expr{Kind: e.Kind, Text: e.Text, Kids: e.Kids[1:]}, impl.Expr{Kind: e.Kind, Text: e.Text})
	}
	for i, kid := range e.Kids {
		for _, changed := range changedExprs(kid) {
			kids := slices.Clone(e.Kids)
			kids[i] = changed
			list = append(list, impl.Expr{Kind: e.Kind, Text: e.Text, Kids: kids})
		}
	}
	return list
}

func TestExprEqual(t *testing.T) {
	list := append(sampleExprs()[:400], impl.Expr{}, node(8, impl.Expr{}, text("'")), nest(9, 40, impl.Expr{Text: "\n"}), node(impl.ExprText, texts(30)...))
	for i, e := range list {
		if !impl.ExprEqual(e, e) || !impl.ExprEqual(e, copyExpr(e)) || !impl.ExprEqual(copyExpr(e), e) {
			t.Errorf("ExprEqual: %q differs from itself", textOf(e))
		}
		other := list[(i*7+1)%len(list)]
		if want := fmt.Sprint(copyExpr(e)) == fmt.Sprint(copyExpr(other)); impl.ExprEqual(e, other) != want {
			t.Errorf("ExprEqual of %v and %v = %v", e, other, !want)
		}
		for _, changed := range changedExprs(e) {
			if impl.ExprEqual(e, changed) || impl.ExprEqual(changed, e) {
				t.Errorf("ExprEqual: %v is equal to %v", e, changed)
			}
		}
	}
	if !impl.ExprEqual(impl.Expr{Kind: 3, Kids: []impl.Expr{}}, impl.Expr{Kind: 3}) {
		t.Error("ExprEqual: no operands differ from no operands")
	}
	if impl.ExprEqual(node(3, text("a"), text("b")), node(3, text("b"), text("a"))) || impl.ExprEqual(node(3, text("a"), text("a")), node(3, text("a"), text("b"))) {
		t.Error("ExprEqual ignores an operand")
	}
}

func TestExprEqualOfLargeExpressions(t *testing.T) {
	const n = 300000
	deep, other := nest(impl.ExprFirst, n, text("a")), nest(impl.ExprFirst, n, text("b"))
	if !impl.ExprEqual(deep, nest(impl.ExprFirst, n, text("a"))) || impl.ExprEqual(deep, other) || impl.ExprEqual(deep, deep.Kids[0]) {
		t.Error("ExprEqual is wrong for very deep expressions")
	}
	wide := node(impl.ExprJoin, texts(n)...)
	if !impl.ExprEqual(wide, node(impl.ExprJoin, texts(n)...)) || impl.ExprEqual(wide, node(impl.ExprJoin, texts(n+1)...)) {
		t.Error("ExprEqual is wrong for very wide expressions")
	}
}

// Expressions with 2 to the power of 100 operands, or without an end, still have equal fields at every level or not.
func TestExprEqualOfSharedMemory(t *testing.T) {
	double := func(e impl.Expr) impl.Expr {
		for range 100 {
			e = node(impl.ExprJoin, e, e)
		}
		return e
	}
	if !impl.ExprEqual(double(text("a")), double(text("a"))) || impl.ExprEqual(double(text("a")), double(text("b"))) {
		t.Error("ExprEqual is wrong for operands that share memory")
	}
	if e := loop(5); !impl.ExprEqual(e, e) || !impl.ExprEqual(e, loop(5)) || !impl.ExprEqual(e, node(5, node(5, e))) || impl.ExprEqual(e, loop(6)) || impl.ExprEqual(e, node(5, node(6, e))) {
		t.Error("ExprEqual is wrong for an expression that contains itself")
	}
}

func TestFormatExpr(t *testing.T) {
	for want, e := range map[string]impl.Expr{
		"''":                                  text(""),
		"'a b'":                               text("a b"),
		"@'x'":                                read("x"),
		"@@'x'":                               node(impl.ExprRead, read("x")),
		"()":                                  node(impl.ExprJoin),
		"('a')":                               node(impl.ExprJoin, text("a")),
		"('a'()@'b'#'c')":                     node(impl.ExprJoin, text("a"), node(impl.ExprJoin), read("b"), node(impl.ExprCount, text("c"))),
		"['a'='b'?'c':'d']":                   node(impl.ExprSame, text("a"), text("b"), text("c"), text("d")),
		"[@'mode'='fast'?@'x':(@'x'@'y')]":    node(impl.ExprSame, read("mode"), text("fast"), read("x"), node(impl.ExprJoin, read("x"), read("y"))),
		"<'a'":                                node(impl.ExprFirst, text("a")),
		">'a'":                                node(impl.ExprRest, text("a")),
		"#'a'":                                node(impl.ExprCount, text("a")),
		"<>#@()":                              node(impl.ExprFirst, node(impl.ExprRest, node(impl.ExprCount, node(impl.ExprRead, node(impl.ExprJoin))))),
		"[[''=''?'':'']=()?'[=?:]':'(@)<>#']": node(impl.ExprSame, node(impl.ExprSame, text(""), text(""), text(""), text("")), node(impl.ExprJoin), text("[=?:]"), text("(@)<>#")),
	} {
		if got := impl.FormatExpr(e); got != want || textOf(e) != want {
			t.Errorf("FormatExpr = %s, not %s", got, want)
		}
	}
	for _, e := range sampleExprs() {
		if got := impl.FormatExpr(e); got != textOf(e) {
			t.Errorf("FormatExpr = %s, not %s", got, textOf(e))
		}
	}
	for what, e := range invalidExprs() {
		if got := impl.FormatExpr(e); got != "" {
			t.Errorf("FormatExpr of an expression with this fault: %s = %q", what, got)
		}
	}
}

func TestExpressionsAreReadBack(t *testing.T) {
	for _, e := range sampleExprs() {
		s := impl.FormatExpr(e)
		if got, ok := impl.ParseExpr(s); !ok || !sameExpr(got, e) || !impl.ExprEqual(got, e) {
			t.Errorf("ParseExpr(%q) = %v, %v", s, got, ok)
		}
	}
}

func sameExpr(a, b impl.Expr) bool {
	return a.Kind == b.Kind && a.Text == b.Text && slices.EqualFunc(a.Kids, b.Kids, sameExpr)
}

// isText decides by reduction whether s is the text of a valid expression: a letter stands for an expression, A for one of depth 1, B for one of depth 2, and so on.
func isText(s string) bool {
	parts := strings.Split(s, "'")
	if len(parts)%2 == 0 {
		return false
	}
	var reduced strings.Builder
	for i, part := range parts {
		switch {
		case i%2 == 0 && letters.MatchString(part), i%2 == 1 && !printable.MatchString(part):
			return false
		case i%2 == 0:
			reduced.WriteString(part)
		default:
			reduced.WriteString("A")
		}
	}
	s = reduced.String()
	nodes := len(parts)/2 + len(operators.FindAllString(s, -1))
	if nodes > 20 {
		return false
	}
	for old := ""; s != old; {
		old = s
		s = operation.ReplaceAllStringFunc(s, func(part string) string {
			deepest := byte('A' - 1)
			for _, d := range letters.FindAllString(part, -1) {
				deepest = max(deepest, d[0])
			}
			return string(rune(deepest + 1))
		})
	}
	return len(s) == 1 && s >= "A" && s <= "F"
}

var (
	printable = regexp.MustCompile(`^[ -~]{0,60}$`)
	operators = regexp.MustCompile(`[@(\[<>#]`)
	operation = regexp.MustCompile(`[@<>#][A-Z]|\([A-Z]{0,4}\)|\[[A-Z]=[A-Z]\?[A-Z]:[A-Z]\]`)
	letters   = regexp.MustCompile(`[A-Z]`)
)

// checkParse checks that ParseExpr returns the expression whose text is s, exactly if there is one, and reports whether it does.
func checkParse(t *testing.T, s string) bool {
	t.Helper()
	e, ok := impl.ParseExpr(s)
	if ok != isText(s) {
		t.Fatalf("ParseExpr(%q) = %v, %v", s, e, ok)
	}
	if ok && (!impl.ExprValid(e) || textOf(e) != s || impl.FormatExpr(e) != s) {
		t.Fatalf("ParseExpr(%q) = %v, whose text is %q", s, e, impl.FormatExpr(e))
	}
	if !ok && (e.Kind != 0 || e.Text != "" || len(e.Kids) != 0) {
		t.Fatalf("ParseExpr(%q) returns false with %v", s, e)
	}
	return ok
}

const parseBytes = "'@()[]=?:<>#aAB \n"

func TestParseExprShortTexts(t *testing.T) {
	list := []string{""}
	accepted := 0
	for i := 0; i < len(list); i++ {
		if checkParse(t, list[i]) {
			accepted++
		}
		if len(list[i]) < 4 {
			for _, c := range parseBytes {
				list = append(list, list[i]+string(c))
			}
		}
	}
	if accepted < 200 {
		t.Errorf("ParseExpr accepts only %d short texts", accepted)
	}
}

// changedBytes returns texts that differ from s by one byte, which is one of others if it is not just left out, or by their length.
func changedBytes(s string, others string) []string {
	var variants []string
	for i := range len(s) + 1 {
		variants = append(variants, s[:i], s[i:])
		for _, c := range others {
			variants = append(variants, s[:i]+string(c)+s[i:])
			if i < len(s) {
				variants = append(variants, s[:i]+string(c)+s[i+1:])
			}
		}
		if i < len(s) {
			variants = append(variants, s[:i]+s[i+1:])
		}
	}
	return variants
}

func TestParseExprChangedTexts(t *testing.T) {
	accepted, refused := 0, 0
	for _, e := range sampleExprs()[:700] {
		for _, v := range changedBytes(textOf(e), parseBytes) {
			if checkParse(t, v) {
				accepted++
			} else {
				refused++
			}
		}
	}
	if accepted < 10000 || refused < 10000 {
		t.Errorf("ParseExpr accepts %d changed texts and refuses %d", accepted, refused)
	}
}

func TestParseExprSizes(t *testing.T) {
	r := rand.New(rand.NewSource(200))
	accepted, refused := 0, 0
	for range 5000 {
		if checkParse(t, textOf(randomExpr(r, 1+r.Intn(8)))) {
			accepted++
		} else {
			refused++
		}
	}
	if accepted < 500 || refused < 500 {
		t.Errorf("ParseExpr accepts %d random texts and refuses %d", accepted, refused)
	}
	for kind := impl.ExprRead; kind <= impl.ExprCount; kind++ {
		for n := range 12 {
			if kind != impl.ExprSame && checkParse(t, textOf(nest(kind, n, text("a")))) != (n <= 5) {
				t.Errorf("ParseExpr of %d operators of kind %d is wrong", n, kind)
			}
		}
	}
	if !checkParse(t, textOf(join20())) || checkParse(t, "<"+textOf(join20())) || !checkParse(t, "'"+strings.Repeat("x", 60)+"'") || checkParse(t, "'"+strings.Repeat("x", 61)+"'") {
		t.Error("ParseExpr is wrong at the limits")
	}
}

func TestParseExprInvalid(t *testing.T) {
	for _, s := range []string{
		"", " ", "'", "'a", "a'", "a", "'''", "''''", "'a''b'", "'a' ", " 'a'", "'a'\n", "'a'b", "'\n'", "'\x7f'", "'\u00e9'", "\x00",
		"@", "@a", "@ 'a'", "@'a", "@'a'@'b'", "@@@@@@'a'", "<", ">", "#", "<>", "# ''",
		"(", ")", "(()", "())", "( )", "('a' 'b')", "('a','b')", "('a''b''c''d''e')", "((((((()))))))", "(]", "('a'",
		"[", "]", "[]", "['a']", "['a'='b']", "['a'='b'?'c']", "['a'='b'?'c':]", "['a'='b'?'c':'d'", "['a'='b'?'c':'d')", "['a'='b':'c'?'d']",
		"['a'=='b'?'c':'d']", "['a'='b'?'c':'d''e']", "['a'='b'?'c':'d']]", "[='b'?'c':'d']", "{}", "$'a'", "&", "%",
	} {
		if checkParse(t, s) {
			t.Errorf("ParseExpr accepts %q", s)
		}
	}
	const n = 3000000
	for _, s := range []string{"@", "(", "[", "<", ">", "#", "'", "()", "''", "['a'=", "['a'='b'?", "['a'='b'?'c':", "@(", "a", ")"} {
		for _, long := range []string{strings.Repeat(s, n), "('a'" + strings.Repeat(s, n), strings.Repeat(s, n) + "'a'", strings.Repeat(s, n) + "'a'" + strings.Repeat(")", n)} {
			if e, ok := impl.ParseExpr(long); ok || e.Kind != 0 || e.Text != "" || len(e.Kids) != 0 {
				t.Errorf("ParseExpr accepts a text with %d times %q", n, s)
			}
		}
	}
}

func TestExprReads(t *testing.T) {
	for s, want := range map[string]string{
		"'a'":                               "",
		"()":                                "",
		"@'a'":                              "a",
		"@''":                               "",
		"@@'a'":                             "a",
		"@@@'a'":                            "a",
		"@('a')":                            "",
		"@<'ab'":                            "",
		"@(@'b''c')":                        "b",
		"(@'b'@'a'@'b')":                    "b a",
		"('a'@'b'@'a'@'b')":                 "b a",
		"(@'b'@<'a'@'A 1')":                 "b A 1",
		"<@'x'":                             "x",
		"(>@'x'#@'x'<@'y')":                 "x y",
		"[@'d'=@'c'?@'b':@'a']":             "d c b a",
		"['1'='1'?@'b':@'a']":               "b a",
		"[@'mode'='fast'?@'x':(@'x'@'y')]":  "mode x y",
		"(@@'z'@[@'q'='z'?'r':@'p'](@'p'))": "z q p",
	} {
		e, ok := impl.ParseExpr(s)
		if !ok {
			t.Errorf("ParseExpr refuses %s", s)
		}
		if got := impl.ExprReads(e); strings.Join(got, " ") != want {
			t.Errorf("ExprReads(%s) = %q", s, got)
		}
	}
	if got := impl.ExprReads(node(impl.ExprJoin, read(""), read(" "), read(""))); !slices.Equal(got, []string{"", " "}) {
		t.Errorf("ExprReads of paths that are not valid = %q", got)
	}
}

var namedRead = regexp.MustCompile(`@'[^']*'`)
var computedRead = regexp.MustCompile(`@[^']`)
var literal = regexp.MustCompile(`'[^']*'`)

// The text of an expression shows its reads, if what is written in the literals themselves does not disturb.
func TestExprReadsAndDynamicByText(t *testing.T) {
	found := map[bool]int{}
	for _, e := range sampleExprs() {
		plain := literal.ReplaceAllStringFunc(textOf(e), func(part string) string { return "'" + strconv.Itoa(len(part)) + "'" })
		var paths []string
		e, ok := impl.ParseExpr(plain)
		for _, part := range namedRead.FindAllString(plain, -1) {
			if path := strings.Trim(part, "@'"); !slices.Contains(paths, path) {
				paths = append(paths, path)
			}
		}
		if got := impl.ExprReads(e); !ok || !slices.Equal(got, paths) {
			t.Errorf("ExprReads(%s) = %q", plain, got)
		}
		dynamic := computedRead.MatchString(plain)
		found[dynamic]++
		if got := impl.ExprDynamic(e); got != dynamic {
			t.Errorf("ExprDynamic(%s) = %v", plain, got)
		}
	}
	if found[true] < 100 || found[false] < 100 {
		t.Errorf("the numbers of expressions that are dynamic and not are %v", found)
	}
}

func TestExprDynamic(t *testing.T) {
	for s, want := range map[string]bool{
		"'a'": false, "'@@'": false, "@'a'": false, "@'@('": false, "@@'a'": true, "@<'ab'": true, "@()": true, "@('a')": true, "(@'a'@'b')": false, "(@'a'@#'b')": true,
		"[@'m'='1'?@'a':@'b']": false, "['m'='1'?@'a':@>@'b']": true, "[@@'m'='1'?'a':'b']": true, "<#>@'a'": false, "<#>@>'a'": true, "@['a'='a'?'b':'c']": true,
	} {
		if e, ok := impl.ParseExpr(s); !ok || impl.ExprDynamic(e) != want {
			t.Errorf("ExprDynamic(%s) = %v", s, !want)
		}
	}
}

func TestExprReadsAndDynamicInvalid(t *testing.T) {
	list := invalidExprs()
	list["dynamic but too deep"] = node(impl.ExprJoin, node(impl.ExprRead, read("a")), nest(impl.ExprFirst, 6, read("b")))
	list["dynamic but with an invalid operand"] = node(impl.ExprJoin, node(impl.ExprRead, read("a")), impl.Expr{})
	for what, e := range list {
		if got := impl.ExprReads(e); len(got) != 0 {
			t.Errorf("ExprReads of an expression with this fault: %s = %q", what, got)
		}
		if impl.ExprDynamic(e) {
			t.Errorf("ExprDynamic accepts an expression with this fault: %s", what)
		}
		if s, ok := impl.ExprFree(e); ok || s != "" {
			t.Errorf("ExprFree of an expression with this fault: %s = %q, %v", what, s, ok)
		}
	}
}

func TestExprFree(t *testing.T) {
	x60 := "'" + strings.Repeat("x", 60) + "'"
	for s, want := range map[string]string{
		"''": "", "'a b'": "a b", x60: strings.Repeat("x", 60),
		"()": "", "('')": "", "('a')": "a", "('a''b''c''d')": "abcd", "('a'()'b')": "ab", "((('a')'b')'c')": "abc",
		"<''": "", "<'a'": "a", "<'abc'": "a", "<()": "", "<<'abc'": "a", "<' a'": " ",
		">''": "", ">'a'": "", ">'abc'": "bc", ">()": "", ">>>'abcd'": "d", ">>'a'": "", "<>'abc'": "b", "><'abc'": "",
		"#''": "0", "#'a'": "1", "#'0123456789'": "10", "#" + x60: "60", "##'0123456789'": "2", "#()": "0", "(#'abc'>'xy'<'q')": "3yq",
		"['a'='a'?'1':'2']": "1", "['a'='b'?'1':'2']": "2", "['a'='a '?'1':'2']": "2", "[''=()?'1':'2']": "1", "[#'ab'='2'?>'ab':<'ab']": "b", "['a'='A'?'1':'2']": "2",
		"[[''=''?'x':'y']='x'?['a'='b'?'1':'2']:'3']": "2",
		"(" + x60 + ")": strings.Repeat("x", 60), "(" + x60 + "()'')": strings.Repeat("x", 60), "(" + x60 + "<'')": strings.Repeat("x", 60), "(>" + x60 + "'y')": strings.Repeat("x", 59) + "y",
	} {
		e, ok := impl.ParseExpr(s)
		if got, free := impl.ExprFree(e); !ok || !free || got != want {
			t.Errorf("ExprFree(%s) = %q, %v", s, got, free)
		}
	}
	large := "(" + x60 + "'y')"
	for _, s := range []string{
		"@'a'", "@''", "@()", "<@'a'", "('a'@'b')", "[@'a'='b'?'c':'d']", "['a'=@'b'?'c':'d']", "['a'='a'?'c':@'d']", "['a'='b'?@'c':'d']",
		large, "<" + large, ">" + large, "#" + large, "(" + large + ")", "<(" + large + ")", "('y'" + x60 + ")", "(" + x60 + x60 + x60 + x60 + ")", "('a'<" + large + ")",
		"['a'='a'?'c':" + large + "]", "['a'='b'?" + large + ":'d']", "[" + large + "='b'?'c':'d']", "['a'=" + large + "?'c':'d']", "['a'='a'?'c':#" + large + "]",
	} {
		e, ok := impl.ParseExpr(s)
		if got, free := impl.ExprFree(e); !ok || free || got != "" {
			t.Errorf("ExprFree(%s) = %q, %v", s, got, free)
		}
	}
}

// freeModel evaluates all operands of an expression.
func freeModel(e impl.Expr) (string, bool) {
	var results []string
	for _, kid := range e.Kids {
		result, ok := freeModel(kid)
		if !ok {
			return "", false
		}
		results = append(results, result)
	}
	switch e.Kind {
	case impl.ExprText:
		return e.Text, true
	case impl.ExprJoin:
		joined := strings.Join(results, "")
		return joined, len(joined) <= 60
	case impl.ExprSame:
		if results[0] != results[1] {
			return results[3], true
		}
		return results[2], true
	case impl.ExprFirst:
		return regexp.MustCompile(`^.?`).FindString(results[0]), true
	case impl.ExprRest:
		return regexp.MustCompile(`^.?`).ReplaceAllString(results[0], ""), true
	case impl.ExprCount:
		return fmt.Sprint(len(results[0])), true
	}
	return "", false
}

func TestExprFreeAgainstModel(t *testing.T) {
	found := map[bool]int{}
	for _, e := range sampleExprs() {
		for _, e := range []impl.Expr{e, withoutReads(e)} {
			want, wanted := freeModel(e)
			if !wanted {
				want = ""
			}
			found[wanted]++
			if got, ok := impl.ExprFree(e); ok != wanted || got != want {
				t.Errorf("ExprFree(%s) = %q, %v", textOf(e), got, ok)
			}
		}
	}
	if found[true] < 500 || found[false] < 500 {
		t.Errorf("the numbers of expressions that are free and not are %v", found)
	}
}

// spoilExpr overwrites an expression, with its unused capacity.
func spoilExpr(e impl.Expr) {
	for i := range e.Kids {
		spoilExpr(e.Kids[i])
	}
	kids := e.Kids[:cap(e.Kids)]
	for i := range kids {
		kids[i] = text("spoilt")
	}
}

// spoilUnused overwrites the unused capacity of all lists of operands.
func spoilUnused(e impl.Expr) {
	for _, kid := range e.Kids {
		spoilUnused(kid)
	}
	for i := len(e.Kids); i < cap(e.Kids); i++ {
		e.Kids[:cap(e.Kids)][i] = text("spoilt")
	}
}

func TestExpressionsShareNoMemory(t *testing.T) {
	for _, e := range sampleExprs()[:200] {
		s := textOf(e)
		one, _ := impl.ParseExpr(s)
		two, _ := impl.ParseExpr(s)
		spoilUnused(one)
		if textOf(one) != s {
			t.Errorf("two lists of operands of ParseExpr(%s) share memory", s)
		}
		spoilExpr(one)
		if textOf(two) != s {
			t.Errorf("two results of ParseExpr(%s) share memory", s)
		}
		first, second := impl.ExprReads(e), impl.ExprReads(e)
		before := slices.Clone(second)
		for i := range first[:cap(first)] {
			first[:cap(first)][i] = "spoilt"
		}
		if !slices.Equal(second, before) {
			t.Errorf("two results of ExprReads(%s) share memory", s)
		}
	}
}

func TestExpressionsLeaveArgumentsAlone(t *testing.T) {
	// The operands beyond the length of the argument must stay as they are, too.
	memory := append(texts(6), read("a"), node(impl.ExprRead, read("b")))
	for n := range 5 {
		e := node(impl.ExprJoin, node(impl.ExprRead, text("a")), node(impl.ExprJoin, memory[:n]...))
		all, wanted := copyExpr(e), copyExpr(node(0, memory...))
		impl.ExprValid(e)
		impl.ExprEqual(e, all)
		impl.FormatExpr(e)
		impl.ExprReads(e)
		impl.ExprDynamic(e)
		impl.ExprFree(e)
		impl.ExprFree(e.Kids[1])
		if !sameExpr(e, all) || !sameExpr(node(0, memory...), wanted) {
			t.Errorf("a function modifies its argument: %v", e)
		}
	}
}
