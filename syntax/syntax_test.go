package syntax_test

import (
	"testing"
)

// TestTerms reads each kind of term.
func TestTerms(t *testing.T) {
	for s, tree := range map[string]string{
		".": ".", "..": "..", ".a": "index(. text(part:a))", ".if": "index(. text(part:if))", `."a"`: "index(. text(part:a))", `. "a b"`: `index(. text(part:"a b"))`, `.""`: "index(. text)", `."a\(1)"`: "index(. text(part:a num:1))",
		// Numbers, as they stand.
		"0": "num:0", "1.50": "num:1.50", "1e3": "num:1e3", "2E-07": "num:2E-07", "0.0e99999": "num:0.0e99999", "1e10000": "num:1e10000",
		// Texts.
		`""`: "text", `"a"`: "text(part:a)", `"\u0061\n"`: `text(part:"a\n")`, `"\(1)"`: "text(num:1)", `"\(1)\(2)"`: "text(num:1 num:2)", `"a\(1)b\(2)c"`: "text(part:a num:1 part:b num:2 part:c)", `" \( 1 , 2 ) "`: `text(part:" " comma(num:1 num:2) part:" ")`, `"\("a\("b")")"`: "text(text(part:a text(part:b)))", `"\(1|2)"`: "text(pipe(num:1 num:2))", `"|"`: "text(part:|)", `"if"`: "text(part:if)", `"."`: "text(part:.)",
		// Formats.
		"@csv": "format:@csv", `@csv "a\(1)"`: "text:@csv(part:a num:1)", `@json""`: "text:@json", "@json, @text": "comma(format:@json format:@text)", "@if": "format:@if", `@json | "a"`: "pipe(format:@json text(part:a))", `@json."a"`: "index(format:@json text(part:a))", `@json "a"."b"`: "index(text:@json(part:a) text(part:b))",
		// Brackets.
		"(1)": "num:1", "((1, 2))": "comma(num:1 num:2)", "(def f: 1; f)": "def:f(num:1 call:f)", "[]": "arr", "[1]": "arr(num:1)", "[1, 2 | 3]": "arr(pipe(comma(num:1 num:2) num:3))", "[[]]": "arr(arr)", "{}": "obj",
		// Names.
		"$x": "var:x", "$if": "var:if", "f": "call:f", "f(1)": "call:f(num:1)", "f(1; 2, 3; .)": "call:f(num:1 comma(num:2 num:3) .)", "f (1)": "call:f(num:1)", "f(1 | 2)": "call:f(pipe(num:1 num:2))", "f(g(1); h)": "call:f(call:g(num:1) call:h)", "null": "call:null", "ending": "call:ending", "f(def g: 1; g; 2)": "call:f(def:g(num:1 call:g) num:2)",
		"break $f": "break:f", "break $if | 1": "pipe(break:if num:1)", "break $f.a": "index(break:f text(part:a))",
	} {
		right(t, s, tree)
	}
}

// TestObjects reads each kind of entry.
func TestObjects(t *testing.T) {
	for s, tree := range map[string]string{
		"{a: 1}": "obj(entry(text(part:a) num:1))", "{if: 3}": "obj(entry(text(part:if) num:3))", "{and: 1, or: 2}": "obj(entry(text(part:and) num:1) entry(text(part:or) num:2))", `{"a": 1}`: "obj(entry(text(part:a) num:1))", `{"": 1}`: "obj(entry(text num:1))", `{"a\(1)": 2}`: "obj(entry(text(part:a num:1) num:2))", "{(1, 2): 3}": "obj(entry(comma(num:1 num:2) num:3))", "{(def f: 1; f): 3}": "obj(entry(def:f(num:1 call:f) num:3))",
		// Without a value.
		"{a}": "obj(entry(text(part:a) index(. text(part:a))))", "{def}": "obj(entry(text(part:def) index(. text(part:def))))", `{"a b"}`: `obj(entry(text(part:"a b") index(. text(part:"a b"))))`, `{""}`: "obj(entry(text index(. text)))", `{"\(1)"}`: "obj(entry(text(num:1) index(. text(num:1))))", "{$x}": "obj(entry(text(part:x) var:x))", "{$end}": "obj(entry(text(part:end) var:end))", `{"\({"a"})"}`: "obj(entry(text(obj(entry(text(part:a) index(. text(part:a))))) index(. text(obj(entry(text(part:a) index(. text(part:a))))))))",
		// A value is all up to a comma or a pipe.
		"{a: 1 // 2}": "obj(entry(text(part:a) op://(num:1 num:2)))", "{a: 1 = 2 or 3}": "obj(entry(text(part:a) op:=(num:1 op:or(num:2 num:3))))", "{a: -1 + .b}": "obj(entry(text(part:a) op:+(neg(num:1) index(. text(part:b)))))", "{a: (1, 2)}": "obj(entry(text(part:a) comma(num:1 num:2)))", "{a: {b: {}}}": "obj(entry(text(part:a) obj(entry(text(part:b) obj))))", "{a: 1 as $x | 2, 3}": "obj(entry(text(part:a) bind(num:1 pvar:x comma(num:2 num:3))))", "{a: reduce . as $x (1; 2), b}": "obj(entry(text(part:a) reduce(. pvar:x num:1 num:2)) entry(text(part:b) index(. text(part:b))))",
	} {
		right(t, s, tree)
	}
}

// TestSuffixes reads each kind of suffix.
func TestSuffixes(t *testing.T) {
	for s, tree := range map[string]string{
		".a.b": "index(index(. text(part:a)) text(part:b))", ".a .b": "index(index(. text(part:a)) text(part:b))", ". .a": "index(. text(part:a))", "1.a": "index(num:1 text(part:a))", "...a": "index(.. text(part:a))", "f.a": "index(call:f text(part:a))", "$x.a": "index(var:x text(part:a))", `"b".a`: "index(text(part:b) text(part:a))", "{}.a": "index(obj text(part:a))", "(1).a": "index(num:1 text(part:a))", "f(1).a": "index(call:f(num:1) text(part:a))", "if . then 1 end.a": "index(if(. num:1 none) text(part:a))", "reduce . as $x (1; 2).a": "index(reduce(. pvar:x num:1 num:2) text(part:a))", "foreach . as $x (1; 2)[]": "each(foreach(. pvar:x num:1 num:2 none))",
		`.a."b"`: "index(index(. text(part:a)) text(part:b))", `.a. "b"`: "index(index(. text(part:a)) text(part:b))", `. . "b"`: "index(. text(part:b))", `."a"."b"`: "index(index(. text(part:a)) text(part:b))", `$x."a\(1)"`: "index(var:x text(part:a num:1))",
		".[]": "each(.)", ". []": "each(.)", ".a[]": "each(index(. text(part:a)))", ".[][]": "each(each(.))", ".a.[]": "each(index(. text(part:a)))", "[][]": "each(arr)", "..[]": "each(..)",
		".[1]": "index(. num:1)", ".[1, 2]": "index(. comma(num:1 num:2))", ".[1 | 2]": "index(. pipe(num:1 num:2))", `.["a"]`: "index(. text(part:a))", ".a.[0]": "index(index(. text(part:a)) num:0)", ". . [0]": "index(. num:0)", ".[.[0]]": "index(. index(. num:0))", "[1][0]": "index(arr(num:1) num:0)", "1[0]": "index(num:1 num:0)", "f [0]": "index(call:f num:0)", ".[def f: 1; f]": "index(. def:f(num:1 call:f))",
		".[1:]": "slice(. num:1 none)", ".[:2]": "slice(. none num:2)", ".[1:2]": "slice(. num:1 num:2)", ".a.[1:]": "slice(index(. text(part:a)) num:1 none)", ".[1, 2 : 3 | 4]": "slice(. comma(num:1 num:2) pipe(num:3 num:4))", ".[{a: 1}:2]": "slice(. obj(entry(text(part:a) num:1)) num:2)", ".[.[1:]:]": "slice(. slice(. num:1 none) none)", ".[:-1]": "slice(. none neg(num:1))", ".[1:][:2]": "slice(slice(. num:1 none) none num:2)",
		".?": "try(.)", ".a?": "try(index(. text(part:a)))", ".??": "try(try(.))", ".a?.b": "index(try(index(. text(part:a))) text(part:b))", ".[]?": "try(each(.))", ".? ?": "try(try(.))", ".?//1": "op://(try(.) num:1)", "f?": "try(call:f)",
	} {
		right(t, s, tree)
	}
}

// TestWords reads what begins with words of the language.
func TestWords(t *testing.T) {
	for s, tree := range map[string]string{
		"if 1 then 2 end": "if(num:1 num:2 none)", "if 1 then 2 else 3 end": "if(num:1 num:2 num:3)", "if 1 then 2 elif 3 then 4 end": "if(num:1 num:2 if(num:3 num:4 none))", "if 1 then 2 elif 3 then 4 else 5 end": "if(num:1 num:2 if(num:3 num:4 num:5))", "if 1 then 2 elif 3 then 4 elif 5 then 6 else 7 end": "if(num:1 num:2 if(num:3 num:4 if(num:5 num:6 num:7)))", "if 1, 2 then 3 | 4 else 5, 6 end": "if(comma(num:1 num:2) pipe(num:3 num:4) comma(num:5 num:6))", "if if 1 then 2 end then 3 end": "if(if(num:1 num:2 none) num:3 none)", "if 1 then if 2 then 3 end else 4 end": "if(num:1 if(num:2 num:3 none) num:4)", "if 1 then 2 end | 3": "pipe(if(num:1 num:2 none) num:3)", "if 1 then def f: 2; f end": "if(num:1 def:f(num:2 call:f) none)",
		"try 1": "try(num:1)", "try 1 catch 2": "try(num:1 num:2)", "try .a.b catch .c.d": "try(index(index(. text(part:a)) text(part:b)) index(index(. text(part:c)) text(part:d)))", "try 1 + 2": "op:+(try(num:1) num:2)", "try 1 catch 2 + 3": "op:+(try(num:1 num:2) num:3)", "try try 1 catch 2 catch 3": "try(try(num:1 num:2) num:3)", "try 1 catch try 2 catch 3": "try(num:1 try(num:2 num:3))", "try .a?": "try(try(index(. text(part:a))))", "try 1 catch .?": "try(num:1 try(.))", "try (1, 2) catch (3 | 4)": "try(comma(num:1 num:2) pipe(num:3 num:4))", "try 1 as $x | 2": "bind(try(num:1) pvar:x num:2)", "try f(1) catch break $g": "try(call:f(num:1) break:g)",
		"reduce . as $x (1; 2)": "reduce(. pvar:x num:1 num:2)", "reduce .a[] as [$x] (1, 2; 3 | 4)": "reduce(each(index(. text(part:a))) parr(pvar:x) comma(num:1 num:2) pipe(num:3 num:4))", "reduce reduce 1 as $x (2; 3) as $y (4; 5)": "reduce(reduce(num:1 pvar:x num:2 num:3) pvar:y num:4 num:5)", "reduce . as $x (1; 2) as $y | 3": "bind(reduce(. pvar:x num:1 num:2) pvar:y num:3)", "reduce try 1 catch 2 as $x (3; 4)": "reduce(try(num:1 num:2) pvar:x num:3 num:4)",
		"foreach . as $x (1; 2)": "foreach(. pvar:x num:1 num:2 none)", "foreach .? as {a: $x} (1, 2; 3; 4 | 5)": "foreach(try(.) pobj(pkey:a(pvar:x)) comma(num:1 num:2) num:3 pipe(num:4 num:5))",
		"label $f | 1": "label:f(num:1)", "label $if | 1, 2 | 3": "label:if(pipe(comma(num:1 num:2) num:3))", "label $a | label $b | 1": "label:a(label:b(num:1))", "1 | label $f | 2 | 3": "pipe(num:1 label:f(pipe(num:2 num:3)))", "(label $f | break $f), 2": "comma(label:f(break:f) num:2)",
		"def f: 1; 2": "def:f(num:1 num:2)", "def f: 1, 2 | 3; 4, 5 | 6": "def:f(pipe(comma(num:1 num:2) num:3) pipe(comma(num:4 num:5) num:6))", "def f(a): 1; 2": "def:f(param:a num:1 num:2)", "def f($a): 1; 2": "def:f(param:$a num:1 num:2)", "def f($a; b; $c): 1; 2": "def:f(param:$a param:b param:$c num:1 num:2)", "def if: 1; 2": "def:if(num:1 num:2)", "def f(if; $end): 1; 2": "def:f(param:if param:$end num:1 num:2)", "def def(def): 1; 2": "def:def(param:def num:1 num:2)", "def f: def g: 1; 2; 3": "def:f(def:g(num:1 num:2) num:3)", "def f: 1; def g: 2; 3": "def:f(num:1 def:g(num:2 num:3))", "1 | def f: 2; 3": "pipe(num:1 def:f(num:2 num:3))", "def f(a; a): 1; 2": "def:f(param:a param:a num:1 num:2)",
	} {
		right(t, s, tree)
	}
}

// TestPatterns reads each kind of pattern.
func TestPatterns(t *testing.T) {
	for pattern, tree := range map[string]string{
		"$x": "pvar:x", "$if": "pvar:if", "[$x]": "parr(pvar:x)", "[$x, $y]": "parr(pvar:x pvar:y)", "[[$x], $x]": "parr(parr(pvar:x) pvar:x)", "{a: $x}": "pobj(pkey:a(pvar:x))", "{if: $x}": "pobj(pkey:if(pvar:x))", `{"a b": $x}`: `pobj(pkey:"a b"(pvar:x))`, `{"": $x}`: "pobj(pkey(pvar:x))", `{"\u0061": $x}`: "pobj(pkey:a(pvar:x))", "{$x}": "pobj(pkey:x(pvar:x))", "{$if}": "pobj(pkey:if(pvar:if))", "{$x, a: [$y], b: {c: $z}}": "pobj(pkey:x(pvar:x) pkey:a(parr(pvar:y)) pkey:b(pobj(pkey:c(pvar:z))))", "[{a: $x}, {$y}]": "parr(pobj(pkey:a(pvar:x)) pobj(pkey:y(pvar:y)))",
	} {
		right(t, "1 as "+pattern+" | 2", "bind(num:1 "+tree+" num:2)")
		right(t, "reduce 1 as "+pattern+"(2; 3)", "reduce(num:1 "+tree+" num:2 num:3)")
		right(t, "foreach 1 as "+pattern+"(2; 3)", "foreach(num:1 "+tree+" num:2 num:3 none)")
	}
}

// TestTwoSides reads signs of two sides: which hold together first, and from where.
func TestTwoSides(t *testing.T) {
	for s, tree := range map[string]string{
		"1 | 2 | 3": "pipe(num:1 pipe(num:2 num:3))", "1, 2, 3": "comma(comma(num:1 num:2) num:3)", "1, 2 | 3, 4": "pipe(comma(num:1 num:2) comma(num:3 num:4))", "1 // 2 // 3 // 4": "op://(num:1 op://(num:2 op://(num:3 num:4)))", "1 // 2, 3 // 4": "comma(op://(num:1 num:2) op://(num:3 num:4))",
		"1 or 2 or 3": "op:or(op:or(num:1 num:2) num:3)", "1 and 2 and 3": "op:and(op:and(num:1 num:2) num:3)", "1 or 2 and 3 or 4": "op:or(op:or(num:1 op:and(num:2 num:3)) num:4)", "1 and 2 or 3 and 4": "op:or(op:and(num:1 num:2) op:and(num:3 num:4))", "1 - 2 - 3": "op:-(op:-(num:1 num:2) num:3)", "1 - 2 + 3": "op:+(op:-(num:1 num:2) num:3)", "1 / 2 * 3 % 4": "op:%(op:*(op:/(num:1 num:2) num:3) num:4)", "1 + 2 * 3": "op:+(num:1 op:*(num:2 num:3))", "1 * 2 + 3": "op:+(op:*(num:1 num:2) num:3)", "1 + 2 * 3 - 4": "op:-(op:+(num:1 op:*(num:2 num:3)) num:4)",
		"1 < 2 and 3 >= 4": "op:and(op:<(num:1 num:2) op:>=(num:3 num:4))", "1 + 2 == 3 * 4": "op:==(op:+(num:1 num:2) op:*(num:3 num:4))", "1 = 2 or 3": "op:=(num:1 op:or(num:2 num:3))", "1 or 2 = 3": "op:=(op:or(num:1 num:2) num:3)", "1 = 2 // 3 = 4": "op://(op:=(num:1 num:2) op:=(num:3 num:4))", "1 // 2 = 3": "op://(num:1 op:=(num:2 num:3))", ".a |= 1 | .b //= 2": "pipe(op:|=(index(. text(part:a)) num:1) op://=(index(. text(part:b)) num:2))", "1 = 2, 3 = 4": "comma(op:=(num:1 num:2) op:=(num:3 num:4))", "(1 = 2) = 3": "op:=(op:=(num:1 num:2) num:3)", "(1 < 2) < 3": "op:<(op:<(num:1 num:2) num:3)", "1 < 2 = 3 < 4": "op:=(op:<(num:1 num:2) op:<(num:3 num:4))", "1 - (2 - 3)": "op:-(num:1 op:-(num:2 num:3))", "(1 // 2) // 3": "op://(op://(num:1 num:2) num:3)",
		"-1": "neg(num:1)", "- -1": "neg(neg(num:1))", "--1": "neg(neg(num:1))", "-.a[0]?": "neg(try(index(index(. text(part:a)) num:0)))", "-1 * -2": "op:*(neg(num:1) neg(num:2))", "1 - -2": "op:-(num:1 neg(num:2))", "1--2": "op:-(num:1 neg(num:2))", "-1 - 2": "op:-(neg(num:1) num:2)", "-(1 + 2)": "neg(op:+(num:1 num:2))",
		"1 as $x | 2": "bind(num:1 pvar:x num:2)", ".a[] as $x | 2, 3 | 4": "bind(each(index(. text(part:a))) pvar:x pipe(comma(num:2 num:3) num:4))", "1 + 2 as $x | 3 + 4": "op:+(num:1 bind(num:2 pvar:x op:+(num:3 num:4)))", "-1 as $x | 2": "neg(bind(num:1 pvar:x num:2))", "1, 2 as $x | 3, 4": "comma(num:1 bind(num:2 pvar:x comma(num:3 num:4)))", "1 as $x | 2 as $y | 3": "bind(num:1 pvar:x bind(num:2 pvar:y num:3))", "1 as $x | def f: 2; 3": "bind(num:1 pvar:x def:f(num:2 num:3))", "1 * (2 as $x | 3) * 4": "op:*(op:*(num:1 bind(num:2 pvar:x num:3)) num:4)",
		// What can't go on within goes on outside.
		"1 as $x | 2 < 3 < 4": "op:<(bind(num:1 pvar:x op:<(num:2 num:3)) num:4)", "1 as $x | 2 = 3 = 4": "op:=(bind(num:1 pvar:x op:=(num:2 num:3)) num:4)", "0 + 1 as $x | 2 < 3 < 4": "op:<(op:+(num:0 bind(num:1 pvar:x op:<(num:2 num:3))) num:4)", "-1 as $x | 2 < 3 < 4 + 5": "op:<(neg(bind(num:1 pvar:x op:<(num:2 num:3))) op:+(num:4 num:5))",
	} {
		right(t, s, tree)
	}
}

// TestNameAlone reads each word of the language, and names much alike, where any name may stand, and where none of the language's may.
func TestNameAlone(t *testing.T) {
	for _, word := range []string{"and", "as", "break", "catch", "def", "elif", "else", "end", "foreach", "if", "label", "or", "reduce", "then", "try"} {
		right(t, "{"+word+"}", "obj(entry(text(part:"+word+") index(. text(part:"+word+"))))")
		right(t, "{"+word+": 1}", "obj(entry(text(part:"+word+") num:1))")
		right(t, "1 as {"+word+": $x} | 1", "bind(num:1 pobj(pkey:"+word+"(pvar:x)) num:1)")
		right(t, "def "+word+"("+word+"; $"+word+"): 1; 1", "def:"+word+"(param:"+word+" param:$"+word+" num:1 num:1)")
		right(t, "."+word+"."+word, "index(index(. text(part:"+word+")) text(part:"+word+"))")
		right(t, "$"+word, "var:"+word)
		given(t, word, modelOf(word))
		given(t, word+"(1)", modelOf(word+"(1)"))
		given(t, "1 | "+word, modelOf("1 | "+word))
		for _, name := range []string{word + "1", "_" + word, word + word} {
			right(t, name, "call:"+name)
			right(t, name+"(1)", "call:"+name+"(num:1)")
		}
	}
}
