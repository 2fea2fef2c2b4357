package show_test

import (
	"testing"

	"lorgnette/api"
	"lorgnette/grove"
)

// TestTextOfRead writes what was read.
func TestTextOfRead(t *testing.T) {
	for s, want := range map[string]string{
		// The document's examples.
		".a|1+2": "(.a | (1 + 2))", ".[0]?": ".[0]?", `{a:1,"b c":2}`: `{a: 1, ("b c"): 2}`,
		// Without kids.
		".": ".", "..": "..", "0": "0", "1.50": "1.50", "2E-07": "2E-07", "@csv": "@csv", "$x": "$x", "$if": "$if", "break $out": "break $out", "f": "f", "[]": "[]", "{}": "{}", `""`: `""`,
		// Texts.
		`"a"`: `"a"`, `"\u0061\/\u007f\u0001"`: `"a/\u007f\u0001"`, `"\"\\\b\f\n\r\t"`: `"\"\\\b\f\n\r\t"`, `"\\(1)"`: `"\\(1)"`, "\"a\nb\"": `"a\nb"`, `"\ud834\udd1e\ud834"`: "\"𝄞\ufffd\"", `"\(1)"`: `"\(1)"`, `"\(1)\(2)"`: `"\(1)\(2)"`, `"a\( 1,2 )b"`: `"a\((1, 2))b"`, `"#\("#")#"`: `"#\("#")#"`, `@csv"a\(.)"`: `@csv "a\(.)"`, `@json ""`: `@json ""`, `"\("\("a")b")c"`: `"\("\("a")b")c"`,
		// Arrays, objects.
		"[1]": "[1]", "[1,2|3]": "[((1, 2) | 3)]", "[[],[]]": "[([], [])]", "{a}": "{a: .a}", `{"a"}`: "{a: .a}", `{"a b"}`: `{("a b"): .["a b"]}`, `{""}`: `{(""): .[""]}`, "{$x}": "{x: $x}", "{if:1,$end,then}": "{if: 1, end: $end, then: .then}", "{(1,2):3}": "{((1, 2)): 3}", `{("a"):1}`: "{a: 1}", `{"\(1)":2}`: `{("\(1)"): 2}`, "{a:{b:{}}}": "{a: {b: {}}}", "{a:1//2}": "{a: (1 // 2)}", "{(@csv):1}": "{(@csv): 1}", `{(@csv "a"):1}`: `{(@csv "a"): 1}`,
		// Suffixes.
		".a": ".a", ".if": ".if", `."a"`: ".a", `.["a"]`: ".a", `."a b"`: `.["a b"]`, `."a\(1)"`: `.["a\(1)"]`, `.[""]`: `.[""]`, ".a.b": ".a.b", `.["a"]["b"]`: ".a.b", "1.a": "1.a", "1.5.e5": "1.5.e5", "1.e5": "1.e5", "...a": "...a", "..[1]": "..[1]", `"a".b`: `"a".b`, `"a"["b c"]`: `"a"["b c"]`, "f.a": "f.a", "f(1).a": "f(1).a", "$x.a": "$x.a", "@csv.a": "@csv.a", "@csv[0]": "@csv[0]", "break $x.a": "break $x.a", "{}.a": "{}.a", "(1,2).a": "(1, 2).a", "(.a).b": ".a.b", ".[.a]": ".[.a]", ".[1,2]": ".[(1, 2)]", ".[.[0]]": ".[.[0]]", `.[@csv "a"]`: `.[@csv "a"]`, ".[]": ".[]", ".[][]": ".[][]", ".a[]": ".a[]", ".[1:]": ".[1:]", ".[:1]": ".[:1]", ".[1:2]": ".[1:2]", ".a[.:..][1|2:]": ".a[.:..][(1 | 2):]", ".a?": ".a?", ".??": ".??", "if 1 then 2 end.a": "if 1 then 2 end.a", "reduce . as $x (1;2)[]": "reduce . as $x (1; 2)[]",
		// Signs.
		"-1": "(-1)", "- -.a": "(-(-.a))", "-(1+2)": "(-(1 + 2))", "1|2|3": "(1 | (2 | 3))", "(1|2)|3": "((1 | 2) | 3)", "1,2,3": "((1, 2), 3)", "1,(2,3)": "(1, (2, 3))", "1+2*3": "(1 + (2 * 3))", "1-2-3": "((1 - 2) - 3)", "1//2//3": "(1 // (2 // 3))", "1 and 2 or 3": "((1 and 2) or 3)", ".a|=.b": "(.a |= .b)", "1%2": "(1 % 2)", "1==2": "(1 == 2)", ".//=1": "(. //= 1)", ".?//1": "(.? // 1)",
		// Words.
		"if 1 then 2 else 3 end": "if 1 then 2 else 3 end", "if 1 then 2 end": "if 1 then 2 end", "if 1 then 2 elif 3 then 4 end": "if 1 then 2 else if 3 then 4 end end", "if 1,2 then 3|4 else .+. end": "if (1, 2) then (3 | 4) else (. + .) end", "try 1": "1?", "try error catch .": "(try error catch .)", "try try 1 catch 2 catch 3": "(try (try 1 catch 2) catch 3)", "try .a? catch -1 | 2": "", "reduce .[] as $x (0;.+$x)": "reduce .[] as $x (0; (. + $x))", "foreach .[] as $x (0;1)": "foreach .[] as $x (0; 1)", "foreach .[] as [$x] (0;1;2)": "foreach .[] as [$x] (0; 1; 2)", "reduce (1,2) as $x (0|1;2|3)": "reduce (1, 2) as $x ((0 | 1); (2 | 3))", "label $f|1,break $f": "(label $f | (1, break $f))", "1 as $x|2,3": "(1 as $x | (2, 3))", "-1 as $x|2": "(-(1 as $x | 2))", "(-1) as $x|2": "((-1) as $x | 2)",
		"f(1)": "f(1)", "f(1;2|3)": "f(1; (2 | 3))", "def f:1;2": "(def f: 1; 2)", "def f(a;$b):1|2;f(3;4)": "(def f(a; $b): (1 | 2); f(3; 4))", "def if($if;then):.;1": "(def if($if; then): .; 1)", "def f:def g:1;g;f": "(def f: (def g: 1; g); f)",
		// Patterns.
		". as [$x,[$y]]|1": "(. as [$x, [$y]] | 1)", `. as {a:$x,"b":$y,"c d":$z,$w,if:[$v],"":$u}|1`: `(. as {a: $x, b: $y, "c d": $z, w: $w, if: [$v], "": $u} | 1)`, `. as {"#\n":$x}|1`: `(. as {"#\n": $x} | 1)`, ". as {a:{b:[{c:$x}]}}|1": "(. as {a: {b: [{c: $x}]}} | 1)",
	} {
		if want != "" {
			right(t, grove.Of(s), want)
		}
	}
}

// TestTextOfMade writes trees that were made by hand, each kind of them.
func TestTextOfMade(t *testing.T) {
	f, num, p, none := grove.Self(), grove.Num("1"), grove.Var("x"), grove.None()
	two := grove.Node(api.NodePipe, "", f, num)
	for _, c := range []struct {
		n    api.Node
		want string
	}{
		{f, "."}, {grove.Node(api.NodeAll, ""), ".."}, {num, "1"}, {grove.Num("0e99999"), "0e99999"}, {grove.Text(), `""`}, {grove.Text(f), `"\(.)"`}, {grove.Name("a"), `"a"`}, {grove.Text(f, grove.Part("a"), f, f, grove.Part("#")), `"\(.)a\(.)\(.)#"`}, {grove.Node(api.NodeText, "@if", two), `@if "\((. | 1))"`}, {grove.Node(api.NodeFormat, "@csv"), "@csv"},
		{grove.Node(api.NodeArray, ""), "[]"}, {grove.Node(api.NodeArray, "", two), "[(. | 1)]"}, {grove.Node(api.NodeObject, ""), "{}"}, {grove.Node(api.NodeObject, "", grove.Entry(grove.Name("a"), num), grove.Entry(grove.Name("1"), two), grove.Entry(grove.Node(api.NodeText, "@a", grove.Part("a")), f), grove.Entry(two, f)), `{a: 1, ("1"): (. | 1), (@a "a"): ., ((. | 1)): .}`},
		{grove.Node(api.NodeIndex, "", f, grove.Name("a")), ".a"}, {grove.Node(api.NodeIndex, "", num, grove.Name("a")), "1.a"}, {grove.Node(api.NodeIndex, "", f, f), ".[.]"}, {grove.Node(api.NodeIndex, "", f, grove.Text()), `.[""]`}, {grove.Node(api.NodeIndex, "", two, two), "(. | 1)[(. | 1)]"}, {grove.Node(api.NodeIndex, "", grove.Name("a"), grove.Name("b")), `"a".b`}, {grove.Node(api.NodeIndex, "", f, grove.Text(grove.Name("a"))), `.["\("a")"]`}, {grove.Node(api.NodeIndex, "", f, grove.Text(grove.Part("a"), f)), `.["a\(.)"]`},
		{grove.Node(api.NodeSlice, "", f, num, f), ".[1:.]"}, {grove.Node(api.NodeSlice, "", f, none, num), ".[:1]"}, {grove.Node(api.NodeSlice, "", f, num, none), ".[1:]"}, {grove.Node(api.NodeEach, "", two), "(. | 1)[]"}, {grove.Node(api.NodeTry, "", two), "(. | 1)?"}, {grove.Node(api.NodeTry, "", num, two), "(try 1 catch (. | 1))"}, {grove.Neg(num), "(-1)"}, {two, "(. | 1)"}, {grove.Node(api.NodeComma, "", num, f), "(1, .)"}, {grove.Node(api.NodeOp, "%", num, f), "(1 % .)"},
		{grove.Node(api.NodeIf, "", f, num, two), "if . then 1 else (. | 1) end"}, {grove.Node(api.NodeIf, "", f, num, none), "if . then 1 end"}, {grove.Node(api.NodeReduce, "", f, p, num, two), "reduce . as $x (1; (. | 1))"}, {grove.Node(api.NodeForeach, "", f, p, num, two, f), "foreach . as $x (1; (. | 1); .)"}, {grove.Node(api.NodeForeach, "", f, p, num, two, none), "foreach . as $x (1; (. | 1))"},
		{grove.Node(api.NodeLabel, "end", num), "(label $end | 1)"}, {grove.Node(api.NodeBreak, "end"), "break $end"}, {grove.Node(api.NodeBind, "", f, p, num), "(. as $x | 1)"}, {grove.Node(api.NodeVar, "_"), "$_"}, {grove.Node(api.NodeCall, "f"), "f"}, {grove.Node(api.NodeCall, "f", two, f), "f((. | 1); .)"}, {grove.Node(api.NodeDef, "try", f, num), "(def try: .; 1)"}, {grove.Node(api.NodeDef, "f", grove.Node(api.NodeParam, "a"), grove.Node(api.NodeParam, "$if"), f, num), "(def f(a; $if): .; 1)"},
		{grove.Node(api.NodeBind, "", f, grove.Node(api.NodePatArr, "", p, grove.Node(api.NodePatArr, "", p)), num), "(. as [$x, [$x]] | 1)"}, {grove.Node(api.NodeBind, "", f, grove.Node(api.NodePatObj, "", grove.Node(api.NodePatKey, "a", p), grove.Node(api.NodePatKey, "", p), grove.Node(api.NodePatKey, "é\n", p)), num), `(. as {a: $x, "": $x, "é\n": $x} | 1)`},
	} {
		right(t, c.n, c.want)
		there(t, c.n)
	}
}

// TestNilAndEmpty: no kids are none, however they are held.
func TestNilAndEmpty(t *testing.T) {
	n := grove.Of(`[., {}, f, "", $x] | . as {"a": $x} | if 1 then 2 end | @csv | ..`)
	want := modelText(n)
	grove.Each(&n, func(n *api.Node) {
		if len(n.Kids) == 0 {
			n.Kids = []api.Node{}
		}
	})
	right(t, n, want)
	grove.Each(&n, func(n *api.Node) {
		if len(n.Kids) == 0 {
			n.Kids = make([]api.Node, 0, 3)
		}
	})
	right(t, n, want)
}
