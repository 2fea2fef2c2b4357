package scope_test

import (
	"strings"
	"testing"

	"lorgnette/api"
	"lorgnette/grove"
)

// asked asks for the names that nobody binds in what is read from a text.
func asked(t *testing.T, s, want string) {
	t.Helper()
	n := grove.Of(s)
	free(t, n, named(want)...)
	if model := strings.Join(modelFree(n), " "); model != want {
		t.Errorf("%s: the model tells %s", s, model)
	}
}

// TestFreeUsed asks of names that nobody binds, used by each kind of node, in the order in which they stand.
func TestFreeUsed(t *testing.T) {
	for s, want := range map[string]string{
		// No names.
		".": "", "..": "", "1": "", `"a"`: "", `"$a"`: "", "@csv": "", "[]": "", "{}": "", ".a": "", `."$a"`: "", "{a}": "", `{"$a"}`: "", ".[1:]": "", "{if: 1}": "",
		// Each kind of name.
		"$a": "$a", "f": "f/0", "break $a": "*a", "f(1)": "f/1", "f(1; 2; 3)": "f/3", "f(1; 2; 3; 4; 5; 6; 7; 8; 9; 10; 11; 12)": "f/12", "$if": "$if", "break $end": "*end", "_": "_/0", "$__loc__": "$__loc__", "not": "not/0", "$aB_9": "$aB_9",
		// Each once, and no two as one.
		"$a, $a": "$a", "$a | b | $a | b | $a": "$a b/0", "f, f(1), f(1; 2), f(f)": "f/0 f/1 f/2", "a, $a, break $a, A, $A": "a/0 $a *a A/0 $A", "f1(1), f(1), f11": "f1/1 f/1 f11/0",
		// In their order, whatever their kinds.
		"$b, $a": "$b $a", "$b, $a, $b, $c": "$b $a $c", "z | $y | break $x | a": "z/0 $y *x a/0", "f(g($a); h)": "f/2 g/1 $a h/0", "f(f(f; f(f; f)))": "f/1 f/2 f/0", "g(f) | f(g)": "g/1 f/0 f/1 g/0",
		// In each kid of each kind.
		`"\($b)x\($a)"`: "$b $a", `@json "\(f)\($a)"`: "f/0 $a", "[$a]": "$a", "{a: $a}": "$a", "{($b): $a, ($d): $c}": "$b $a $d $c", "{$b, $a}": "$b $a", `{"\($b)": $a}`: "$b $a", `{"\($b)"}`: "$b", "$b[$a]": "$b $a", "$b.a": "$b", `."\($a)"`: "$a", "$c[$b:$a]": "$c $b $a", "$b[$a:]": "$b $a", "$b[:$a]": "$b $a", "$a[]": "$a", "$a?": "$a", "try $b catch $a": "$b $a", "-$a": "$a", "$b | $a": "$b $a", "$b, $a, f": "$b $a f/0", "$b + $a": "$b $a", "$b // $a": "$b $a", "$b |= $a": "$b $a", "$b and $a or $c": "$b $a $c", "if $c then $b else $a end": "$c $b $a", "if $b then $a end": "$b $a", "if a then b elif c then d else e end": "a/0 b/0 c/0 d/0 e/0", "reduce $c as $x ($b; $a)": "$c $b $a", "foreach $c as $x ($b; $a)": "$c $b $a", "foreach $d as $x ($c; $b; $a)": "$d $c $b $a", "label $x | $a": "$a", "$b as $x | $a": "$b $a", "def f: $b; $a": "$b $a", "def f(a; $b): $d; $c": "$d $c",
	} {
		asked(t, s, want)
	}
}

// TestFreeBound asks of names that are bound, where they are, and beside that.
func TestFreeBound(t *testing.T) {
	for s, want := range map[string]string{
		// The document's examples.
		". as $x | $x + $y | f(1; g)": "$y f/2 g/0", "def f($a; g): f(1; 2) + $a + a + g; $a": "$a", "break $out": "*out",
		// Variables: in the rest alone.
		". as $x | $x": "", "$x as $x | $x": "$x", "$x as $y | $x": "$x", "(. as $x | $x) | $x": "$x", "$y | . as $y | $y": "$y", "(. as $y | $y), $x, $y": "$x $y", ". as $x | . as $y | $x, $y": "", ". as $x | . as $x | $x": "", ". as $x | ($x as $y | $y) | $y": "$y", ". as $x | x, break $x, $X": "x/0 *x $X", ". as $x | . | (1, [{a: f($x)}])": "f/1",
		// Of whole patterns, but no key.
		". as [$x, $y] | $x, $y, $z": "$z", ". as [[[$x]], [$y]] | $x, $y": "", ". as {x: $y} | $x, $y": "$x", ". as {$x} | $x": "", `. as {"x": [$y, {a: $z}], "b c": $w} | $w, $x, $y, $z`: "$x", ". as [$x, $x] | $x": "", "$x as [$x, {$y}] | $y": "$x",
		// In the step, and in what is told.
		"reduce $x as $x ($x; $x)": "$x", "reduce $a as $x (0; $x)": "$a", "reduce . as $x ($x; 0)": "$x", "reduce . as [$x, {y: $z}] (.; $x + $y + $z)": "$y", "(reduce . as $x (.; $x)), $x": "$x", "foreach . as $x ($x; 0; 0)": "$x", "foreach . as $x (0; $x; $x)": "", "foreach . as {a: [$x, $y]} (0; $x; $y)": "", "foreach $x as $x (0; 1)": "$x", "foreach . as $x (0; $x), $x": "$x", "reduce $a as $x ($x; $x) | foreach $b as $y ($y; $y; $y)": "$a $x $b $y", "reduce . as $x (.; x, break $x)": "x/0 *x",
		// Labels: in their kid.
		"label $x | break $x": "", "label $x | break $y": "*y", "(label $x | break $x) | break $x": "*x", "label $x | $x, x": "$x x/0", "label $x | label $y | break $x, break $y": "", "label $x | label $x | break $x": "", "label $out | def f: break $out; f, break $in": "*in", "label $if | break $if": "",
		// Functions: in their bodies and in the rest, with as many arguments.
		"def f: f; f": "", "def f: .; f(1)": "f/1", "def f(a): f; f(1)": "f/0", "def f(a): f(1), f(1; 2); f": "f/2 f/0", "def f: f(1); f, f(1; 2)": "f/1 f/2", "def f: .; g, $f, break $f": "g/0 $f *f", "(def f: .; f), f": "f/0", "f | def f: .; f": "f/0", "f | def f: f; .": "f/0", "def f: g; def g: f; f, g": "g/0", "def f: def g: f, g; g; f, g": "g/0", "def f: .; def f(a): f, f(a); f, f(1)": "", "def f: .; f | f(1)": "f/1", "def f(a; b; c; d; e; f; g; h; i; j): f(1;2;3;4;5;6;7;8;9;10), j, f; f(1;2;3;4;5;6;7;8;9;10), j": "j/0", "def if: .; 1": "",
		// Params: in the body alone, of no arguments, and as variables only with a $.
		"def f(g): g; g": "g/0", "def f(g): g(1); .": "g/1", "def f(g): $g; .": "$g", "def f($g): g, $g; .": "", "def f($g): g, $g; g, $g": "g/0 $g", "def f($g): g(1), break $g; .": "g/1 *g", "def f($a; b): a, $a, b, $b; .": "$b", "def f(b; $a): a, $a, b, $b; .": "$b", "def f(f): f, f(1); f, f(1)": "f/0", "def f(a; a): a, f(1; 2), f(1); f": "f/1 f/0", "def f($a; a): a, $a; .": "", "def f(a): def g(b): a, b, f(1), g(1); a, b; .": "b/0", "def f($if; then): $if, $then; .": "$then", "def f(g): def h: g; h; f(x)": "x/0", "def f(g): . as $g | g, $g; .": "",
		// In all that stands within.
		`. as $x | "\([{a: ($x | -$x)}, .[$x:$x]?])"`: "", "label $x | try break $x catch break $x": "", ". as $x | def f($y): $x, $y; f($x), $y": "$y", "def f: .; reduce f as $x (f; f)": "", "def f(g): reduce g as $x (g; $x | g); .": "", ". as $x | reduce . as $y ($x; $x, $y) | $y": "$y", ". as $x | if $x then $x elif $x then $y else $x end": "$y", `"\(. as $x | $x)\($x)"`: "$x", "{a: (. as $x | $x), b: $x}": "$x", "[. as $x | $x] | $x": "$x", "f(. as $x | $x; $x)": "f/2 $x",
	} {
		asked(t, s, want)
	}
}

// TestFreeMade asks of trees that were made by hand, such as no text is needed for.
func TestFreeMade(t *testing.T) {
	f, x := grove.Self(), grove.Node(api.NodeVar, "x")
	pattern := grove.Node(api.NodePatObj, "", grove.Node(api.NodePatKey, "$y", grove.Node(api.NodePatArr, "", grove.Var("x"), grove.Var("z"))))
	for _, c := range []struct {
		n    api.Node
		want string
	}{
		{x, "$x"}, {grove.Node(api.NodeBreak, "x"), "*x"}, {grove.Node(api.NodeCall, "x"), "x/0"}, {grove.Node(api.NodeCall, "x", x, x), "x/2 $x"}, {grove.Node(api.NodeLabel, "x", x), "$x"}, {grove.Node(api.NodeText, "@x", grove.Part("$y"), x), "$x"}, {grove.Node(api.NodeFormat, "@x"), ""}, {grove.Name("$x"), ""},
		{grove.Node(api.NodeBind, "", x, pattern, x), "$x"}, {grove.Node(api.NodeBind, "", f, pattern, x), ""}, {grove.Node(api.NodeBind, "", f, pattern, grove.Node(api.NodeVar, "y")), "$y"}, {grove.Node(api.NodeBind, "", f, pattern, grove.Node(api.NodeVar, "z")), ""},
		{grove.Node(api.NodeReduce, "", f, pattern, f, x), ""}, {grove.Node(api.NodeReduce, "", f, pattern, x, f), "$x"}, {grove.Node(api.NodeForeach, "", f, pattern, f, x, grove.None()), ""}, {grove.Node(api.NodeForeach, "", f, pattern, f, f, x), ""}, {grove.Node(api.NodeForeach, "", f, pattern, x, f, grove.None()), "$x"}, {grove.Node(api.NodeForeach, "", x, pattern, f, f, grove.None()), "$x"},
		{grove.Node(api.NodeDef, "f", f, x), "$x"}, {grove.Node(api.NodeDef, "f", x, f), "$x"}, {grove.Node(api.NodeDef, "f", grove.Node(api.NodeParam, "$x"), x, f), ""}, {grove.Node(api.NodeDef, "f", grove.Node(api.NodeParam, "$x"), f, x), "$x"}, {grove.Node(api.NodeDef, "f", grove.Node(api.NodeParam, "x"), x, f), "$x"},
	} {
		free(t, c.n, named(c.want)...)
	}
}

// TestNilAndEmpty: no kids are none, however they are held.
func TestNilAndEmpty(t *testing.T) {
	for _, kids := range [][]api.Node{nil, {}, make([]api.Node, 0, 3)} {
		n := grove.Of("f, $x, (. as [$y] | $y), (def g: break $z; g)")
		grove.Each(&n, func(n *api.Node) {
			if len(n.Kids) == 0 {
				n.Kids = kids
			}
		})
		free(t, n, "f/0", "$x", "*z")
	}
}
