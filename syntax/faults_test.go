package syntax_test

import (
	"slices"
	"strings"
	"testing"

	"lorgnette/api"
)

// TestFaultsByHand asks for the first token with which nothing goes on, ahead of which a ~ stands; at the end, it is too short.
func TestFaultsByHand(t *testing.T) {
	for _, s := range slices.Concat(faultsOfTerms, faultsOfSuffixes, faultsOfKeys, faultsOfWords, faultsOfSigns) {
		marked(t, s)
	}
	wrong(t, " # a\n # b", 9, api.ErrShort)
	wrong(t, "1 | # b\n", 8, api.ErrShort)
}

var faultsOfTerms = []string{
	"~", " ~", "# a~", "~)", "~]", "~}", "~:", "~;", "~,", "~|", "~=", "~?", "~*", "~==", "~|=", "~+1", "~then", "~else", "~elif", "~end", "~catch", "~as", "~and", "~or",
	"(~", "(~)", "(1~", "(1~]", "(1 ~2)", "1~)", "((1)~", "[~", "[~)", "[1~", "[1~)", "[1,~]", "[~,1]", "[1 ~2]", "1~]", "1~}", "1~:", "1~;", "1 ~2", `"a" ~"b"`, `1 ~"a"`, "1 ~f", "1 ~$x", "1 ~@csv", `1 ~@csv "a"`, "f ~g", "1 ~{}", "1 ~..", "1~(2)", "..~(1)",
	"f(~", "f(~)", "f(1~", "f(1;~)", "f(1;~", "f(~;1)", "f(1~]", "f(1 ~2)", "$x~(1)", "$x ~$y", ".a~(1)", "break~", "break ~f", "break ~1", "break $f ~$g", "break ~break $f", `@csv ~@json`, `@csv "a" ~"b"`,
	`"\(~)"`, `"\(1 ~2)"`, `"\(1,~)"`, `"a\(1~;)b"`, `"\(~|1)"`, `"\("a" ~"b")"`, `"\([1~)"`,
	"1 ~def f: 2; 3", "1, ~def f: 2; 3", "1 + ~def f: 2; 3", "- ~def f: 2; 3", "1, ~label $f | 2", "1 + ~label $f | 2", "try ~def f: 2; 3", "1~abc", "1~e", "1 ~. 5",
}

var faultsOfSuffixes = []string{
	// A . that leads nowhere.
	".a~.", ".a~. b", ".a~. | 1", ". ~.", "1~. 5", "1 ~.", ".a~. .b", ".a~. ..", ".a~. @csv", `.a~. @csv "b"`, ".a~. $x", ".a~. (1)", ".a~. {}", ".a~. ]", "..~.", "...a~.", ".a?~.", ".[]~.", "f~.", "(1)~.", `."a"~.`, "..~..", ".a ~. # b\n",
	".a.[~", `.a."b"~"c"`, `."a" ~"b"`, `.. ~"a"`, `.a ~"b"`, ".~5", ". ~a", ". ~@csv", ". ~$x", ". ~(1)",
	".[~", ".[~)", ".[1~", ".[1~)", ".[1 ~2]", ".[~,1]", ".[1,~]", ".[:~", ".[:~]", ".[1:~", ".[1:2~", ".[1:2~:3]", ".[:1~:2]", ".[1:~)", ".[1~;2]", ".[]~]", ".[~}", ".[1:~:]", ".[:~:1]", ".[1|~]",
	".?~1", "~?", "1 | ~?",
}

var faultsOfKeys = []string{
	"{~", "{~,", "{~,a}", "{a~", "{a,~", "{a,~}", "{a ~b}", "{a~;}", "{a:~", "{a:~}", "{a:~,b}", "{a: 1~", "{a: 1,~", "{a: 1,~}", "{a: 1 ~b: 2}", "{a: 1~|2}", "{a: 1~;}", "{a: 1~]", "{a: 1~:2}", "{~1: 2}", "{~1}", "{~.a}", "{~.a: 1}", "{~[1]: 2}", "{~-1: 2}", "{~@csv: 1}", `{~@csv "a": 1}`, "{~{}}", "{(1)~}", "{(1)~,", "{(1)~", "{(1):~}", "{(~): 1}", "{(1~: 2}", "{(1 ~2): 2}", "{$x~: 1}", "{$x ~$y}", "{$x,~}", "{a~.b}", "{a~?}", "{a~(1)}", "{a~[]}", "{a ~+ 1}", `{"a"~.b}`, `{"a" ~"b"}`, `{"a\(~)"}`, `{"a\(1 ~2)": 1}`, "{f~(1): 2}", "{a ~and: 1}", "{a: 1, ~2}", "{}~}", "{a: ~def f: 1; 2}", "{a: ~label $f | 1}", "{a: 1 as $x | 2, b~: 3}", "{a: 1 as $x | 2, if~: 3}", "{~..}",
	". as~", ". as ~|", ". as ~1", ". as ~x", ". as ~.a", `. as ~"x"`, ". as ~(", ". as $x~", ". as $x ~1", ". as $x~, 1", ". as $x ~as $y", ". as $x ~$y", ". as $x |~", ". as $x | ~|", ". as [~", ". as [~]", ". as [$x~", ". as [$x,~]", ". as [$x ~$y]", ". as [~1]", ". as [$x~}", ". as [$x]~", ". as {~", ". as {~}", ". as {a~", ". as {a~}", ". as {a~, b}", ". as {a:~", ". as {a:~}", ". as {a: ~1}", ". as {a: $x~", ". as {a: $x,~}", ". as {a: $x ~b: $y}", ". as {~1: $x}", ". as {~(1): $x}", ". as {~[$x]}", ". as {$x~: $y}", ". as {$x~]", `. as {"a"~}`, `. as {"a~\(1)": $x} | 1`, `. as {"~\(1)": $x} | 1`, `. as {~@csv "a": $x} | 1`, ". as {$x}~", ". as {a: [~]}", ". as $x~?", "(1 as $x~)", "[1 as $x~]", ". as $x ~// [$y] | 1",
}

var faultsOfWords = []string{
	"def~", "def ~:", "def ~1", "def ~$f: 1; 2", "def ~.f: 1; 2", `def ~"f": 1; 2`, "def ~@f: 1; 2", "def f~", "def f ~1", "def f~;", "def f~,", "def f(~", "def f(~)", "def f(~1)", "def f(a~", "def f(a~:", "def f(a~, b): 1; 2", "def f(a;~", "def f(a;~)", "def f(a ~b): 1; 2", "def f(~.a): 1; 2", "def f($a~.b): 1; 2", "def f(a)~", "def f(a) ~1", "def f(a)~(b): 1; 2", "def f:~", "def f: ~;", "def f: 1~", "def f: 1~:", "def f: 1 ~2; 3", "def f: 1;~", "def f: 1; ~;", "def f: 1; 2~;", "def f: 1; 2~; 3", "(def f: 1;~)", "(def f: 1~)", "def f: def g: 1; 2~", "def f: 1; def g: 2~", "def f~| 1",
	"label~", "label ~f", "label ~f | 1", "label ~1", "label ~|", "label $f~", "label $f ~1", "label $f~, 1", "label $f~:", "label $f |~", "label $f | ~|", "label $f ~as $x | 1", "label $f~.a", "1 | label $f~", "(label $f |~)",
	"if~", "if ~then", "if ~end", "if 1~", "if 1 ~2", "if 1 ~end", "if 1 ~else", "if 1 ~elif", "if 1~)", "if 1 then~", "if 1 then ~end", "if 1 then ~else", "if 1 then 2~", "if 1 then 2 ~then", "if 1 then 2~)", "if 1 then 2 ~3", "if 1 then 2 else~", "if 1 then 2 else ~end", "if 1 then 2 else 3~", "if 1 then 2 else 3 ~else 4 end", "if 1 then 2 else 3 ~elif 4 then 5 end", "if 1 then 2 elif~", "if 1 then 2 elif ~then", "if 1 then 2 elif 3~", "if 1 then 2 elif 3 ~end", "if 1 then 2 elif 3 ~else", "if 1 then 2 elif 3 then~", "if 1 then 2 elif 3 then ~end", "if 1 then 2 elif 3 then 4~", "if 1 then 2 end ~end", "if 1 then 2 end ~3", "(if 1 then 2~)",
	"try~", "try ~-1", "try ~catch 1", "try ~|", "try ~)", "try 1 catch~", "try 1 catch ~-1", "try 1 catch ~|", "try 1 catch 2 ~catch 3", "try 1 ~2", "try ~as $x | 1", "try 1 + 2 ~catch 3", "1 ~catch 2", "try 1, 2 ~catch 3",
	"reduce~", "reduce ~as", "reduce ~-1 as $x (1; 2)", "reduce 1~", "reduce 1 ~(", "reduce 1 ~+ 2 as $x (1; 2)", "reduce 1~, 2 as $x (1; 2)", "reduce 1 ~| 2", "reduce 1 as~", "reduce 1 as ~(", "reduce 1 as ~x (1; 2)", "reduce 1 as $x~", "reduce 1 as $x ~|", "reduce 1 as $x ~1", "reduce 1 as $x (~", "reduce 1 as $x (~)", "reduce 1 as $x (~; 1)", "reduce 1 as $x (1~", "reduce 1 as $x (1~)", "reduce 1 as $x (1;~", "reduce 1 as $x (1;~)", "reduce 1 as $x (1; 2~", "reduce 1 as $x (1; 2~; 3)", "reduce 1 as $x (1; 2~]", "reduce 1 as $x (1~: 2)", "reduce 1 as $x (1; 2) ~3", "reduce 1 as $x ~[1]",
	"foreach~", "foreach ~-1 as $x (1; 2)", "foreach 1~", "foreach 1 ~(1; 2)", "foreach 1 as $x~", "foreach 1 as $x (1~)", "foreach 1 as $x (1; 2~", "foreach 1 as $x (1; 2;~)", "foreach 1 as $x (1; 2; 3~", "foreach 1 as $x (1; 2; 3~; 4)", "foreach 1 as $x (1;~;", "foreach 1 as $x (1; 2; 3) ~4",
}

var faultsOfSigns = []string{
	"1 |~", "1 | ~|", "1 | ~, 2", "1,~", "1, ~, 2", "1, ~| 2", "1 //~", "1 // ~// 2", "1 //= 2 ~//= 3", "1 =~", "1 = 2 ~= 3", "1 = 2 ~|= 3", "1 += 2 ~-= 3", "1 == ~= 2", "1 or 2 = 3 ~= 4", "1 <~", "1 < 2 ~< 3", "1 == 2 ~!= 3", "1 < 2 ~== 3", "1 + 2 < 3 + 4 ~> 5", "1 and 2 < 3 ~< 4", "1 < 2 = 3 < 4 ~< 5", "1 < 2 = 3 ~= 4", "1 +~", "1 + ~* 2", "1 + ~+ 2", "1 - ~)", "1 * ~/ 2", "1 %~", "1 and~", "1 and ~or 2", "1 or ~and 2", "~and 1", "-~", "- ~)", "-~+1", "- -~", "1 -~", "- ~| 1", "-1 as $x~", "1 as $x | 2 < 3 < 4 ~< 5", "1 < 2 as $x | 3 < 4 ~< 5", "1 = 2 as $x | 3 = 4 ~= 5", "1 // 2 = 3 ~= 4", "(1 < 2) < 3 ~< 4",
}

// TestFaultsOfTokens: a text whose tokens are wrong is told so, whatever else is wrong with it, and wherever.
func TestFaultsOfTokens(t *testing.T) {
	wrong(t, "1 ~", 2, api.ErrForm)
	wrong(t, ") ~", 2, api.ErrForm)
	wrong(t, "01 | $", 5, api.ErrForm)
	wrong(t, `) "a`, 4, api.ErrShort)
	wrong(t, `) "\x"`, 3, api.ErrForm)
	wrong(t, ") \xff", 2, api.ErrBytes)
	wrong(t, "", 0, api.ErrShort)
	deep := strings.Repeat(`"\(`, 50)
	wrong(t, ") "+deep+`"`, 152, api.ErrDepth)
	wrong(t, ")"+strings.Repeat(" ", 100000), 0, api.ErrSize)
	wrong(t, ")"+strings.Repeat(" ", 99999), 0, api.ErrForm)
	right(t, "."+strings.Repeat(" ", 99999), ".")
	wrong(t, "1 |"+strings.Repeat(" ", 99997), 100000, api.ErrShort)
}

// TestNumbers: one that isn't one of JSON, or out of range, is wrong at its place, as long as nothing ahead of it is.
func TestNumbers(t *testing.T) {
	digits := strings.Repeat("9", 400)
	for s, err := range map[string]api.Errno{"01": api.ErrForm, "00": api.ErrForm, "0123": api.ErrForm, "00.5": api.ErrForm, "01e99999": api.ErrForm, "1e99999": api.ErrRange, "1e10001": api.ErrRange, "1e-10001": api.ErrRange, digits + "9": api.ErrRange, strings.Repeat("0", 1001): api.ErrForm, "0." + strings.Repeat("0", 1000): api.ErrRange} {
		wrong(t, s, 0, err)
		for _, head := range []string{"-", "1 + ", "[", "f(1; ", ".[", ".[1:", "{a: ", "{(", "def f: ", "label $f | ", "1 | ", "try ", "try 1 catch ", "reduce ", "reduce 1 as $x (", "if ", "1 as $x | "} {
			wrong(t, head+s, len(head), err)
		}
		wrong(t, `"a\(`+s+`)"`, 4, err)
		// Where no number may stand, that is what is wrong.
		for _, head := range []string{"1 ", ". ", "{", "{a ", "label ", "1 as ", "f(1 ", "def "} {
			wrong(t, head+s, len(head), api.ErrForm)
		}
		wrong(t, s+" )", 0, err)
		wrong(t, "( "+s, 2, err)
		wrong(t, ") "+s, 0, api.ErrForm)
		wrong(t, "1 | | "+s, 4, api.ErrForm)
		wrong(t, s+", 1e99999, 01", 0, err)
	}
	for _, s := range []string{"0", "0.0", "0e99999", "1e10000", "1e-10000", "10", digits, "100." + digits[:300], "0." + strings.Repeat("0", 998)} {
		right(t, s, "num:"+s)
		right(t, "-"+s, "neg(num:"+s+")")
	}
}
