package scope_test

import (
	"strconv"
	"testing"

	"lorgnette/api"
	"lorgnette/grove"
	"lorgnette/scope"
)

// TestCheck asks for the first name that isn't known.
func TestCheck(t *testing.T) {
	check(t, grove.Of("break $out"), nil, "*out") // the document's example
	n := grove.Of("$a | b | break $c | b(1) | $a | (. as $d | $d) | $e")
	free(t, n, "$a", "b/0", "*c", "b/1", "$e")
	for _, c := range []struct {
		known []string
		want  string
	}{
		{nil, "$a"}, {[]string{}, "$a"}, {[]string{"$a"}, "b/0"}, {[]string{"b/0", "$a"}, "*c"}, {[]string{"*c", "$e", "b/0", "$a"}, "b/1"}, {[]string{"$e", "b/1", "*c", "b/0", "$a"}, ""}, {[]string{"$e", "b/1", "*c", "b/0"}, "$a"}, {[]string{"$a", "b/1", "*c"}, "b/0"}, {[]string{"$a", "b/0", "b/1", "$e"}, "*c"}, {[]string{"$a", "b/0", "*c", "b/1"}, "$e"},
		// Known twice, and known though nobody uses them.
		{[]string{"$a", "$a", "b/0", "b/0", "*c", "b/1", "$e", "$e"}, ""}, {[]string{"z/9", "$e", "$d", "b/1", "*c", "$c", "b/0", "$a", "*"}, ""},
		// Names alike are others.
		{[]string{"a"}, "$a"}, {[]string{"$A"}, "$a"}, {[]string{"$a "}, "$a"}, {[]string{" $a"}, "$a"}, {[]string{"$"}, "$a"}, {[]string{""}, "$a"}, {[]string{"a/0", "*a", "$aa", "$a/0"}, "$a"}, {[]string{"$a b/0 *c b/1 $e"}, "$a"}, {[]string{"$a", "b"}, "b/0"}, {[]string{"$a", "b/1"}, "b/0"}, {[]string{"$a", "b/00"}, "b/0"}, {[]string{"$a", "$b", "*b", "B/0"}, "b/0"}, {[]string{"$a", "b/0", "$c", "c/0", "c", "**c"}, "*c"}, {[]string{"\xff", "\x00", "$a", "b/0", "*c", "b/2", "b/01"}, "b/1"},
	} {
		check(t, n, c.known, c.want)
	}
	for _, known := range [][]string{nil, {}, {"$x"}, {""}} {
		check(t, grove.Self(), known, "")
		check(t, grove.Of(". as $x | def f: f; f + $x"), known, "")
	}
}

// TestCheckKnownWithin: what is known is known at every place, also where something of its name is bound, or is bound no more.
func TestCheckKnownWithin(t *testing.T) {
	for _, c := range []struct{ s, known, want string }{
		{"$x | (. as $x | $x) | $x", "$x", ""}, {". as $y | $x, $y", "$x", ""}, {"def f: g; f | g | h", "g/0", "h/0"}, {"def f: g; f | g | h", "f/0 h/0", "g/0"}, {"def f(a): a; f(a)", "a/0", ""}, {"def f(a): a; f(a)", "f/1", "a/0"}, {"label $a | break $b", "*b", ""}, {"label $a | break $b", "*a", "*b"}, {"def f: .; f(f)", "f/1", ""}, {"f(f)", "f/1", "f/0"}, {"f(f)", "f/0", "f/1"},
	} {
		check(t, grove.Of(c.s), named(c.known), c.want)
	}
}

// TestWrong asks of trees that may not be, each for one cause, wherever it stands: nothing is told of them, whatever is known.
func TestWrong(t *testing.T) {
	for i, n := range grove.WrongWithin() {
		called := "wrong tree " + strconv.Itoa(i)
		if names, err := scope.Free(n); len(names) > 0 || err != api.ErrArg {
			t.Errorf("Free of %s: %q, %d", called, names, err)
		}
		for _, known := range [][]string{nil, {"$x"}, {"f/0", "f/1", "$x", "$a", "*a", "a/0"}} {
			if name, err := scope.Check(n, known); name != "" || err != api.ErrArg {
				t.Errorf("Check of %s: %q, %d", called, name, err)
			}
		}
	}
}

// TestWrongBesideNames asks of trees that may not be, in which names stand that nobody binds, ahead of what is wrong, or behind it.
func TestWrongBesideNames(t *testing.T) {
	for _, s := range []string{"$x", "f", "break $x", "f(1)"} {
		n := grove.Of(s)
		for _, wrong := range grove.Wrong() {
			for _, both := range []api.Node{grove.Node(api.NodePipe, "", n, wrong), grove.Node(api.NodePipe, "", wrong, n), grove.Node(api.NodeBind, "", n, wrong, wrong), grove.Node(api.NodeDef, "f", wrong), grove.Node(api.NodeLabel, "", n), grove.Node(api.NodeReduce, "", n, grove.Var("x"), n), grove.Node(api.NodeForeach, "", n, grove.Var("x"), n, n)} {
				names, err := scope.Free(both)
				name, err2 := scope.Check(both, nil)
				if len(names) > 0 || name != "" || err != api.ErrArg || err2 != api.ErrArg {
					t.Errorf("%.300s: %q, %d, %q, %d", s, names, err, name, err2)
				}
			}
		}
	}
}
