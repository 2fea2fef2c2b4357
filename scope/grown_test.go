package scope_test

import (
	"slices"
	"testing"

	"lorgnette/api"
	"lorgnette/grove"
	"lorgnette/scope"
)

// TestGrown holds what is told of trees that may be against the model: names in them are often bound, and often aren't.
func TestGrown(t *testing.T) {
	t.Parallel()
	m := newMaker(1)
	uses, bound, told := 0, 0, 0
	for i := range 30000 {
		n := m.tree(1 + i%80)
		want := modelFree(n)
		free(t, n, want...)
		eachUse(n, nil, func(name string, within []stand) {
			uses++
			if isBound(name, within) {
				bound++
			}
		})
		told += len(want)
	}
	if bound < 30000 || uses-bound < 50000 || told < 30000 {
		t.Error("too few:", uses, bound, told)
	}
}

// TestCheckGrown asks for the first name that isn't known, of many known ones.
func TestCheckGrown(t *testing.T) {
	t.Parallel()
	m := newMaker(2)
	var answers [2]int
	for i := range 20000 {
		n := m.tree(1 + i%60)
		names := modelFree(n)
		known := m.some(names)
		want := ""
		if at := slices.IndexFunc(names, func(name string) bool { return !slices.Contains(known, name) }); at >= 0 {
			want = names[at]
			answers[0]++
		} else {
			answers[1]++
		}
		check(t, n, known, want)
		check(t, n, append(known, names...), "")
	}
	if answers[0] < 5000 || answers[1] < 3000 {
		t.Error("too few:", answers)
	}
}

// TestWide asks of trees in which very many names stand: bound, free, and known.
func TestWide(t *testing.T) {
	t.Parallel()
	const count = 30000
	var pattern, used []api.Node
	var names []string
	for i := range count {
		s := "x" + string(rune('a'+i%26)) + string(rune('a'+i/26%26)) + string(rune('a'+i/676%26)) + string(rune('a'+i/17576%26))
		pattern = append(pattern, grove.Var(s))
		used = append(used, grove.Node(api.NodeVar, s))
		names = append(names, "$"+s)
	}
	all := grove.Node(api.NodeCall, "f", used...)
	free(t, all, append([]string{"f/30000"}, names...)...)
	bound := grove.Node(api.NodeBind, "", grove.Self(), grove.Node(api.NodePatArr, "", pattern...), all)
	free(t, bound, "f/30000")
	free(t, grove.Node(api.NodeReduce, "", all, grove.Node(api.NodePatArr, "", pattern[:count/2]...), grove.Self(), bound), append([]string{"f/30000"}, names...)...)
	free(t, grove.Node(api.NodeReduce, "", grove.Self(), grove.Node(api.NodePatArr, "", pattern[:count/2]...), grove.Self(), all), append([]string{"f/30000"}, names[count/2:]...)...)
	slices.Reverse(names)
	check(t, all, names, "f/30000")
	check(t, all, append(names, "f/30000"), "")
	check(t, all, append(names[1:], "f/30000"), names[0])
	deep := grove.Within(all, func(n api.Node) api.Node {
		return grove.Node(api.NodeBind, "", grove.Self(), grove.Var("y"), n)
	}, 150)
	if got := freeIn(t, deep); len(got) != count+1 {
		t.Error(len(got), "names")
	}
	params := grove.Node(api.NodeDef, "f", slices.Concat(slices.Repeat([]api.Node{grove.Node(api.NodeParam, "$a")}, count), []api.Node{all, grove.Self()})...)
	if got, err := scope.Check(params, names); got != "" || err != api.OK {
		t.Error(got, err)
	}
}
