package regex_test

import (
	"slices"
	"strings"
	"sync"
	"testing"

	"lorgnette/api"
)

// patterns are patterns of all sorts, right and wrong, and whether they are free.
func (m maker) patterns(count int, do func(pattern string, free bool)) {
	for i := range count {
		free := i%2 == 0
		x, _ := m.tree(1 + i%40)
		s := strings.Join(m.spelt(x, free), m.one("", " "))
		do(s, free)
		do(m.spoilt(s), free)
		do(m.spoilt(m.spoilt(s)), free)
	}
}

// TestGroupsAndNames: there are as many groups as names, numbered in the order in which they stand, and repeats have a Max of -1, or not below Min.
func TestGroupsAndNames(t *testing.T) {
	groups, repeats := 0, 0
	newMaker(6).patterns(6000, func(pattern string, free bool) {
		got := parsed(pattern, free)
		count := 0
		each(got.tree, func(x api.Regex) {
			switch x.Kind {
			case api.ReGroup:
				if count++; x.Group != count || count > len(got.names) || x.Name != got.names[count-1] || len(x.Kids) != 1 {
					t.Errorf("%q: group %d: %v", pattern, count, x)
				}
			case api.ReRepeat:
				if repeats++; x.Min < 0 || x.Min > 255 || x.Max != -1 && x.Max < x.Min || x.Max > 255 || len(x.Kids) != 1 {
					t.Errorf("%q: repeat %v", pattern, x)
				}
			case api.ReAlt, api.ReSeq:
				if len(x.Kids) < 2 {
					t.Errorf("%q: %v", pattern, x)
				}
			case api.ReSet:
				if len(x.Kids) < 1 {
					t.Errorf("%q: %v", pattern, x)
				}
			default:
				if len(x.Kids) > 0 {
					t.Errorf("%q: %v", pattern, x)
				}
			}
		})
		if groups += count; count != len(got.names) {
			t.Errorf("%q: %d groups, %q", pattern, count, got.names)
		}
	})
	if groups < 5000 || repeats < 5000 {
		t.Error("too few:", groups, repeats)
	}
}

// TestNothingBesideFaults: beside an error there is no tree, and no name.
func TestNothingBesideFaults(t *testing.T) {
	faults := 0
	newMaker(7).patterns(6000, func(pattern string, free bool) {
		got := parsed(pattern, free)
		if got.err == api.OK {
			if got.at != 0 {
				t.Errorf("%q: %v", pattern, got)
			}
			return
		}
		faults++
		if got.names != nil || !same(got.tree, api.Regex{}) || got.at < 0 || got.at > len([]rune(pattern)) {
			t.Errorf("%q: %v", pattern, got)
		}
	})
	if faults < 5000 {
		t.Error("only", faults)
	}
}

// isNamed tells whether a sign may stand in a name, or in a number.
func isNamed(r rune) bool {
	return r == '_' || isLetter(r) || isDigit(r)
}

// TestAheadOfFaults: what stands ahead of a fault goes on; with the sign at it nothing does, whatever stands behind. (A name or a number is judged as a whole: what is ahead of its last sign might be wrong, too, and what is behind it might make it another one.)
func TestAheadOfFaults(t *testing.T) {
	t.Parallel()
	faults := 0
	newMaker(8).patterns(1500, func(pattern string, free bool) {
		got := parsed(pattern, free)
		if got.err != api.ErrForm && got.err != api.ErrDepth {
			return
		}
		signs := []rune(pattern)
		if isNamed(signs[got.at]) && got.at > 0 && isNamed(signs[got.at-1]) {
			return
		}
		faults++
		goesOn(t, string(signs[:got.at]), free)
		upTo := string(signs[:got.at+1])
		for _, rest := range []string{"", ")", "]", "}", ">", "*", "\\", "-]", ":)", " a)"} {
			given(t, upTo+rest, free, fault(got.at, got.err))
		}
	})
	if faults < 800 {
		t.Error("only", faults)
	}
}

// goesOn asks that a pattern is one, or is too short, and that in this case it is the beginning of one.
func goesOn(t *testing.T, pattern string, free bool) {
	t.Helper()
	got := parsed(pattern, free)
	if got.err == api.OK {
		return
	}
	if got.err == api.ErrShort && got.at == len([]rune(pattern)) {
		for _, ending := range []string{"", "]", "a]", "n]", "}", "1}", "255}", ":", "Name0815>", "0815Name>", ">", "!", "~]", "\U0010ffff]", "\n"} {
			for range 30 {
				if parsed(pattern+ending, free).err == api.OK {
					return
				}
				ending += ")"
			}
		}
	}
	t.Errorf("%q doesn't go on: %v", pattern, got)
}

// TestShortOnesGoOn: what is too short is the beginning of a pattern.
func TestShortOnesGoOn(t *testing.T) {
	t.Parallel()
	short := 0
	m := newMaker(9)
	m.patterns(1000, func(pattern string, free bool) {
		signs := []rune(pattern)
		s := string(signs[:m.Intn(len(signs)+1)])
		if got := parsed(s, free); got.err == api.ErrShort {
			short++
			goesOn(t, s, free)
		}
	})
	if short < 500 {
		t.Error("only", short)
	}
}

// TestBlanksTurnNothing lays blanks and notes between what free patterns consist of: they are the same trees.
func TestBlanksTurnNothing(t *testing.T) {
	m := newMaker(10)
	for i := range 5000 {
		x, _ := m.tree(1 + i%40)
		l := m.spelt(unblank(x), true)
		if s := strings.Join(l, " # a(\n\t"); len([]rune(s)) <= 1000 {
			given(t, s, true, parsed(strings.Join(l, ""), true))
		}
	}
}

// TestOneInAnother: patterns in groups, and beside each other, are put together of their trees.
func TestOneInAnother(t *testing.T) {
	m := newMaker(11)
	for i := range 5000 {
		x, names := m.tree(1 + i%30)
		s := strings.Join(m.spelt(x, false), "")
		if len([]rune(s)) > 900 || strings.Count(s, "(") > 45 {
			continue
		}
		given(t, "(?:"+s+")", false, answer{x, names, 0, api.OK})
		given(t, "(?:"+s+")|(?:"+s+")x", false, twice(x, names, s))
		given(t, "(?:"+s+"){2,7}?", false, answer{lazy(x, 2, 7), names, 0, api.OK})
		given(t, "(?:"+s+")(y)", false, answer{seq(x, group(len(names)+1, "", sign('y'))), append(slices.Clone(names), ""), 0, api.OK})
		given(t, "(?:"+s+")[", false, fault(len([]rune(s))+5, api.ErrShort))
		given(t, "(?:"+s+"))", false, fault(len([]rune(s))+4, api.ErrForm))
	}
}

// twice is what is told of a pattern beside itself: one with names has them twice.
func twice(x api.Regex, names []string, s string) answer {
	size := len([]rune(s))
	if 2*size+8 > 1000 {
		return fault(0, api.ErrSize)
	}
	for _, name := range names {
		if name != "" {
			at := len([]rune(s[:strings.Index(s, "(?<"+name+">")])) + 2 + len(name)
			return fault(size+8+at, api.ErrForm)
		}
	}
	second := twin(x)
	number(&second, len(names))
	return answer{alt(x, seq(second, sign('x'))), slices.Concat(names, names), 0, api.OK}
}

// number counts a tree's groups from further on.
func number(x *api.Regex, ahead int) {
	if x.Kind == api.ReGroup {
		x.Group += ahead
	}
	for i := range x.Kids {
		number(&x.Kids[i], ahead)
	}
}

// TestAnswersStay writes all over what was told: other answers must not see it, and no two lists of one answer share anything.
func TestAnswersStay(t *testing.T) {
	newMaker(12).patterns(3000, func(pattern string, free bool) {
		want := parsed(pattern, free)
		kept := answer{twin(want.tree), slices.Clone(want.names), want.at, want.err}
		spoil(want.tree)
		clear(want.names[:cap(want.names)])
		given(t, pattern, free, kept)
	})
	x := parsed("a(b|[cd])*(e|fg){2}", false).tree
	seen := map[*api.Regex]bool{}
	each(x, func(x api.Regex) {
		for i := range x.Kids {
			if seen[&x.Kids[i]] {
				t.Error("shared:", x)
			}
			seen[&x.Kids[i]] = true
		}
	})
}

// spoil writes all over a tree.
func spoil(x api.Regex) {
	for i := range x.Kids {
		spoil(x.Kids[i])
	}
	for i := range x.Kids[:cap(x.Kids)] {
		x.Kids[:cap(x.Kids)][i] = api.Regex{Kind: 99, Rune: 99, Name: "99"}
	}
}

// TestDepthLeaves: what Depth is asked of stays as it was.
func TestDepthLeaves(t *testing.T) {
	m := newMaker(13)
	for i := range 500 {
		x, _ := m.tree(1 + i%60)
		was := twin(x)
		depthIs(t, x, deepest(x))
		if !same(x, was) {
			t.Errorf("%v became %v", was, x)
		}
	}
}

// TestFromManySides calls from many sides at the same time.
func TestFromManySides(t *testing.T) {
	var all sync.WaitGroup
	for range 8 {
		all.Go(func() {
			for range 100 {
				right(t, "(?<x>a|b)*(c)", seq(repeat(group(1, "x", alt(sign('a'), sign('b'))), 0, -1), group(2, "", sign('c'))), "x", "")
				wrong(t, "(?<x>a)(?<x>", 10, api.ErrForm)
				depthIs(t, chain(2500, nil, nil), 2001)
			}
		})
	}
	all.Wait()
}
