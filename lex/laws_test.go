package lex_test

import (
	"slices"
	"strings"
	"sync"
	"testing"

	"lorgnette/api"
	"lorgnette/lex"
)

// TestTokensRise asks of all that is told: each token begins behind the one ahead of it, within the text, and what opens is shut, one in another.
func TestTokensRise(t *testing.T) {
	m := newMaker(3)
	for range 20000 {
		s := strings.Join(m.spelt(4), m.one([]string{"", " ", "\n"}))
		l, _, err := lex.Tokens(s)
		if err != api.OK {
			continue // two that stand side by side may be another one
		}
		last := -1
		for _, tok := range l {
			if tok.At <= last || tok.At >= len(s) {
				t.Errorf("Tokens(%q): %v", s, l)
			}
			last = tok.At
		}
		if !nested(l) {
			t.Errorf("Tokens(%q): %v", s, l)
		}
	}
}

// nested tells whether what opens is shut, one in another, and whether in texts there are none but tokens of texts.
func nested(l []api.Token) bool {
	within := []int{0}
	for _, tok := range l {
		innermost := within[len(within)-1]
		ofText := tok.Kind == api.TokText || tok.Kind == api.TokIn || tok.Kind == api.TokShut
		if ofText != (innermost == api.TokOpen) || tok.Kind == api.TokOut && innermost != api.TokIn {
			return false
		}
		switch tok.Kind {
		case api.TokOpen, api.TokIn:
			within = append(within, tok.Kind)
		case api.TokOut, api.TokShut:
			within = within[:len(within)-1]
		}
	}
	return len(within) == 1
}

// TestBlanksTurnPlacesAlone lays blanks and notes between tokens: they are the same tokens, but for where they begin.
func TestBlanksTurnPlacesAlone(t *testing.T) {
	m := newMaker(4)
	between := []string{" ", "\t", "\n", "\r", "\r\n", "#\n", "# a \" \\( $ !\n", " # ä\n\n# \" )\n\t"}
	for range 20000 {
		spelt := m.spelt(4)
		want, _, err := lex.Tokens(strings.Join(spelt, " "))
		if err != api.OK {
			t.Fatalf("Tokens(%q): %d", spelt, err)
		}
		s := m.one(between)
		var starts []int
		for _, part := range spelt {
			starts = append(starts, len(s))
			s += part + m.one(between)
		}
		l, at, err := lex.Tokens(s)
		if !slices.Equal(unplaced(l), unplaced(want)) || at != 0 || err != api.OK {
			t.Errorf("Tokens(%q): %v, %d, %d, not as of %q", s, l, at, err, spelt)
		}
		for _, start := range starts {
			if !slices.ContainsFunc(l, func(tok api.Token) bool { return tok.At == start }) {
				t.Errorf("Tokens(%q): none at %d", s, start)
			}
		}
	}
}

// TestBeginnings asks of each beginning of a text in which nothing is wrong: nothing is wrong with it either, or a text isn't ended, or there is a $ or @, or half a !=, at its end.
func TestBeginnings(t *testing.T) {
	m := newMaker(5)
	for range 2000 {
		s := strings.Join(m.spelt(3), " ")
		for n := range len(s) + 1 {
			_, at, err := lex.Tokens(s[:n])
			switch {
			case err == api.OK && at == 0, err == api.ErrShort && at == n, err == api.ErrForm && at == n-1 && strings.Contains("$@!", s[at:n]):
			case err == api.ErrBytes && n-at < 4 && at < n:
			default:
				t.Errorf("Tokens(%q): %d, %d", s[:n], at, err)
			}
		}
	}
}

// TestSpeltAgain writes tokens anew: they are the same.
func TestSpeltAgain(t *testing.T) {
	m := newMaker(6)
	for range 5000 {
		s := strings.Join(m.spelt(4), " ")
		l, _, _ := lex.Tokens(s)
		again, at, err := lex.Tokens(speltOf(l))
		if !slices.Equal(unplaced(again), unplaced(l)) || at != 0 || err != api.OK {
			t.Errorf("Tokens(%q): %v; again: %v, %d, %d", s, l, again, at, err)
		}
	}
}

// speltOf writes tokens, with blanks between them where blanks may stand, and each text with no sign but as its code points, or behind a backslash.
func speltOf(l []api.Token) string {
	heads := []string{"", " ", " ", " .", " $", " ", " ", ` "`, "", `\(`, ")", `"`}
	plain := strings.NewReplacer(`\`, `\\`, `"`, `\"`)
	var s strings.Builder
	for _, tok := range l {
		said := tok.Text
		if tok.Kind == api.TokText {
			said = plain.Replace(said)
		}
		s.WriteString(heads[tok.Kind] + said)
	}
	return s.String()
}

// TestNothingIsShared: of two answers each is its own.
func TestNothingIsShared(t *testing.T) {
	s := `.a|"x\(1)y"`
	first, _, _ := lex.Tokens(s)
	second, _, _ := lex.Tokens(s)
	clear(first)
	third, _, _ := lex.Tokens(s)
	if want := modelOf(s).tokens; !slices.Equal(second, want) || !slices.Equal(third, want) {
		t.Errorf("%v, %v", second, third)
	}
}

// TestFromManySides calls from many sides at the same time.
func TestFromManySides(t *testing.T) {
	s := `def f($x): "a\("b\($x)c")\u00e4" | .d //= 1.5e3; f(1) # end`
	want := modelOf(s)
	var all sync.WaitGroup
	for range 8 {
		all.Go(func() {
			for range 100 {
				given(t, s, want)
				wrong(t, s+"\n!", len(s)+1, api.ErrForm)
				if !lex.Word("reduce") || lex.Word("f") || !lex.Name("f") {
					t.Error("names")
				}
			}
		})
	}
	all.Wait()
}
