package quote_test

import (
	"bytes"
	"strings"
	"testing"

	"lorgnette/api"
	"lorgnette/quote"
	"lorgnette/utf"
)

func TestThereAndBack(t *testing.T) {
	for _, s := range plainTexts() {
		clean := utf.Clean(s)
		for _, b := range []string{quote.Quote(s), quote.Ascii(s)} {
			if got := readOf(b); got != (answer{clean, len(b), api.OK}) {
				t.Errorf("%q written, read: %v", s, got)
			}
			if got := readOf(b + b); got != (answer{clean, len(b), api.OK}) {
				t.Errorf("%q written twice, read: %v", s, got)
			}
			if !quote.Is([]byte(b), clean) || quote.Is([]byte(b), s) != (s == clean) {
				t.Errorf("%q does not stand for %q alone", b, clean)
			}
			if again := readOf(b[:len(b)-1]); again != (answer{"", len(b) - 1, api.ErrShort}) {
				t.Errorf("%q without its last quote: %v", b, again)
			}
		}
	}
}

// TestWrittenSigns asks what bytes are in what is written.
func TestWrittenSigns(t *testing.T) {
	for _, s := range plainTexts() {
		for _, b := range []string{quote.Quote(s), quote.Ascii(s)} {
			for i := range len(b) {
				within := i > 0 && i < len(b)-1
				if b[i] < 32 || b[i] == 127 || within && b[i] == '"' && b[i-1] != '\\' {
					t.Errorf("%q: byte %d", b, i)
				}
			}
			if utf.Valid(b) != len(b) || !isWhole(b) {
				t.Errorf("%q written: %q", s, b)
			}
		}
		if b := quote.Ascii(s); strings.ContainsFunc(b, func(r rune) bool { return r > 126 }) {
			t.Errorf("Ascii(%q): %q", s, b)
		}
	}
}

func TestReadIsSound(t *testing.T) {
	for _, b := range quotedTexts() {
		s, n, err := quote.Read([]byte(b))
		if utf.Valid(s) != len(s) || n < 0 || n > len(b) {
			t.Errorf("Read(%q): %q, %d", b, s, n)
		}
		if err != api.OK && s != "" || err == api.ErrShort && n != len(b) {
			t.Errorf("Read(%q): %q, %d, %d", b, s, n, err)
		}
	}
}

// TestArgumentsStay writes all over what was handed in: answers must not see it.
func TestArgumentsStay(t *testing.T) {
	for _, b := range quotedTexts() {
		room := append([]byte(b), "abc"...)
		in := room[:len(b)]
		want := told(t, b)
		s, _, _ := quote.Read(in)
		quote.Plain(in)
		quote.Is(in, want.s)
		if !bytes.Equal(room, []byte(b+"abc")) {
			t.Fatalf("%q was changed: %q", b, room)
		}
		for i := range room {
			room[i] = 'x'
		}
		if s != want.s {
			t.Errorf("Read(%q) shares what it was given: %q", b, s)
		}
	}
}

// TestNothing hands in no byte at all, in both ways.
func TestNothing(t *testing.T) {
	for _, b := range [][]byte{nil, {}} {
		if s, n, err := quote.Read(b); s != "" || n != 0 || err != api.ErrShort {
			t.Errorf("Read: %q, %d, %d", s, n, err)
		}
		if quote.Plain(b) || quote.Is(b, "") {
			t.Error("nothing is a text in quotes")
		}
	}
}
