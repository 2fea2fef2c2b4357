package utf_test

import (
	"slices"
	"strings"
	"testing"

	"lorgnette/api"
	"lorgnette/utf"
)

func TestThereAndBack(t *testing.T) {
	for _, b := range append(soundTexts(), "äöü€😀", strings.Repeat("aä€😀", 1000)) {
		if utf.Valid(b) != len(b) || utf.Clean(b) != b {
			t.Errorf("%x is sound: %d, %x", b, utf.Valid(b), utf.Clean(b))
		}
		if got, err := utf.Implode(utf.Explode(b)); got != b || err != api.OK {
			t.Errorf("%x exploded, imploded: %x, %d", b, got, err)
		}
	}
	for _, p := range edgePoints() {
		for _, q := range edgePoints() {
			for _, l := range [][]int{nil, {p}, {p, q}, {p, q, p, 65533}} {
				b, err := utf.Implode(l)
				if got := utf.Explode(b); !slices.Equal(got, l) || err != api.OK {
					t.Errorf("%d imploded, exploded: %d, %d", l, got, err)
				}
			}
		}
	}
}

func TestCleanIsSound(t *testing.T) {
	for _, b := range texts() {
		clean := utf.Clean(b)
		if utf.Valid(clean) != len(clean) || utf.Clean(clean) != clean {
			t.Errorf("Clean(%x): %x is not sound", b, clean)
		}
		if got, err := utf.Implode(utf.Explode(b)); got != clean || err != api.OK {
			t.Errorf("%x exploded, imploded: %x, %d", b, got, err)
		}
		if utf.Cmp(b, clean) != 0 {
			t.Errorf("Cmp(%x, %x): not 0", b, clean)
		}
		if at := utf.Valid(b); utf.Valid(b[:at]) != at || clean[:at] != b[:at] {
			t.Errorf("Valid(%x): %d", b, at)
		}
	}
}

func TestOrderOfBytes(t *testing.T) {
	all := soundTexts()
	for _, a := range all {
		for _, b := range all {
			if got := utf.Cmp(a, b); got != strings.Compare(a, b) {
				t.Errorf("Cmp(%x, %x): %d", a, b, got)
			}
		}
	}
}

// TestSlicesAddUp cuts texts into two at each place.
func TestSlicesAddUp(t *testing.T) {
	for _, b := range texts() {
		end := len(utf.Explode(b))
		for at := -1; at <= end+1; at++ {
			if got := utf.Slice(b, 0, at) + utf.Slice(b, at, end); got != utf.Clean(b) {
				t.Errorf("%x cut at %d: %x", b, at, got)
			}
		}
	}
}

// TestArgumentsStay writes all over what was told: arguments, and other answers, must not see it.
func TestArgumentsStay(t *testing.T) {
	for _, b := range texts() {
		first := utf.Explode(b)
		want := slices.Clone(first)
		room := append(slices.Clone(first), 77, 77)
		text, _ := utf.Implode(room[:len(first)])
		if !slices.Equal(room, append(slices.Clone(want), 77, 77)) {
			t.Fatalf("Implode(%d): its list is %d", want, room)
		}
		for i := range first[:cap(first)] {
			first[:cap(first)][i] = 88
		}
		clear(room)
		if got := utf.Explode(b); !slices.Equal(got, want) || text != utf.Clean(b) {
			t.Fatalf("%x: overwritten", b)
		}
	}
}
