package bitmap_test

import (
	"math/bits"
	"strings"
	"testing"

	"lorgnette/bitmap"
)

func TestBitsByHand(t *testing.T) {
	for _, c := range []struct {
		b    string
		c    byte
		want uint64
	}{
		{"", 'a', 0}, {"", 0, 0}, {"a", 'a', 1}, {"a", 'b', 0}, {"abab", 'b', 10}, {"abab", 'a', 5}, {"\x00\xff\x00", 0, 5}, {"\x00\xff\x00", 255, 2}, {"aA", 'A', 2}, {"ä", 0xa4, 2}, {"\x7f\x80\x81\x00\x01", 128, 2}, {"\x7f\x80\x81\x00\x01", 1, 16},
		{strings.Repeat("a", 31) + "bb", 'b', 3 << 31},
		{strings.Repeat("a", 63), 'a', full >> 1},
		{strings.Repeat("a", 64), 'a', full},
		{strings.Repeat("a", 65), 'a', full},
		{strings.Repeat("a", 1000), 'a', full},
		{strings.Repeat("a", 63) + "bb", 'b', 1 << 63},
		{strings.Repeat("a", 64) + "b", 'b', 0},
	} {
		if got := bitmap.Bits([]byte(c.b), c.c); got != c.want {
			t.Errorf("Bits(%q, %q): %x, not %x", c.b, c.c, got, c.want)
		}
	}
	if bitmap.Bits(nil, 'a') != 0 || bitmap.Bits(nil, 0) != 0 {
		t.Error("nothing has bytes")
	}
}

// TestBits asks for each byte in all kinds of texts.
func TestBits(t *testing.T) {
	for _, b := range texts() {
		for _, c := range []byte{0, 1, '"', '\\', '[', ']', 'a', 127, 128, 255} {
			got := bitmap.Bits([]byte(b), c)
			for i := range 64 {
				if has(got, i) != (i < len(b) && b[i] == c) {
					t.Fatalf("Bits(%q, %q): %x, byte %d", b, c, got, i)
				}
			}
		}
	}
}

// TestBitsAllBytes holds all bytes against all others.
func TestBitsAllBytes(t *testing.T) {
	for c := range 256 {
		for d := range 256 {
			b := []byte{byte(d), byte(c), byte(d)}
			want := uint64(2)
			if c == d {
				want = 7
			}
			if got := bitmap.Bits(b, byte(c)); got != want {
				t.Errorf("Bits(%q, %d): %x", b, c, got)
			}
		}
	}
}

func TestPrefixByHand(t *testing.T) {
	for x, want := range map[uint64]uint64{0: 0, 1: full, 2: full - 1, 3: 1, 18: 14, 1 << 63: 1 << 63, 1<<63 | 1: full >> 1, 1<<63 | 1<<62: 1 << 62, full: 0x5555555555555555, 0xaaaaaaaaaaaaaaaa: 0x6666666666666666} {
		if got := bitmap.Prefix(x); got != want {
			t.Errorf("Prefix(%x): %x, not %x", x, got, want)
		}
	}
}

func TestPrefix(t *testing.T) {
	for _, x := range masks() {
		got := bitmap.Prefix(x)
		for i := range 64 {
			if has(got, i) != (bits.OnesCount64(x<<(63-i))%2 == 1) {
				t.Fatalf("Prefix(%x): %x, bit %d", x, got, i)
			}
		}
	}
}

func TestEscapedByHand(t *testing.T) {
	for _, c := range []struct {
		back   uint64
		odd    bool
		want   uint64
		behind bool
	}{
		{0, false, 0, false}, {0, true, 1, false},
		// One run of backslashes, from an even place and from an odd one.
		{1, false, 2, false}, {2, false, 4, false}, {3, false, 2, false}, {6, false, 4, false}, {7, false, 10, false}, {14, false, 20, false}, {15, false, 10, false}, {30, false, 20, false},
		// The first backslash is escaped, or the byte ahead of the first one.
		{1, true, 1, false}, {2, true, 5, false}, {3, true, 5, false}, {6, true, 5, false}, {7, true, 5, false}, {15, true, 21, false},
		// More than one run.
		{5, false, 10, false}, {11, false, 18, false}, {0x1b, false, 0x12, false}, {0x5555555555555555, false, 0xaaaaaaaaaaaaaaaa, false}, {0xaaaaaaaaaaaaaaaa, false, 0x5555555555555554, true}, {0xaaaaaaaaaaaaaaaa, true, 0x5555555555555555, true},
		// Up to the last byte.
		{1 << 62, false, 1 << 63, false}, {1 << 63, false, 0, true}, {3 << 62, false, 1 << 63, false}, {7 << 61, false, 1 << 62, true}, {full, false, 0xaaaaaaaaaaaaaaaa, false}, {full, true, 0x5555555555555555, true}, {full - 1, false, 0x5555555555555554, true}, {full - 1, true, 0x5555555555555555, true},
	} {
		if got, behind := bitmap.Escaped(c.back, c.odd); got != c.want || behind != c.behind {
			t.Errorf("Escaped(%x, %t): %x, %t, not %x, %t", c.back, c.odd, got, behind, c.want, c.behind)
		}
	}
}

func TestEscaped(t *testing.T) {
	for _, back := range masks() {
		for _, odd := range bothBools {
			want, wantBehind := escapedOf(back, odd)
			if got, behind := bitmap.Escaped(back, odd); got != want || behind != wantBehind {
				t.Errorf("Escaped(%x, %t): %x, %t, not %x, %t", back, odd, got, behind, want, wantBehind)
			}
		}
	}
}

func TestInsideByHand(t *testing.T) {
	for _, c := range []struct {
		quotes uint64
		in     bool
		want   uint64
		behind bool
	}{
		{0, false, 0, false}, {0, true, full, true},
		{1, false, full, true}, {1, true, 0, false}, {2, true, 1, false}, {3, false, 1, false}, {3, true, full - 1, true}, {10, false, 6, false}, {10, true, full - 6, true},
		{1 << 63, false, 1 << 63, true}, {1 << 63, true, full >> 1, false}, {3 << 62, false, 1 << 62, false}, {1<<63 | 1, false, full >> 1, false}, {full, false, 0x5555555555555555, false}, {full, true, 0xaaaaaaaaaaaaaaaa, true},
	} {
		if got, behind := bitmap.Inside(c.quotes, c.in); got != c.want || behind != c.behind {
			t.Errorf("Inside(%x, %t): %x, %t, not %x, %t", c.quotes, c.in, got, behind, c.want, c.behind)
		}
	}
}

func TestInside(t *testing.T) {
	for _, quotes := range masks() {
		for _, in := range bothBools {
			want, wantBehind := insideOf(quotes, in)
			if got, behind := bitmap.Inside(quotes, in); got != want || behind != wantBehind {
				t.Errorf("Inside(%x, %t): %x, %t, not %x, %t", quotes, in, got, behind, want, wantBehind)
			}
		}
	}
}
