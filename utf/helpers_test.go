package utf_test

import (
	"math"
	"math/rand"
	"strings"
)

// replaced is the bytes of 65533.
const replaced = "\xef\xbf\xbd"

func mayBe(p int) bool {
	return p >= 0 && p <= 1114111 && (p < 55296 || p > 57343)
}

// bytesOf is a code point's bytes, as the document tells them.
func bytesOf(p int) string {
	switch goesOn := func(p int) byte { return byte(128 + p%64) }; {
	case p < 128:
		return string([]byte{byte(p)})
	case p < 2048:
		return string([]byte{byte(192 + p/64), goesOn(p)})
	case p < 65536:
		return string([]byte{byte(224 + p/4096), goesOn(p / 64), goesOn(p)})
	default:
		return string([]byte{byte(240 + p/262144), goesOn(p / 4096), goesOn(p / 64), goesOn(p)})
	}
}

// firstOf is what Decode should tell: a text begins with a code point, if one's bytes are its first ones.
func firstOf(b string) (int, int, bool) {
	for n := 1; n <= min(4, len(b)); n++ {
		p := int(b[0]) - []int{0, 192, 224, 240}[n-1]
		for i := 1; i < n; i++ {
			p = 64*p + int(b[i]) - 128
		}
		if mayBe(p) && bytesOf(p) == b[:n] {
			return p, n, true
		}
	}
	return 65533, min(1, len(b)), false
}

// told is what a text should be, going on from the left: its code points, it as bytes made sound, and how far it was sound itself.
func told(b string) (l []int, clean string, sound int) {
	wasSound := true
	for rest := b; rest != ""; {
		p, n, ok := firstOf(rest)
		l, clean, rest = append(l, p), clean+bytesOf(p), rest[n:]
		if wasSound = wasSound && ok; wasSound {
			sound += n
		}
	}
	return l, clean, sound
}

// edgePoints are the code points beside each border that the document names.
func edgePoints() []int {
	return []int{0, 1, 65, 127, 128, 129, 228, 2047, 2048, 8364, 55295, 57344, 65532, 65533, 65534, 65535, 65536, 128512, 1114110, 1114111}
}

// notPoints are numbers that are no code points.
func notPoints() []int {
	return []int{-1, -65, -128, -65536, 55296, 55297, 56320, 57342, 57343, 1114112, 1114113, 2097151, 2097152, math.MaxInt32, math.MinInt32, 1 << 32, 1<<32 + 65, math.MaxInt, math.MinInt}
}

// wrongBytes are texts no byte of which begins a code point's bytes.
func wrongBytes() []string {
	return []string{
		// Beginnings of two, three and four bytes, cut off.
		"\xc2", "\xdf", "\xe0", "\xe2", "\xed", "\xef", "\xe0\xa0", "\xe2\x82", "\xed\x9f", "\xef\xbf", "\xf0", "\xf4", "\xf0\x90", "\xf0\x9f\x98", "\xf4\x8f", "\xf4\x8f\xbf",
		// Bytes that go on, with none ahead of them.
		"\x80", "\xbf", "\x80\x80\x80", "\x9f\x98\x80",
		// Forms longer than need be.
		"\xc0\x80", "\xc0\xaf", "\xc1\x81", "\xc1\xbf", "\xe0\x80\x80", "\xe0\x81\xbf", "\xe0\x9f\xbf", "\xf0\x80\x80\x80", "\xf0\x82\x82\xac", "\xf0\x8f\xbf\xbf",
		// What would be 55296, 56320, 57343; 1114112, and above.
		"\xed\xa0\x80", "\xed\xb0\x80", "\xed\xbf\xbf", "\xed\xa0\xbd\xed\xb8\x80", "\xf4\x90\x80\x80", "\xf5\x80\x80\x80", "\xf7\xbf\xbf\xbf",
		// First bytes of forms that there are not.
		"\xf8\x80\x80\x80\x80", "\xf8\x88\x80\x80\x80", "\xfb\xbf\xbf\xbf\xbf", "\xfc\x84\x80\x80\x80\x80", "\xfe", "\xff", "\xfe\xbf", "\xff\xff",
	}
}

// pieces are what texts are put together of.
func pieces() []string {
	all := wrongBytes()
	for _, p := range edgePoints() {
		all = append(all, bytesOf(p))
	}
	return all
}

// texts are one piece, wrong or sound, alone, in the middle and at both ends of others; and many pieces in a row, the same at each run.
func texts() []string {
	all := []string{"", "a", "abc", "aäb", "\x00", "äöü€😀"}
	for _, piece := range pieces() {
		all = append(all, piece, piece+"a", "a"+piece, "a"+piece+"b", piece+"ä", "€"+piece, "😀"+piece+"😀", piece+"abc"+piece)
	}
	chance := rand.New(rand.NewSource(4))
	for range 2000 {
		var text strings.Builder
		for range chance.Intn(9) {
			switch ps := pieces(); chance.Intn(3) {
			case 0:
				text.WriteByte(byte(chance.Intn(256)))
			default:
				text.WriteString(ps[chance.Intn(len(ps))])
			}
		}
		all = append(all, text.String())
	}
	return all
}

// soundTexts are texts that are sound, the empty one ahead.
func soundTexts() []string {
	all := []string{"", "a", "ab", "aäb", replaced, "\x00\x00"}
	for _, p := range edgePoints() {
		for _, q := range edgePoints() {
			all = append(all, bytesOf(p), bytesOf(p)+bytesOf(q))
		}
	}
	return all
}
