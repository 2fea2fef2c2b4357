package utf_test

import (
	"testing"

	"lorgnette/api"
	"lorgnette/utf"
)

func checkDecode(t *testing.T, b string) {
	t.Helper()
	wantPoint, wantBytes, wantOk := firstOf(b)
	if p, n, ok := utf.Decode(b); p != wantPoint || n != wantBytes || ok != wantOk {
		t.Errorf("Decode(%x): %d, %d, %t, not %d, %d, %t", b, p, n, ok, wantPoint, wantBytes, wantOk)
	}
}

func TestDecodeByHand(t *testing.T) {
	for _, c := range []struct {
		b     string
		p, n  int
		sound bool
	}{
		{"", 65533, 0, false},
		// The first and the last code point of one, two, three and four bytes.
		{"\x00", 0, 1, true}, {"\x7f", 127, 1, true}, {"\xc2\x80", 128, 2, true}, {"\xdf\xbf", 2047, 2, true}, {"\xe0\xa0\x80", 2048, 3, true}, {"\xef\xbf\xbf", 65535, 3, true}, {"\xf0\x90\x80\x80", 65536, 4, true}, {"\xf4\x8f\xbf\xbf", 1114111, 4, true},
		{"A", 65, 1, true}, {"\xc3\xa4", 228, 2, true}, {"\xe2\x82\xac", 8364, 3, true}, {"\xed\x9f\xbf", 55295, 3, true}, {"\xee\x80\x80", 57344, 3, true}, {"\xef\xbf\xbd", 65533, 3, true}, {"\xf0\x9f\x98\x80", 128512, 4, true},
		// What stands behind the first one is not looked at.
		{"ab", 97, 1, true}, {"a\xff", 97, 1, true}, {"\xc3\xa4\xa4", 228, 2, true}, {"\xe2\x82\xac\x80", 8364, 3, true}, {"\xf0\x9f\x98\x80\xf0", 128512, 4, true},
		// Cut off, by the end or by another byte.
		{"\xc3", 65533, 1, false}, {"\xe2", 65533, 1, false}, {"\xe2\x82", 65533, 1, false}, {"\xf0", 65533, 1, false}, {"\xf0\x9f", 65533, 1, false}, {"\xf0\x9f\x98", 65533, 1, false},
		{"\xc3a", 65533, 1, false}, {"\xe2a\x82", 65533, 1, false}, {"\xe2\x82a", 65533, 1, false}, {"\xf0\x9f\x98a", 65533, 1, false}, {"\xf0\x9fa\x80", 65533, 1, false}, {"\xc3\xc3\xa4", 65533, 1, false}, {"\xe2\x82\xc0", 65533, 1, false}, {"\xc2\x00", 65533, 1, false}, {"\xc2\x7f", 65533, 1, false},
		{"\x80", 65533, 1, false}, {"\xbf\xbf", 65533, 1, false}, {"\xc0\x80", 65533, 1, false}, {"\xc1\xbf", 65533, 1, false}, {"\xe0\x9f\xbf", 65533, 1, false}, {"\xe0\x80\x80", 65533, 1, false}, {"\xf0\x8f\xbf\xbf", 65533, 1, false}, {"\xf0\x80\x80\x80", 65533, 1, false},
		{"\xed\xa0\x80", 65533, 1, false}, {"\xed\xbf\xbf", 65533, 1, false}, {"\xf4\x90\x80\x80", 65533, 1, false}, {"\xf5\x80\x80\x80", 65533, 1, false}, {"\xf7\xbf\xbf\xbf", 65533, 1, false}, {"\xf8\x90\x80\x80\x80", 65533, 1, false}, {"\xfe", 65533, 1, false}, {"\xff", 65533, 1, false}, {"\xff\xbf\xbf\xbf", 65533, 1, false},
	} {
		if p, n, sound := utf.Decode(c.b); p != c.p || n != c.n || sound != c.sound {
			t.Errorf("Decode(%x): %d, %d, %t, not %d, %d, %t", c.b, p, n, sound, c.p, c.n, c.sound)
		}
	}
}

func TestDecode(t *testing.T) {
	for _, b := range texts() {
		checkDecode(t, b)
	}
}

// TestDecodeFewBytes asks for all texts of one byte and of two, with and without more behind them.
func TestDecodeFewBytes(t *testing.T) {
	for first := range 256 {
		checkDecode(t, string([]byte{byte(first)}))
		for second := range 256 {
			for _, behind := range []string{"", "\x80", "\x80\x80", "\xbfa", "a"} {
				checkDecode(t, string([]byte{byte(first), byte(second)})+behind)
			}
		}
	}
}

// TestDecodeBordersOfBytes asks for all texts of four bytes that stand beside the borders of what bytes may be.
func TestDecodeBordersOfBytes(t *testing.T) {
	borders := []byte{0, 65, 127, 128, 129, 143, 144, 159, 160, 191, 192, 193, 194, 223, 224, 225, 236, 237, 238, 239, 240, 241, 243, 244, 245, 247, 248, 252, 254, 255}
	for _, first := range borders {
		for _, second := range borders {
			for _, third := range borders {
				for _, fourth := range borders {
					checkDecode(t, string([]byte{first, second, third, fourth}))
				}
			}
		}
	}
}

func TestEncodeByHand(t *testing.T) {
	for _, c := range []struct {
		p int
		b string
	}{
		{0, "\x00"}, {65, "A"}, {127, "\x7f"}, {128, "\xc2\x80"}, {228, "\xc3\xa4"}, {2047, "\xdf\xbf"}, {2048, "\xe0\xa0\x80"}, {8364, "\xe2\x82\xac"}, {55295, "\xed\x9f\xbf"}, {57344, "\xee\x80\x80"}, {65533, "\xef\xbf\xbd"}, {65535, "\xef\xbf\xbf"},
		{65536, "\xf0\x90\x80\x80"}, {128512, "\xf0\x9f\x98\x80"}, {1048576, "\xf4\x80\x80\x80"}, {1114111, "\xf4\x8f\xbf\xbf"},
	} {
		if b, err := utf.Encode(c.p); b != c.b || err != api.OK {
			t.Errorf("Encode(%d): %x, %d", c.p, b, err)
		}
	}
	for _, p := range notPoints() {
		if b, err := utf.Encode(p); b != "" || err != api.ErrArg {
			t.Errorf("Encode(%d): %x, %d", p, b, err)
		}
	}
}

// TestEveryPoint asks for all numbers from a little below 0 to a little above the last code point.
func TestEveryPoint(t *testing.T) {
	for p := -100; p < 1114112+100; p++ {
		b, err := utf.Encode(p)
		if !mayBe(p) {
			if b != "" || err != api.ErrArg {
				t.Errorf("Encode(%d): %x, %d", p, b, err)
			}
			continue
		}
		if b != bytesOf(p) || err != api.OK {
			t.Errorf("Encode(%d): %x, %d", p, b, err)
		}
		if q, n, ok := utf.Decode(b); q != p || n != len(b) || !ok {
			t.Errorf("Decode(%x): %d, %d, %t", b, q, n, ok)
		}
	}
}
