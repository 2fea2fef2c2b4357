package marks_test

import (
	"math"
	"math/rand"
	"slices"
	"strings"

	"lorgnette/api"
)

// full is the mask of all bytes.
const full = ^uint64(0)

// kinds of bytes, as the document's words tell them apart.
const (
	quoteByte = iota
	inByte
	openByte
	closeByte
	colonByte
	commaByte
	blankByte
	otherByte
)

// look is what one byte is.
type look struct {
	kind int
	in   bool // of a string, with the quote that begins it
}

// looksOf tells what each byte of a text is, one by one.
func looksOf(b string) []look {
	var l []look
	odd, in := false, false
	for i := range len(b) {
		quote := b[i] == '"' && !odd
		odd = b[i] == '\\' && !odd
		in = in != quote
		kind := plainKind(b[i])
		if quote {
			kind = quoteByte
		} else if in {
			kind = inByte
		}
		l = append(l, look{kind, in})
	}
	return l
}

func plainKind(c byte) int {
	switch c {
	case '[', '{':
		return openByte
	case ']', '}':
		return closeByte
	case ':':
		return colonByte
	case ',':
		return commaByte
	case 32, 9, 10, 13:
		return blankByte
	}
	return otherByte
}

// indexOf is what Build should tell.
func indexOf(b string) api.Index {
	x := api.Index{Len: len(b)}
	for i, l := range looksOf(b) {
		if i%64 == 0 {
			x.Words = append(x.Words, api.Masks{})
		}
		m := &x.Words[i/64]
		bit := uint64(1) << (i % 64)
		if l.in {
			m.In |= bit
		}
		if to := map[int]*uint64{quoteByte: &m.Quote, openByte: &m.Open, closeByte: &m.Close, colonByte: &m.Colon, commaByte: &m.Comma, blankByte: &m.Space}[l.kind]; to != nil {
			*to |= bit
		}
	}
	return x
}

// marksOf is what Marks should tell.
func marksOf(b string) []api.Mark {
	var l []api.Mark
	ahead := blankByte
	for i, k := range looksOf(b) {
		switch k.kind {
		case openByte, closeByte, colonByte, commaByte:
			l = append(l, api.Mark{At: i, Kind: b[i]})
		case quoteByte:
			if k.in {
				l = append(l, api.Mark{At: i, Kind: 34})
			}
		case otherByte:
			if ahead != otherByte {
				l = append(l, api.Mark{At: i, Kind: 48})
			}
		}
		ahead = k.kind
	}
	return l
}

func bit(mask uint64, i int) bool {
	return mask>>i&1 == 1
}

// nextOf is what Next should tell, for as long as x has words.
func nextOf(x api.Index, i int) int {
	for p := max(i, 0); p < min(x.Len, 64*len(x.Words)); p++ {
		m := x.Words[p/64]
		for _, mask := range []uint64{m.Quote, m.Open, m.Close, m.Colon, m.Comma} {
			if bit(mask, p%64) {
				return p
			}
		}
	}
	return max(x.Len, 0)
}

// bracketsOf is what Brackets should tell.
func bracketsOf(x api.Index) ([]uint64, int) {
	var opens []bool
	for _, m := range x.Words {
		for i := range 64 {
			if bit(m.Open, i) || bit(m.Close, i) {
				opens = append(opens, bit(m.Open, i))
			}
		}
	}
	words := make([]uint64, (len(opens)+63)/64)
	for i, o := range opens {
		if o {
			words[i/64] |= 1 << (i % 64)
		}
	}
	return words, len(opens)
}

func sameIndex(x, y api.Index) bool {
	return x.Len == y.Len && slices.Equal(x.Words, y.Words)
}

// texts are parts of JSON and of none, each byte and each pair of signs at places beside the words' borders, and many by chance, the same at each run.
func texts() []string {
	all := []string{"", " ", "0", `"`, `\"`, `{"a":1}`, `[1, "a:"]`, `]," \`, `"a\"b\\" : [1, {"c:,[]{}": null}]`, `\"a\"`, `\\"a"`, `""""`, `"a"b"c"`, `1"a"2`, `\[\]\:\,\ \"`, "\t\n\r \v\f\x00\x1f\x7f\xa0\x85", `"` + strings.Repeat("ä", 80) + `"`, strings.Repeat(`\`, 129) + `"[`, strings.Repeat(`{"a":[true,{}]},`, 50)}
	signs := "[]{}:,\"\\ \t\n\ra1\x00\xff"
	for n := range 200 {
		for i := range len(signs) {
			all = append(all, strings.Repeat(signs[i:i+1], n))
		}
	}
	for c := range 256 {
		for _, at := range []int{0, 1, 62, 63, 64, 127, 128} {
			for _, ahead := range []string{"a", " ", "[", `"`, `\`} {
				all = append(all, strings.Repeat(ahead, at)+string([]byte{byte(c)})+"a ]")
			}
		}
	}
	for i := range len(signs) {
		for j := range len(signs) {
			for _, at := range []int{0, 61, 62, 63, 64} {
				all = append(all, strings.Repeat(" ", at)+signs[i:i+1]+signs[j:j+1], strings.Repeat("a", at)+signs[i:i+1]+signs[j:j+1]+"b", `"`+strings.Repeat("a", at)+signs[i:i+1]+signs[j:j+1]+`"]`)
			}
		}
	}
	chance := rand.New(rand.NewSource(7))
	for _, kinds := range []string{signs, `"\`, `"\[`, `"a`, "a ", "[a", `"\ab{}[]`, `{":,} ` + "\n"} {
		for range 800 {
			b := make([]byte, chance.Intn(300))
			for i := range b {
				b[i] = kinds[chance.Intn(len(kinds))]
			}
			all = append(all, string(b))
		}
	}
	return all
}

// oddIndexes are some that no text has: words too few, too many, with masks of any bits, and any Len.
func oddIndexes() []api.Index {
	lens := []int{math.MinInt, -65, -64, -1, 0, 1, 5, 63, 64, 65, 127, 128, 129, 192, 1000, math.MaxInt - 1, math.MaxInt}
	words := [][]api.Masks{
		nil, {}, {{}}, {{In: full, Space: full}}, {{Open: full}}, {{Open: full, Close: full}, {Close: full}}, {{}, {Comma: 1 << 63}}, {{Colon: 1}, {}, {Quote: 1}}, {{Quote: 32, In: full}, {Close: 1 << 5}}, {{Open: 3, Close: 6}},
	}
	chance := rand.New(rand.NewSource(77))
	for n := range 60 {
		var l []api.Masks
		for range n % 5 {
			l = append(l, anyMasks(chance))
		}
		words = append(words, l)
	}
	var all []api.Index
	for _, w := range words {
		for _, n := range lens {
			all = append(all, api.Index{Words: w, Len: n})
		}
	}
	return all
}

// anyMasks are masks with few bits, which may lie on one another.
func anyMasks(chance *rand.Rand) api.Masks {
	few := func() uint64 {
		return chance.Uint64() & chance.Uint64() & chance.Uint64() & chance.Uint64()
	}
	return api.Masks{Quote: few(), In: chance.Uint64(), Open: few(), Close: few(), Colon: few(), Comma: few(), Space: chance.Uint64()}
}
