package bitmap_test

import (
	"math/rand"
	"strings"

	"lorgnette/api"
)

// full is the mask of all bytes.
const full = ^uint64(0)

var bothBools = []bool{false, true}

// carries are all that a word may be handed.
func carries() []api.Carry {
	return []api.Carry{{}, {Odd: true}, {In: true}, {Odd: true, In: true}}
}

func has(mask uint64, i int) bool {
	return mask>>i&1 == 1
}

func bit(i int, set bool) uint64 {
	if set {
		return 1 << i
	}
	return 0
}

// escapedOf is what Escaped should tell, byte by byte.
func escapedOf(back uint64, odd bool) (uint64, bool) {
	var mask uint64
	for i := range 64 {
		mask |= bit(i, odd)
		odd = has(back, i) && !odd
	}
	return mask, odd
}

// insideOf is what Inside should tell, byte by byte.
func insideOf(quotes uint64, in bool) (uint64, bool) {
	var mask uint64
	for i := range 64 {
		in = in != has(quotes, i)
		mask |= bit(i, in)
	}
	return mask, in
}

// scanOf is what Scan should tell, byte by byte.
func scanOf(b string, c api.Carry) (api.Masks, api.Carry) {
	var m api.Masks
	for i := range min(len(b), 64) {
		quote := b[i] == '"' && !c.Odd
		c = api.Carry{Odd: b[i] == '\\' && !c.Odd, In: c.In != quote}
		m.Quote |= bit(i, quote)
		m.In |= bit(i, c.In)
		if c.In {
			continue
		}
		switch b[i] {
		case '[', '{':
			m.Open |= 1 << i
		case ']', '}':
			m.Close |= 1 << i
		case ':':
			m.Colon |= 1 << i
		case ',':
			m.Comma |= 1 << i
		case 32, 9, 10, 13:
			m.Space |= 1 << i
		}
	}
	return m, c
}

// masks are runs from each place to each other one, all short patterns at both ends and in the middle, and many by chance, the same at each run.
func masks() []uint64 {
	all := []uint64{0, full, 0x5555555555555555, 0xaaaaaaaaaaaaaaaa, 0x3333333333333333, 0x7777777777777777, 0xeeeeeeeeeeeeeeee, 0x00000000ffffffff, 0x8000000000000001}
	for from := range 64 {
		for to := from + 1; to <= 64; to++ {
			run := full >> (64 - to) & (full << from)
			all = append(all, run, ^run)
		}
	}
	for pattern := range uint64(1 << 10) {
		all = append(all, pattern, pattern<<27, pattern<<54, pattern|pattern<<54)
	}
	chance := rand.New(rand.NewSource(6))
	for range 20000 {
		x, y := chance.Uint64(), chance.Uint64()
		all = append(all, x, x&y, x|y)
	}
	return all
}

// texts are parts of JSON, texts of all lengths up to two words, each byte at places beside the borders, and many by chance, the same at each run.
func texts() []string {
	all := []string{"", `{"a":1}`, `]," \`, `"a\"b\\" : [1, {"c:,[]{}": null}]`, `\"`, `\\"`, `""""`, `"\"\\"`, `\[\]\{\}\:\,\ `, "\t\n\r \v\f\x00\x1f\x7f\xa0\x85", strings.Repeat(" ", 64) + "[", strings.Repeat(`\`, 63) + `"`, strings.Repeat(`\`, 64) + `"`, strings.Repeat(`"`, 65), `"` + strings.Repeat("ä", 40) + `"`}
	signs := "[]{}:,\"\\ \t\n\ra1\x00\xff"
	for n := range 130 {
		for i := range len(signs) {
			all = append(all, strings.Repeat(signs[i:i+1], n))
		}
	}
	for c := range 256 {
		for _, at := range []int{0, 1, 31, 32, 62, 63, 64} {
			ahead := strings.Repeat("a", at)
			all = append(all, ahead+string([]byte{byte(c)}), ahead+string([]byte{byte(c), 'a'}), ahead+string([]byte{byte(c)})+strings.Repeat("]", 64))
		}
	}
	chance := rand.New(rand.NewSource(66))
	for _, kinds := range []string{signs, `"\`, `"\[`, `"a`, `"\ab{}[]`, `{":,} ` + "\n"} {
		for range 3000 {
			b := make([]byte, chance.Intn(70))
			for i := range b {
				b[i] = kinds[chance.Intn(len(kinds))]
			}
			all = append(all, string(b))
		}
	}
	return all
}
