package parens_test

import (
	"math/rand"
	"testing"

	"lorgnette/parens"
)

// lawful are vectors, some of which are longer than the model can be asked for.
func lawful() []*parens.Vector {
	chance := rand.New(rand.NewSource(88))
	var all []*parens.Vector
	for _, l := range long() {
		all = append(all, vectorOf(l))
	}
	for n := range 8 {
		all = append(all, vectorOf(anyBits(chance, 20000+chance.Intn(20000), 3+n%5)), vectorOf(balanced(chance, 20000+chance.Intn(20000), 1+n)))
	}
	return all
}

func TestRankAndSelect(t *testing.T) {
	for _, v := range lawful() {
		for i := range v.Len() {
			if one := v.Select(v.Rank(i)); v.Opens(i) && one != i || !v.Opens(i) && one <= i && one != -1 {
				t.Fatalf("Select(Rank(%d)): %d", i, one)
			}
		}
		for k := range v.Rank(v.Len()) {
			if one := v.Select(k); v.Rank(one) != k || !v.Opens(one) {
				t.Fatalf("Rank(Select(%d)): %d", k, v.Rank(one))
			}
		}
	}
}

func TestCloseAndOpen(t *testing.T) {
	for _, v := range lawful() {
		for i := range v.Len() {
			c, o := v.Close(i), v.Open(i)
			if c >= 0 && (v.Open(c) != i || v.Opens(c) || c <= i || v.Excess(c+1) != v.Excess(i)) {
				t.Fatalf("Open(Close(%d)): %d", i, v.Open(c))
			}
			if o >= 0 && (v.Close(o) != i || !v.Opens(o) || o >= i || v.Excess(o) != v.Excess(i+1)) {
				t.Fatalf("Close(Open(%d)): %d", i, v.Close(o))
			}
		}
	}
}

// TestWithinIsClosedWithin goes from each bracket to the pair it is in, and from each pair to what it holds.
func TestWithinIsClosedWithin(t *testing.T) {
	for _, v := range lawful() {
		for i := range v.Len() {
			around := v.Enclose(i)
			if around < 0 {
				continue
			}
			if c := v.Close(around); around >= i || c <= i || v.Opens(i) && (v.Close(i) < 0 || v.Close(i) >= c) || !v.Opens(i) && v.Open(i) <= around {
				t.Fatalf("at %d, within %d to %d", i, around, c)
			}
		}
	}
}

func TestChildrenMakeUpThePair(t *testing.T) {
	for _, v := range lawful() {
		for i := range v.Len() {
			sum, last := 1, i
			for k := range 40 {
				child := v.Child(i, k)
				if child < 0 {
					if v.Close(i) >= 0 && (sum != v.Size(i) || last != v.Close(i)-1 || v.Child(i, k+1) != -1) {
						t.Fatalf("at %d: %d, not %d", i, sum, v.Size(i))
					}
					break
				}
				// Nothing is between a child and the Close of the one ahead.
				if child != last+1 || v.Enclose(child) != i {
					t.Fatalf("at %d: child %d at %d, behind %d", i, k, child, last)
				}
				sum, last = sum+v.Size(child), v.Close(child)
			}
			if sum > 1 && v.Close(i) < 0 {
				t.Fatalf("at %d: children of nothing closed", i)
			}
		}
	}
}
