package limb_test

import (
	"math/big"
	"slices"
	"testing"

	"lorgnette/api"
	"lorgnette/limb"
)

func TestAdd(t *testing.T) {
	for a, b := range pairs {
		want := plain(new(big.Int).Add(worth(a), worth(b)))
		if got := limb.Add(a, b); !slices.Equal(got, want) {
			t.Errorf("Add(%v, %v): %v, not %v", a, b, got, want)
		}
	}
}

func TestMul(t *testing.T) {
	for a, b := range pairs {
		want := plain(new(big.Int).Mul(worth(a), worth(b)))
		if got := limb.Mul(a, b); !slices.Equal(got, want) {
			t.Errorf("Mul(%v, %v): %v, not %v", a, b, got, want)
		}
	}
}

func TestSub(t *testing.T) {
	for a, b := range pairs {
		var want []uint32
		wantErr := api.ErrArg
		if worth(a).Cmp(worth(b)) >= 0 {
			want, wantErr = plain(new(big.Int).Sub(worth(a), worth(b))), api.OK
		}
		if got, err := limb.Sub(a, b); !slices.Equal(got, want) || err != wantErr {
			t.Errorf("Sub(%v, %v): %v, %d, not %v, %d", a, b, got, err, want, wantErr)
		}
	}
	for _, c := range [][2][]uint32{{{1}, {2}}, {nil, {1}}, {{999999999}, {1000000000}}, {{5, 0}, {0, 1}}} {
		if got, err := limb.Sub(c[0], c[1]); len(got) != 0 || err != api.ErrArg {
			t.Errorf("Sub(%v, %v): %v, %d", c[0], c[1], got, err)
		}
	}
}
