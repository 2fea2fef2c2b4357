package cursor

import (
	"testing"

	"lorgnette/api"
)

// TestDirectoryIsMadeOnce looks from within: no answer tells when a directory is made.
func TestDirectoryIsMadeOnce(t *testing.T) {
	d, _ := New([]byte(`{"a":["[1]",2]}`))
	d.Root()
	d.Looks()
	if d.pairs != nil {
		t.Error("made ahead of the first look")
	}
	d.Items(d.Root())
	pairs := d.pairs
	if pairs == nil || pairs.Len() != 4 || len(d.brackets) != 4 {
		t.Fatal("not made by the first look:", pairs)
	}
	d.Value(d.Root())
	d.Value(api.Span{From: 7, To: 10}) // in quotes: it has a directory of its own
	if d.pairs != pairs {
		t.Error("made again")
	}
}
