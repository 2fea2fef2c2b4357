package sample

import (
	"strconv"
	"strings"

	"lorgnette/api"
	"lorgnette/dec"
	"lorgnette/quote"
)

// How much of a value is shown: levels, items of each array, bytes of each text, and bytes of it all.
const (
	mostLevels = 12
	mostItems  = 20
	mostOfText = 40
	mostOfAll  = 400
)

// Show is a value as a message tells it: its JSON, as far as it has any, and not too long.
func Show(v api.Value) string {
	shown := showDown(v, mostLevels)
	return shown[:min(mostOfAll, len(shown))]
}

// ShowAll are values as a message tells them.
func ShowAll(l []api.Value) string {
	shown := make([]string, len(l))
	for i, v := range l {
		shown[i] = Show(v)
	}
	return strings.Join(shown, "; ")
}

// showDown shows so many levels of a value, as it may have itself.
func showDown(v api.Value, levels int) string {
	if levels == 0 {
		return ".."
	}
	switch {
	case v.Kind == api.Number && len(v.Arr)+len(v.Obj)+len(v.Str) == 0:
		return showNumber(v.Num)
	case !sameNumber(v.Num, api.Dec{}):
		return showOdd(v, levels)
	case v.Kind == api.Text && len(v.Arr)+len(v.Obj) == 0:
		return quote.Quote(v.Str[:min(mostOfText, len(v.Str))])
	case v.Str != "":
		return showOdd(v, levels)
	case v.Kind == api.Array && len(v.Obj) == 0:
		return showItems(v.Arr, levels)
	case v.Kind == api.Object && len(v.Arr) == 0:
		return showFields(v.Obj, levels)
	case v.Kind < api.Null || v.Kind > api.True || len(v.Arr)+len(v.Obj) > 0:
		return showOdd(v, levels)
	}
	return [...]string{"null", "false", "true"}[v.Kind]
}

// showOdd shows a value whose fields aren't those of its kind.
func showOdd(v api.Value, levels int) string {
	return "(kind " + strconv.Itoa(v.Kind) + ": " + showNumber(v.Num) + " " + quote.Quote(v.Str) + " " + showItems(v.Arr, levels) + " " + showFields(v.Obj, levels) + ")"
}

// showNumber shows one that may be as it is written.
func showNumber(d api.Dec) string {
	if dec.May(d) {
		text, _ := dec.Text(d)
		return text
	}
	shown := "(number:"
	if d.Neg {
		shown += " -"
	}
	for _, limb := range d.Limbs[:min(mostItems, len(d.Limbs))] {
		shown += " " + strconv.Itoa(int(limb))
	}
	return shown + " to the " + strconv.Itoa(d.Exp) + ")"
}

func showItems(items []api.Value, levels int) string {
	var shown []string
	for _, item := range items[:min(mostItems, len(items))] {
		shown = append(shown, showDown(item, levels-1))
	}
	return "[" + strings.Join(shown, ",") + "]"
}

func showFields(fields []api.Field, levels int) string {
	var shown []string
	for _, field := range fields[:min(mostItems, len(fields))] {
		shown = append(shown, quote.Quote(field.Key)+":"+showDown(field.Val, levels-1))
	}
	return "{" + strings.Join(shown, ",") + "}"
}
