package show

import (
	"strings"

	"lorgnette/api"
	"lorgnette/dec"
	"lorgnette/lex"
	"lorgnette/utf"
)

// fitting tells whether a filter of a kind may have a Text.
func fitting(kind int, s string) bool {
	switch kind {
	case api.NodeNumber:
		return isNumber(s)
	case api.NodeText:
		return s == "" || isFormat(s)
	case api.NodeFormat:
		return isFormat(s)
	case api.NodeOp:
		return isSign(s)
	case api.NodeLabel, api.NodeBreak, api.NodeVar, api.NodeDef:
		return lex.Name(s)
	case api.NodeCall:
		return lex.Name(s) && !lex.Word(s)
	}
	return s == ""
}

// isNumber tells whether a text is a number as it may stand in a filter, where a sign ahead is none of its own.
func isNumber(s string) bool {
	_, err := dec.Parse(s)
	return err == api.OK && !strings.HasPrefix(s, "-")
}

// isFormat tells whether a text is a format's name.
func isFormat(s string) bool {
	name, ok := strings.CutPrefix(s, "@")
	return ok && lex.Name(name)
}

// isParam tells whether a text is a definition's param.
func isParam(s string) bool {
	return lex.Name(strings.TrimPrefix(s, "$"))
}

// isSign tells whether a text is a sign of two sides, but for those that have kinds of their own.
func isSign(s string) bool {
	switch s {
	case "//", "=", "|=", "+=", "-=", "*=", "/=", "%=", "//=", "or", "and", "==", "!=", "<", "<=", ">", ">=", "+", "-", "*", "/", "%":
		return true
	}
	return false
}

// sound tells whether a text is sound.
func sound(s string) bool {
	return utf.Valid(s) == len(s)
}
