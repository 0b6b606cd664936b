package tests

import (
	"regexp"
	"strings"
)

// pathForm says by regular expressions whether a text has the form of a path:
// strings, lengths and brackets are put out of the way one after the other, from
// the inside outwards, with a control byte in their place.
type pathForm struct {
	quoted, length, bracket, whole *regexp.Regexp
}

const (
	formString  = "\x01"
	formBracket = "\x02"
	formLength  = "\x03"
)

func newPathForm() pathForm {
	name := `[A-Za-z_][A-Za-z0-9_]*`
	number := `(?:0|-?[1-9][0-9]{0,8})`
	ref := `[@$](?:\.` + name + `|\[` + formString + `\]|\[` + number + `\])*`
	operand := `(?:` + number + `|` + formString + `|true|false|null|` + ref + `|` + formLength + `)`
	prim := `!*(?:` + formBracket + `|` + operand + `(?:==|!=|<=?|>=?)` + operand + `|` + ref + `)`
	cond := prim + `(?:(?:&&|\|\|)` + prim + `)*`
	sel := `(?:` + formString + `|\*|` + number + `|` + number + `?:` + number + `?(?::` + number + `?)?|\?` + cond + `)`
	sels := `\[` + sel + `(?:,` + sel + `)*\]`
	return pathForm{
		quoted:  regexp.MustCompile(`'(?:[^'\\\x00-\x1f]|\\'|\\\\)*'`),
		length:  regexp.MustCompile(`length\(` + ref + `\)`),
		bracket: regexp.MustCompile(`\(` + cond + `\)`),
		whole:   regexp.MustCompile(`^\$(?:\.\.?` + name + `|\.\.?\*|` + sels + `|\.\.` + sels + `)*$`),
	}
}

func (f pathForm) fits(text string) bool {
	if strings.ContainsAny(text, formString+formBracket+formLength+"\n") {
		return false
	}
	text = f.quoted.ReplaceAllLiteralString(text, formString)
	text = f.length.ReplaceAllLiteralString(text, formLength)
	for f.bracket.MatchString(text) {
		text = f.bracket.ReplaceAllLiteralString(text, formBracket)
	}
	return f.whole.MatchString(text)
}
