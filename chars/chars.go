// Package chars tells which texts XML takes.
package chars

import "hornbeam/utf"

// IsText tells whether a text is whole UTF-8 of characters that XML takes.
func IsText(s string) bool {
	for _, r := range utf.Runes(s) {
		if !utf.Char(r) {
			return false
		}
	}
	_, whole := utf.Check(s)
	return whole
}

// NameSize tells how many bytes the name has that a text begins with (0: it begins with none).
func NameSize(s string) int {
	for at, r := range utf.Runes(s) {
		if at == 0 && !utf.NameStart(r) || !utf.NamePart(r) {
			return at
		}
	}
	end, _ := utf.Check(s)
	return end
}

// IsName tells whether a text is a name.
func IsName(s string) bool { return s != "" && NameSize(s) == len(s) }
