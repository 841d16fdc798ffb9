// Package names holds the rule of which texts are names (chapter 1), so that all layers go by one.
package names

import "tenon/api"

// Is tells whether a text is a name.
func Is(s string) bool {
	if s == "" || len(s) > api.MaxName || !isLetter(s[0]) {
		return false
	}
	for i := 1; i < len(s); i++ {
		if !Byte(s[i]) {
			return false
		}
	}
	return true
}

// Byte tells whether a byte may stand in a name, behind its first one.
func Byte(c byte) bool { return isLetter(c) || isDigit(c) || c == '_' }

func isLetter(c byte) bool { return 'a' <= c && c <= 'z' }

func isDigit(c byte) bool { return '0' <= c && c <= '9' }
