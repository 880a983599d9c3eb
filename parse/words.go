package parse

import (
	"strconv"
	"strings"

	"gatehouse/api"
)

// kindOf is the kind of the declarations that a keyword begins, if it begins any.
func kindOf(keyword string) (int8, bool) {
	switch keyword {
	case "action":
		return api.DeclAction, true
	case "subject":
		return api.DeclSubject, true
	case "role":
		return api.DeclRole, true
	case "object":
		return api.DeclObject, true
	case "group":
		return api.DeclGroup, true
	case "member":
		return api.DeclMember, true
	case "inherit":
		return api.DeclInherit, true
	case "part":
		return api.DeclPart, true
	case "within":
		return api.DeclWithin, true
	case "allow":
		return api.DeclAllow, true
	case "deny":
		return api.DeclDeny, true
	case "except":
		return api.DeclExcept, true
	}
	return 0, false
}

func isKeyword(text string) bool {
	switch text {
	case "trust", "on", "above", "below":
		return true
	}
	_, begins := kindOf(text)
	return begins
}

func isName(t api.Token) bool {
	return t.Kind == api.TokenQuoted || t.Kind == api.TokenWord && !isKeyword(t.Text)
}

// isNumber asks again what lex has asked: tokens may be made by hand.
func isNumber(text string) bool {
	if text == "0" || text == "1" {
		return true
	}
	digits, ok := strings.CutPrefix(text, "0.")
	if !ok || len(digits) < 1 || len(digits) > 9 {
		return false
	}
	for _, r := range digits {
		if r < '0' || r > '9' {
			return false
		}
	}
	return true
}

// meaning is the float64 that a number means; of a number strconv refuses none.
func meaning(number string) float64 {
	level, _ := strconv.ParseFloat(number, 64)
	return level
}
