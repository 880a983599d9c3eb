package canon

import "gatehouse/api"

// The keywords that begin a declaration, by its kind.
var keywords = [...]string{
	api.DeclAction:  "action",
	api.DeclSubject: "subject",
	api.DeclRole:    "role",
	api.DeclObject:  "object",
	api.DeclGroup:   "group",
	api.DeclMember:  "member",
	api.DeclInherit: "inherit",
	api.DeclPart:    "part",
	api.DeclWithin:  "within",
	api.DeclAllow:   "allow",
	api.DeclDeny:    "deny",
	api.DeclExcept:  "except",
}

// hasForm says whether there is a line for such a declaration, whatever its names and its number are.
func hasForm(d api.Decl) bool {
	if d.Kind < api.DeclAction || d.Kind > api.DeclExcept {
		return false
	}
	if !isRule(d.Kind) {
		return len(d.Names) > 0
	}
	return isCond(d.Cond) && d.All == (len(d.Names) == 0)
}

func isRule(kind int8) bool {
	return kind == api.DeclAllow || kind == api.DeclDeny
}

func isCond(cond int8) bool {
	return cond == api.Always || cond == api.Above || cond == api.Below
}

func partsOf(d api.Decl) []part {
	parts := []part{fixed(keywords[d.Kind])}
	if d.Kind >= api.DeclMember {
		parts = append(parts, headOf(d)...)
	}
	if isRule(d.Kind) && d.All {
		parts = append(parts, fixed("*"))
	} else {
		parts = append(parts, list(d.Names))
	}
	parts = append(parts, levelOf(d)...)
	return append(parts, mark(";"))
}

// headOf is what stands between a declaration's keyword and its names.
func headOf(d api.Decl) []part {
	parts := []part{name(d.Head.Text)}
	if d.Kind >= api.DeclAllow {
		parts = append(parts, fixed("on"), name(d.On.Text))
	}
	return append(parts, fixed(":"))
}

// levelOf is what stands between a declaration's names and its end.
func levelOf(d api.Decl) []part {
	switch {
	case d.Kind == api.DeclSubject && d.Level != 1:
		return []part{fixed("trust"), number(d.Level)}
	case isRule(d.Kind) && d.Cond == api.Above:
		return []part{fixed("above"), number(d.Level)}
	case isRule(d.Kind) && d.Cond == api.Below:
		return []part{fixed("below"), number(d.Level)}
	}
	return nil
}
