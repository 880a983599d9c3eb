package valid

import (
	"slices"
	"strings"

	"gatehouse/api"
)

// use takes what a declaration says of names; all that are declared are known by then.
func (b *builder) use(d api.Decl) *api.Fault {
	p := &b.policy
	switch d.Kind {
	case api.DeclMember:
		return b.usePairs(d, &p.Members, api.DeclSubject, api.DeclRole)
	case api.DeclInherit:
		return b.usePairs(d, &p.Inherits, api.DeclRole, api.DeclRole)
	case api.DeclPart:
		return b.usePairs(d, &p.Parts, api.DeclObject, api.DeclGroup)
	case api.DeclWithin:
		return b.usePairs(d, &p.Withins, api.DeclGroup, api.DeclGroup)
	case api.DeclAllow, api.DeclDeny:
		return b.useRule(d)
	case api.DeclExcept:
		return b.useExcepts(d)
	}
	return nil
}

func (b *builder) usePairs(d api.Decl, list *[]api.Pair, from, to int8) *api.Fault {
	if !b.is(from, d.Head.Text) {
		return faultAt(d.Head, api.ErrUnknown)
	}
	for _, w := range d.Names {
		if !b.is(to, w.Text) {
			return faultAt(w, api.ErrUnknown)
		}
		pair := api.Pair{From: strings.Clone(d.Head.Text), To: strings.Clone(w.Text)}
		if e := addOnce(list, pair, api.MaxPairs); e != api.OK {
			return faultAt(w, e)
		}
	}
	return nil
}

func (b *builder) useExcepts(d api.Decl) *api.Fault {
	if !b.is(api.DeclSubject, d.Head.Text) {
		return faultAt(d.Head, api.ErrUnknown)
	}
	if !b.is(api.DeclObject, d.On.Text) {
		return faultAt(d.On, api.ErrUnknown)
	}
	for _, w := range d.Names {
		if !b.is(api.DeclAction, w.Text) {
			return faultAt(w, api.ErrUnknown)
		}
		triple := api.Triple{Subject: strings.Clone(d.Head.Text), Object: strings.Clone(d.On.Text), Action: strings.Clone(w.Text)}
		if e := addOnce(&b.policy.Excepts, triple, api.MaxExcepts); e != api.OK {
			return faultAt(w, e)
		}
	}
	return nil
}

func addOnce[E comparable](list *[]E, thing E, limit int) api.Errno {
	if slices.Contains(*list, thing) {
		return api.ErrTwice
	}
	if len(*list) >= limit {
		return api.ErrMany
	}
	*list = append(*list, thing)
	return api.OK
}

func (b *builder) useRule(d api.Decl) *api.Fault {
	if b.whos[d.Head.Text] == 0 {
		return faultAt(d.Head, api.ErrUnknown)
	}
	if b.whats[d.On.Text] == 0 {
		return faultAt(d.On, api.ErrUnknown)
	}
	actions, f := b.actionsOf(d)
	if f != nil {
		return f
	}
	if e := wrongTerms(d); e != api.OK {
		return faultAt(d.Head, e)
	}
	if len(b.policy.Rules) >= api.MaxRules {
		return faultAt(d.Head, api.ErrMany)
	}
	b.policy.Rules = append(b.policy.Rules, api.Rule{
		Deny:    d.Kind == api.DeclDeny,
		Who:     strings.Clone(d.Head.Text),
		What:    strings.Clone(d.On.Text),
		Actions: actions,
		Cond:    d.Cond,
		Level:   d.Level,
	})
	return nil
}

// actionsOf are none where the rule speaks of all.
func (b *builder) actionsOf(d api.Decl) ([]string, *api.Fault) {
	if d.All {
		return nil, nil
	}
	var actions []string
	for _, w := range d.Names {
		if !b.is(api.DeclAction, w.Text) {
			return nil, faultAt(w, api.ErrUnknown)
		}
		if slices.Contains(actions, w.Text) {
			return nil, faultAt(w, api.ErrTwice)
		}
		actions = append(actions, strings.Clone(w.Text))
	}
	return actions, nil
}

// wrongTerms is what is wrong with a rule's condition and its level.
func wrongTerms(d api.Decl) api.Errno {
	switch d.Cond {
	case api.Always:
		if d.Level != 0 {
			return api.ErrNumber
		}
	case api.Above, api.Below:
	default:
		return api.ErrArg
	}
	if !mayBeWritten(d.Level) { // with Always too: -0 is equal to 0
		return api.ErrNumber
	}
	return api.OK
}
