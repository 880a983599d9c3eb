package graph

import (
	"strings"

	"gatehouse/api"
	"gatehouse/bits"
	"gatehouse/mean"
)

// namesOf is a graph that has a policy's names, as copies, and nothing more yet.
func namesOf(p api.Policy) api.Graph {
	var g api.Graph
	for _, s := range p.Subjects {
		g.Subjects = append(g.Subjects, strings.Clone(s.Name))
	}
	g.Actions, g.Objects = copies(p.Actions), copies(p.Objects)
	return g
}

func copies(names []string) []string {
	var own []string
	for _, name := range names {
		own = append(own, strings.Clone(name))
	}
	return own
}

// masksOf asks mean once for all that the policy allows, as mean.Mask would go through the whole policy again for each subject and object. A name that stands at several places has its bits at all of them.
func masksOf(p api.Policy, names api.Graph) square {
	subjects, objects, actions := placesOf(names.Subjects), placesOf(names.Objects), placesOf(names.Actions)
	var masks square
	for _, t := range mean.Relation(p) {
		mask := bits.Mask(actions[t.Action]...)
		for _, i := range subjects[t.Subject] {
			for _, j := range objects[t.Object] {
				masks[i][j] |= mask
			}
		}
	}
	return masks
}

func placesOf(names []string) map[string][]int {
	places := map[string][]int{}
	for i, name := range names {
		places[name] = append(places[name], i)
	}
	return places
}

func noneTwice(names []string) bool { return len(placesOf(names)) == len(names) }
