package why

import (
	"strconv"
	"strings"

	"gatehouse/api"
)

// line is a text in memory of its own, which the joining of one part alone is not.
func line(parts ...string) string { return strings.Clone(strings.Join(parts, "")) }

// missing has a line for each name of the triple that is not there.
func missing(t api.Triple, there presence) []string {
	kinds := [3]string{"no subject ", "no object ", "no action "}
	names := [3]string{t.Subject, t.Object, t.Action}
	var lines []string
	for i, is := range there {
		if !is {
			lines = append(lines, line(kinds[i], names[i]))
		}
	}
	return lines
}

func ruleLines(verdict string, r api.Reason) []string {
	return []string{
		line(verdict, strconv.Itoa(r.Rule)),
		line("who: ", written(r.Who)),
		line("what: ", written(r.What)),
	}
}

func written(way []string) string { return strings.Join(way, " > ") }
