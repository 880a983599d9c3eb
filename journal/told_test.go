package journal_test

import (
	"fmt"
	"strings"

	"gatehouse/api"
)

// What went wrong is told in a few bytes, however long it is.

func short(bytes string) string {
	if len(bytes) <= 60 {
		return fmt.Sprintf("[% x]", bytes)
	}
	return fmt.Sprintf("[% x .. % x, %d bytes]", bytes[:24], bytes[len(bytes)-24:], len(bytes))
}

func told(e api.Entry) string {
	if len(e.Text) <= 40 {
		return fmt.Sprintf("{%d, %q}", e.Version, e.Text)
	}
	return fmt.Sprintf("{%d, %d bytes}", e.Version, len(e.Text))
}

func toldAll(entries []api.Entry) string {
	var all []string
	for n, e := range entries {
		if n == 20 {
			all = append(all, fmt.Sprintf(".. (%d in all)", len(entries)))
			break
		}
		all = append(all, told(e))
	}
	return "[" + strings.Join(all, ", ") + "]"
}
