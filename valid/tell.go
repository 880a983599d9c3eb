package valid

import (
	"errors"
	"strings"

	"gatehouse/api"
)

// Tell is what an error of this program says: its number, its place, its word.
func Tell(err error) (api.Errno, int, int, string) {
	if err == nil {
		return api.OK, 0, 0, ""
	}
	var f *api.Fault
	if !errors.As(err, &f) {
		return numberOf(err), 0, 0, ""
	}
	if f == nil {
		return api.ErrNil, 0, 0, ""
	}
	return f.Code, f.Line, f.Col, strings.Clone(f.Word)
}

func numberOf(err error) api.Errno {
	for _, e := range numbers() {
		if errors.Is(err, e) {
			return e
		}
	}
	return api.ErrArg
}

// numbers are the errors' numbers, rising: of several that an error has, the least one counts.
func numbers() []api.Errno {
	return []api.Errno{
		api.ErrArg, api.ErrNil, api.ErrRange, api.ErrMany, api.ErrLong,
		api.ErrName,
		api.ErrByte, api.ErrQuote, api.ErrEscape, api.ErrNumber,
		api.ErrSyntax,
		api.ErrUnknown, api.ErrTwice,
		api.ErrNoRule, api.ErrNoPair, api.ErrNoExcept, api.ErrKind,
		api.ErrPage,
		api.ErrAddress, api.ErrPoison,
		api.ErrRoom, api.ErrBlock,
		api.ErrSlots, api.ErrSlot, api.ErrHeld,
		api.ErrShape,
		api.ErrFull,
		api.ErrTorn,
		api.ErrWorn, api.ErrConfig,
		api.ErrHistory,
		api.ErrPanic, api.ErrClosed,
		api.ErrLine,
	}
}
