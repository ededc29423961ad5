package axiom

import (
	"strconv"

	"fencepost/api"
)

// lineRoom is how long a line may be: a name, and two numbers of 64 bits with a blank ahead of each.
const lineRoom = len("order") + 2*len(" -9223372036854775808")

// Line answers what is to be said of a candidate as a line of text.
func Line(j api.Judged) string {
	if j.OK {
		return "ok"
	}
	l := append(make([]byte, 0, lineRoom), name(j.Why)...)
	for _, n := range [...]int{j.A, j.B} {
		l = strconv.AppendInt(append(l, ' '), int64(n), 10)
	}
	return string(l)
}

// name answers the name of why a candidate is not allowed, other of a number that is none's.
func name(why int) string {
	switch why {
	case api.WhyForm:
		return "form"
	case api.WhyOrder:
		return "order"
	case api.WhyValue:
		return "value"
	case api.WhyPair:
		return "pair"
	}
	return "other"
}
