package event

import (
	"strconv"
	"strings"

	"fencepost/api"
)

// addrDigits is how many digits an address has.
const addrDigits = 16

// names has of each kind its name in texts.
func names() [api.EvFence + 1]string {
	return [...]string{
		api.EvLoad:  "load",
		api.EvStore: "store",
		api.EvLR:    "lr",
		api.EvSC:    "sc",
		api.EvAmo:   "amo",
		api.EvFence: "fence",
	}
}

// Text answers an event's text.
func Text(e api.Event) string {
	if Check(e) != api.OK {
		return ""
	}
	s := strconv.Itoa(e.Hart) + ":" + strconv.Itoa(e.At) + " " + names()[e.Kind]
	if Memory(e) {
		addr := digits(e.Addr)
		s += " " + strings.Repeat("0", addrDigits-len(addr)) + addr
	}
	if Reads(e) {
		s += " r" + digits(e.Load)
	}
	if Writes(e) {
		s += " w" + digits(e.Store)
	}
	return s
}

// digits answers a number's hexadecimal digits.
func digits(x uint64) string {
	return strconv.FormatUint(x, 16)
}
